/-
  What is proved: jigsawlaw04.SetsCuts returns true at every two domains, value and two bounds, where the listed library variables (among them the table internal/strconv.uint64pow10) read as their initialisers lay them (the card ties that to the program's text); no other condition.
-/
import Derived.Test.YthpbgplbgnefcaaGreatDoorRows
import Derived.Test.YthpbgplbgnefcaaGreatDoorTie
import Derived.Test.YthpbgplbgnefcaaGreatDoorCards
import Derived.Test.YthpbgplbgnefcaaGreatDoorTe
import Derived.Test.YthpbgplbgnefcaaGreatDoorOq
import Derived.ChangeMaps5
import Derived.SevenTiedAt
namespace Go.Proofs.YthpbgplbgnefcaaGreatDoor.setsCuts
open Go.ChangeShapes Go.WideShapes Go.ChangeAt Go.RowKit Go.ChangeMaps
set_option linter.unusedVariables false
set_option linter.unusedSimpArgs false

set_option maxRecDepth 100000 in
theorem lifted (os : Os) (started : os.Started) (H : Type) (enc : TypeId × Value → H) :
    ReturnsInHanded {} Tryz.checked os 6 .any (fun w args => (Rows.setsCutsSpec.pre enc Tryz.prog Tryz.f6 [] false w args ∧ laidMetH Tryz.prog laidL w) ∧ sizedMet enc Tryz.prog Tryz.f6 (OpenSpec.ofChange Rows.setsCutsSpec) false w args)
      (Rows.setsCutsSpec.post enc Tryz.prog Tryz.f6 false true false false) := by
  refine returns_shaped (s := Rows.setsCutsSpec) started (by kernel_rfl) Tryz.func6
    (ChangeSpec.witness_shaped (enc := enc) (C := Tryz.checked) (os := os) (X := fun w _ => laidMetH Tryz.prog laidL w) false (World.laidAll Tryz.prog os laidL) #[.agg #[.bool false, .slice none 0 0, .slice none 0 0, .slice none 0 0, .int .i64 0, .int .i64 0], .agg #[.bool false, .slice none 0 0, .slice none 0 0, .slice none 0 0, .int .i64 0, .int .i64 0], .int .i64 0, .int .i64 0, .int .i64 0] 6 (World.laidAll_os _ _ _)
      (World.shaped_of_ZipB (by kernel_rfl) (by kernel_rfl)) (by kernel_rfl) (by kernel_rfl) (by kernel_rfl) (door_met os _)) ?_
  intro W base args ds gs before hval0 hW hsz0 hL hsh
  have hval : ∀ (j : Nat) t v, Tryz.f6.params[j]? = some t → args[j]? = some v → Value.okWide Tryz.prog W .any base t v := hval0
  have hW' := hW
  obtain ⟨p, q, hA0, hV, rfl, hfz, hnd⟩ := hW
  have hA : DataW.TrodAll enc Tryz.prog W 0 (fun _ => true) true Tryz.f6.params.toList args.toList ds p := hA0
  rw [Tryz.params6] at hA hval
  obtain ⟨v0, vs0, d0, ds0, p0, q0, hargs, rfl, rfl, h0, r0⟩ := trodAll_cons hA
  obtain ⟨v1, vs1, d1, ds1, p1, q1, rfl, rfl, rfl, h1, r1⟩ := trodAll_cons r0
  obtain ⟨v2, vs2, d2, ds2, p2, q2, rfl, rfl, rfl, h2, r2⟩ := trodAll_cons r1
  obtain ⟨v3, vs3, d3, ds3, p3, q3, rfl, rfl, rfl, h3, r3⟩ := trodAll_cons r2
  obtain ⟨v4, vs4, d4, ds4, p4, q4, rfl, rfl, rfl, h4, r4⟩ := trodAll_cons r3
  obtain ⟨rfl, rfl, rfl⟩ := trodAll_nil r4
  obtain rfl : args = #[v0, v1, v2, v3, v4] := by cases args; simp_all
  obtain ⟨rfl, rfl⟩ := trodVars_none hV
  have k0 := h0
  have lt0 : ∀ x ∈ p0, x.block < W.heap.size := by obtain ⟨m, hm⟩ := k0; exact DataW.trod_lt m _ _ _ hm
  obtain ⟨D0, fr0, hD0⟩ := dom_in2 0 (hval 0 37 v0 rfl rfl) h0 lt0 hsz0 rfl rfl
  have k1 := h1
  have lt1 : ∀ x ∈ p1, x.block < W.heap.size := by obtain ⟨m, hm⟩ := k1; exact DataW.trod_lt m _ _ _ hm
  obtain ⟨D1, fr1, hD1⟩ := dom_in2 1 (hval 1 37 v1 rfl rfl) h1 lt1 hsz0 rfl rfl
  have k2 := h2
  have lt2 : ∀ x ∈ p2, x.block < W.heap.size := by obtain ⟨m, hm⟩ := k2; exact DataW.trod_lt m _ _ _ hm
  obtain ⟨n2, rfl⟩ := okWide_int Tryz.underlying2 (hval 2 2 v2 rfl rfl)
  have k3 := h3
  have lt3 : ∀ x ∈ p3, x.block < W.heap.size := by obtain ⟨m, hm⟩ := k3; exact DataW.trod_lt m _ _ _ hm
  obtain ⟨n3, rfl⟩ := okWide_int Tryz.underlying3 (hval 3 3 v3 rfl rfl)
  have k4 := h4
  have lt4 : ∀ x ∈ p4, x.block < W.heap.size := by obtain ⟨m, hm⟩ := k4; exact DataW.trod_lt m _ _ _ hm
  obtain ⟨n4, rfl⟩ := okWide_int Tryz.underlying3 (hval 4 3 v4 rfl rfl)
  clear hA0 hval0
  refine (cuts_walk _ _ D0 D1 fr0 fr1 n2 n3 n4 W hD0 hD1 (maxl_of hsh) (errv_of hL) (of_laid hL)).mono fun e W' ⟨he, bel⟩ => ?_
  subst he
  have kept2 := fun {d : DataW H} {p : List MemPlace} {v : Value} (k : ∃ fuel, DataW.trod enc Tryz.prog W 0 (fun _ => true) true fuel 2 v.cells.toList = some (d, p)) (lt : ∀ x ∈ p, x.block < W.heap.size) => Below.trod laidOut (by kernel_rfl) (of_decide_eq_true (by kernel_rfl)) k bel lt
  have kept3 := fun {d : DataW H} {p : List MemPlace} {v : Value} (k : ∃ fuel, DataW.trod enc Tryz.prog W 0 (fun _ => true) true fuel 3 v.cells.toList = some (d, p)) (lt : ∀ x ∈ p, x.block < W.heap.size) => Below.trod laidOut (by kernel_rfl) (of_decide_eq_true (by kernel_rfl)) k bel lt
  have kept37 := fun {d : DataW H} {p : List MemPlace} {v : Value} (k : ∃ fuel, DataW.trod enc Tryz.prog W 0 (fun _ => true) true fuel 37 v.cells.toList = some (d, p)) (lt : ∀ x ∈ p, x.block < W.heap.size) => Below.trod laidOut (by kernel_rfl) (of_decide_eq_true (by kernel_rfl)) k bel lt
  exact ⟨_, rfl, _, _, _, [], _, [], hW', trodAll_mk1 (shut_bool Tryz.underlying4 _), (trodAll_cons_mk (kept37 k0 lt0) (trodAll_cons_mk (kept37 k1 lt1) (trodAll_cons_mk (kept2 k2 lt2) (trodAll_cons_mk (kept3 k3 lt3) (trodAll_cons_mk (kept3 k4 lt4) trodAll_mk0))))), rfl, bel.frame _, fun h => by cases h⟩

theorem over : Rows.SetsCutsSaid :=
  OpenClaim.holds_of_wide 6 Tryz.f6 rfl rfl rfl rfl rfl rfl rfl ⟨rfl, rfl, rfl, rfl, rfl⟩ rfl rfl rfl rfl rfl (by kernel_rfl) Tryz.func6 (by kernel_rfl)
    (of_decide_eq_true (by kernel_rfl)) (by unfold Func.isWrapper; first | (rw [if_pos (by decide +kernel)]; kernel_rfl) | (rw [if_neg (by decide +kernel)]; exact ⟨rfl, rfl⟩))
    (fun os started H enc _ => lifted os started H enc)

theorem proved : Rows.SetsCutsCardSaid :=
  Claim7.holds_tied_plain_at .later [] [.data, .data, .data, .data, .sentinel, .sentinel, .pinned] true (true, "59b669598034f7d0f461cc10ef2f699107b792866600f52abd4b10be3a018778") true
    over (fun _ h => by cases h) (by kernel_rfl) (fun _ h => by cases h) setsCuts_row_tie rfl ⟨rfl, rfl⟩ (by kernel_rfl) rfl
    (fun f fn hf hfn => by
      obtain rfl : f = 6 := Option.some.inj ((show Tryz.prog.funcNamed "jigsaw/jigsawlaw04.SetsCuts" = some 6 by kernel_rfl).symm.trans hf) |>.symm
      obtain rfl : fn = Tryz.f6 := (Option.some.inj (Tryz.func6.symm.trans hfn)).symm
      exact ⟨by kernel_rfl, fun j t ht => by
        rw [Tryz.params6] at ht
        have hm : t ∈ [37, 37, 2, 3, 3] := by have := Array.mem_of_getElem? ht; simp at this ⊢; omega
        have hall : ([37, 37, 2, 3, 3].all fun u => !Tryz.prog.wantsStandIn u) = true := by kernel_rfl
        exact (show Tryz.prog.wantsStandIn t = false by simpa using List.all_eq_true.1 hall t hm)⟩)
    (by kernel_rfl)
end Go.Proofs.YthpbgplbgnefcaaGreatDoor.setsCuts

namespace Go.Proofs.YthpbgplbgnefcaaGreatDoor
theorem setsCuts_holds : Rows.SetsCutsCardSaid := setsCuts.proved
end Go.Proofs.YthpbgplbgnefcaaGreatDoor
