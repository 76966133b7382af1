/-
  What is proved: jigsawlaw04.SetsMakes returns true at every two slices of 64-bit numbers, two bounds, domain and third slice, where the listed library variables (among them the table internal/strconv.uint64pow10) read as their initialisers lay them (the card ties that to the program's text); no other condition.
-/
import Derived.Test.YtacnhkaibcjjgaaGreatDoorRows
import Derived.Test.YtacnhkaibcjjgaaGreatDoorTie
import Derived.Test.YtacnhkaibcjjgaaGreatDoorCards
import Derived.Test.YtacnhkaibcjjgaaGreatDoorTej
import Derived.Test.YtacnhkaibcjjgaaGreatDoorUk
import Derived.ChangeMaps5
import Derived.SevenTiedAt
namespace Go.Proofs.YtacnhkaibcjjgaaGreatDoor.setsMakes
open Go.ChangeShapes Go.WideShapes Go.ChangeAt Go.RowKit Go.ChangeMaps
set_option linter.unusedVariables false
set_option linter.unusedSimpArgs false

set_option maxRecDepth 100000 in
theorem lifted (os : Os) (started : os.Started) (H : Type) (enc : TypeId × Value → H) :
    ReturnsInHanded {} Tryz.checked os 4 .any (fun w args => (Rows.setsMakesSpec.pre enc Tryz.prog Tryz.f4 [] false w args ∧ laidMetH Tryz.prog laidL w) ∧ sizedMet enc Tryz.prog Tryz.f4 (OpenSpec.ofChange Rows.setsMakesSpec) false w args)
      (Rows.setsMakesSpec.post enc Tryz.prog Tryz.f4 false true false false) := by
  refine returns_shaped (s := Rows.setsMakesSpec) started (by kernel_rfl) Tryz.func4
    (ChangeSpec.witness_shaped (enc := enc) (C := Tryz.checked) (os := os) (X := fun w _ => laidMetH Tryz.prog laidL w) false (World.laidAll Tryz.prog os laidL) #[.slice none 0 0, .slice none 0 0, .int .i64 0, .int .i64 0, .agg #[.bool false, .slice none 0 0, .slice none 0 0, .slice none 0 0, .int .i64 0, .int .i64 0], .slice none 0 0] 4 (World.laidAll_os _ _ _)
      (World.shaped_of_ZipB (by kernel_rfl) (by kernel_rfl)) (by kernel_rfl) (by kernel_rfl) (by kernel_rfl) (door_met os _)) ?_
  intro W base args ds gs before hval0 hW hsz0 hL hsh
  have hval : ∀ (j : Nat) t v, Tryz.f4.params[j]? = some t → args[j]? = some v → Value.okWide Tryz.prog W .any base t v := hval0
  have hW' := hW
  obtain ⟨p, q, hA0, hV, rfl, hfz, hnd⟩ := hW
  have hA : DataW.TrodAll enc Tryz.prog W 0 (fun _ => true) true Tryz.f4.params.toList args.toList ds p := hA0
  rw [Tryz.params4] at hA hval
  obtain ⟨v0, vs0, d0, ds0, p0, q0, hargs, rfl, rfl, h0, r0⟩ := trodAll_cons hA
  obtain ⟨v1, vs1, d1, ds1, p1, q1, rfl, rfl, rfl, h1, r1⟩ := trodAll_cons r0
  obtain ⟨v2, vs2, d2, ds2, p2, q2, rfl, rfl, rfl, h2, r2⟩ := trodAll_cons r1
  obtain ⟨v3, vs3, d3, ds3, p3, q3, rfl, rfl, rfl, h3, r3⟩ := trodAll_cons r2
  obtain ⟨v4, vs4, d4, ds4, p4, q4, rfl, rfl, rfl, h4, r4⟩ := trodAll_cons r3
  obtain ⟨v5, vs5, d5, ds5, p5, q5, rfl, rfl, rfl, h5, r5⟩ := trodAll_cons r4
  obtain ⟨rfl, rfl, rfl⟩ := trodAll_nil r5
  obtain rfl : args = #[v0, v1, v2, v3, v4, v5] := by cases args; simp_all
  obtain ⟨rfl, rfl⟩ := trodVars_none hV
  have k0 := h0
  have lt0 : ∀ x ∈ p0, x.block < W.heap.size := by obtain ⟨m, hm⟩ := k0; exact DataW.trod_lt m _ _ _ hm
  obtain ⟨a0, len0, cap0, rfl⟩ := okWide_slice Tryz.underlying22 (hval 0 22 v0 rfl rfl)
  obtain ⟨l0, hS0⟩ := ints_in h0 lt0
  have hz0 : l0.length * 8 ≤ 140737488351232 := by
    obtain ⟨fuel, hf⟩ := k0
    obtain ⟨a', cap', e, _⟩ := hS0
    injection e with e1 e2 e3
    rw [← e2]
    exact ints_sized 0 hf hsz0 rfl rfl
  have k1 := h1
  have lt1 : ∀ x ∈ p1, x.block < W.heap.size := by obtain ⟨m, hm⟩ := k1; exact DataW.trod_lt m _ _ _ hm
  obtain ⟨a1, len1, cap1, rfl⟩ := okWide_slice Tryz.underlying22 (hval 1 22 v1 rfl rfl)
  obtain ⟨l1, hS1⟩ := ints_in h1 lt1
  have hz1 : l1.length * 8 ≤ 140737488351232 := by
    obtain ⟨fuel, hf⟩ := k1
    obtain ⟨a', cap', e, _⟩ := hS1
    injection e with e1 e2 e3
    rw [← e2]
    exact ints_sized 1 hf hsz0 rfl rfl
  have k2 := h2
  have lt2 : ∀ x ∈ p2, x.block < W.heap.size := by obtain ⟨m, hm⟩ := k2; exact DataW.trod_lt m _ _ _ hm
  obtain ⟨n2, rfl⟩ := okWide_int Tryz.underlying3 (hval 2 3 v2 rfl rfl)
  have k3 := h3
  have lt3 : ∀ x ∈ p3, x.block < W.heap.size := by obtain ⟨m, hm⟩ := k3; exact DataW.trod_lt m _ _ _ hm
  obtain ⟨n3, rfl⟩ := okWide_int Tryz.underlying3 (hval 3 3 v3 rfl rfl)
  have k4 := h4
  have lt4 : ∀ x ∈ p4, x.block < W.heap.size := by obtain ⟨m, hm⟩ := k4; exact DataW.trod_lt m _ _ _ hm
  obtain ⟨D4, fr4, hD4⟩ := dom_in2 4 (hval 4 37 v4 rfl rfl) h4 lt4 hsz0 rfl rfl
  have k5 := h5
  have lt5 : ∀ x ∈ p5, x.block < W.heap.size := by obtain ⟨m, hm⟩ := k5; exact DataW.trod_lt m _ _ _ hm
  obtain ⟨a5, len5, cap5, rfl⟩ := okWide_slice Tryz.underlying22 (hval 5 22 v5 rfl rfl)
  obtain ⟨l5, hS5⟩ := ints_in h5 lt5
  have hz5 : l5.length * 8 ≤ 140737488351232 := by
    obtain ⟨fuel, hf⟩ := k5
    obtain ⟨a', cap', e, _⟩ := hS5
    injection e with e1 e2 e3
    rw [← e2]
    exact ints_sized 5 hf hsz0 rfl rfl
  clear hA0 hval0
  refine (makes_walk _ _ l0 l1 n2 n3 _ D4 fr4 _ l5 W hS0 hS1 hz0 hz1 hD4 hS5 (maxl_of hsh) (errv_of hL) (of_laid hL)).mono fun e W' ⟨he, bel⟩ => ?_
  subst he
  have kept3 := fun {d : DataW H} {p : List MemPlace} {v : Value} (k : ∃ fuel, DataW.trod enc Tryz.prog W 0 (fun _ => true) true fuel 3 v.cells.toList = some (d, p)) (lt : ∀ x ∈ p, x.block < W.heap.size) => Below.trod laidOut (by kernel_rfl) (of_decide_eq_true (by kernel_rfl)) k bel lt
  have kept22 := fun {d : DataW H} {p : List MemPlace} {v : Value} (k : ∃ fuel, DataW.trod enc Tryz.prog W 0 (fun _ => true) true fuel 22 v.cells.toList = some (d, p)) (lt : ∀ x ∈ p, x.block < W.heap.size) => Below.trod laidOut (by kernel_rfl) (of_decide_eq_true (by kernel_rfl)) k bel lt
  have kept37 := fun {d : DataW H} {p : List MemPlace} {v : Value} (k : ∃ fuel, DataW.trod enc Tryz.prog W 0 (fun _ => true) true fuel 37 v.cells.toList = some (d, p)) (lt : ∀ x ∈ p, x.block < W.heap.size) => Below.trod laidOut (by kernel_rfl) (of_decide_eq_true (by kernel_rfl)) k bel lt
  exact ⟨_, rfl, _, _, _, [], _, [], hW', trodAll_mk1 (shut_bool Tryz.underlying4 _), (trodAll_cons_mk (kept22 k0 lt0) (trodAll_cons_mk (kept22 k1 lt1) (trodAll_cons_mk (kept3 k2 lt2) (trodAll_cons_mk (kept3 k3 lt3) (trodAll_cons_mk (kept37 k4 lt4) (trodAll_cons_mk (kept22 k5 lt5) trodAll_mk0)))))), rfl, bel.frame _, fun h => by cases h⟩

theorem over : Rows.SetsMakesSaid :=
  OpenClaim.holds_of_wide 4 Tryz.f4 rfl rfl rfl rfl rfl rfl rfl ⟨rfl, rfl, rfl, rfl, rfl⟩ rfl rfl rfl rfl rfl (by kernel_rfl) Tryz.func4 (by kernel_rfl)
    (of_decide_eq_true (by kernel_rfl)) (by unfold Func.isWrapper; first | (rw [if_pos (by decide +kernel)]; kernel_rfl) | (rw [if_neg (by decide +kernel)]; exact ⟨rfl, rfl⟩))
    (fun os started H enc _ => lifted os started H enc)

theorem proved : Rows.SetsMakesCardSaid :=
  Claim7.holds_tied_plain_at .later [] [.data, .data, .data, .data, .sentinel, .sentinel, .pinned] true (true, "59b669598034f7d0f461cc10ef2f699107b792866600f52abd4b10be3a018778") true
    over (fun _ h => by cases h) (by kernel_rfl) (fun _ h => by cases h) setsMakes_row_tie rfl ⟨rfl, rfl⟩ (by kernel_rfl) rfl
    (fun f fn hf hfn => by
      obtain rfl : f = 4 := Option.some.inj ((show Tryz.prog.funcNamed "jigsaw/jigsawlaw04.SetsMakes" = some 4 by kernel_rfl).symm.trans hf) |>.symm
      obtain rfl : fn = Tryz.f4 := (Option.some.inj (Tryz.func4.symm.trans hfn)).symm
      exact ⟨by kernel_rfl, fun j t ht => by
        rw [Tryz.params4] at ht
        have hm : t ∈ [22, 22, 3, 3, 37, 22] := by have := Array.mem_of_getElem? ht; simp at this ⊢; omega
        have hall : ([22, 22, 3, 3, 37, 22].all fun u => !Tryz.prog.wantsStandIn u) = true := by kernel_rfl
        exact (show Tryz.prog.wantsStandIn t = false by simpa using List.all_eq_true.1 hall t hm)⟩)
    (by kernel_rfl)
end Go.Proofs.YtacnhkaibcjjgaaGreatDoor.setsMakes

namespace Go.Proofs.YtacnhkaibcjjgaaGreatDoor
theorem setsMakes_holds : Rows.SetsMakesCardSaid := setsMakes.proved
end Go.Proofs.YtacnhkaibcjjgaaGreatDoor
