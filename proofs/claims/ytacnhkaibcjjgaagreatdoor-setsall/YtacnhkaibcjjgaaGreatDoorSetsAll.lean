/-
  What is proved: jigsawlaw04.SetsAll returns true at every domain, where the listed library variables (among them the table internal/strconv.uint64pow10) read as their initialisers lay them (the card ties that to the program's text); no other condition.
-/
import Derived.Test.YtacnhkaibcjjgaaGreatDoorRows
import Derived.Test.YtacnhkaibcjjgaaGreatDoorTie
import Derived.Test.YtacnhkaibcjjgaaGreatDoorCards
import Derived.Test.YtacnhkaibcjjgaaGreatDoorTej
import Derived.Test.YtacnhkaibcjjgaaGreatDoorVd
import Derived.ChangeMaps5
import Derived.SevenTiedAt
namespace Go.Proofs.YtacnhkaibcjjgaaGreatDoor.setsAll
open Go.ChangeShapes Go.WideShapes Go.ChangeAt Go.RowKit Go.ChangeMaps
set_option linter.unusedVariables false
set_option linter.unusedSimpArgs false

set_option maxRecDepth 100000 in
theorem lifted (os : Os) (started : os.Started) (H : Type) (enc : TypeId × Value → H) :
    ReturnsInHanded {} Tryz.checked os 5 .any (fun w args => (Rows.setsAllSpec.pre enc Tryz.prog Tryz.f5 [] false w args ∧ laidMetH Tryz.prog laidL w) ∧ sizedMet enc Tryz.prog Tryz.f5 (OpenSpec.ofChange Rows.setsAllSpec) false w args)
      (Rows.setsAllSpec.post enc Tryz.prog Tryz.f5 false true false false) := by
  refine returns_shaped (s := Rows.setsAllSpec) started (by kernel_rfl) Tryz.func5
    (ChangeSpec.witness_shaped (enc := enc) (C := Tryz.checked) (os := os) (X := fun w _ => laidMetH Tryz.prog laidL w) false (World.laidAll Tryz.prog os laidL) #[.agg #[.bool false, .slice none 0 0, .slice none 0 0, .slice none 0 0, .int .i64 0, .int .i64 0]] 5 (World.laidAll_os _ _ _)
      (World.shaped_of_ZipB (by kernel_rfl) (by kernel_rfl)) (by kernel_rfl) (by kernel_rfl) (by kernel_rfl) (door_met os _)) ?_
  intro W base args ds gs before hval0 hW hsz0 hL hsh
  have hval : ∀ (j : Nat) t v, Tryz.f5.params[j]? = some t → args[j]? = some v → Value.okWide Tryz.prog W .any base t v := hval0
  have hW' := hW
  obtain ⟨p, q, hA0, hV, rfl, hfz, hnd⟩ := hW
  have hA : DataW.TrodAll enc Tryz.prog W 0 (fun _ => true) true Tryz.f5.params.toList args.toList ds p := hA0
  rw [Tryz.params5] at hA hval
  obtain ⟨v0, vs0, d0, ds0, p0, q0, hargs, rfl, rfl, h0, r0⟩ := trodAll_cons hA
  obtain ⟨rfl, rfl, rfl⟩ := trodAll_nil r0
  obtain rfl : args = #[v0] := by cases args; simp_all
  obtain ⟨rfl, rfl⟩ := trodVars_none hV
  have k0 := h0
  have lt0 : ∀ x ∈ p0, x.block < W.heap.size := by obtain ⟨m, hm⟩ := k0; exact DataW.trod_lt m _ _ _ hm
  obtain ⟨D0, fr0, hD0⟩ := dom_in2 0 (hval 0 37 v0 rfl rfl) h0 lt0 hsz0 rfl rfl
  clear hA0 hval0
  refine (sall_walk _ D0 fr0 W hD0 (maxl_of hsh) (errv_of hL) (of_laid hL)).mono fun e W' ⟨he, bel⟩ => ?_
  subst he
  have kept37 := fun {d : DataW H} {p : List MemPlace} {v : Value} (k : ∃ fuel, DataW.trod enc Tryz.prog W 0 (fun _ => true) true fuel 37 v.cells.toList = some (d, p)) (lt : ∀ x ∈ p, x.block < W.heap.size) => Below.trod laidOut (by kernel_rfl) (of_decide_eq_true (by kernel_rfl)) k bel lt
  exact ⟨_, rfl, _, _, _, [], _, [], hW', trodAll_mk1 (shut_bool Tryz.underlying4 _), (trodAll_cons_mk (kept37 k0 lt0) trodAll_mk0), rfl, bel.frame _, fun h => by cases h⟩

theorem over : Rows.SetsAllSaid :=
  OpenClaim.holds_of_wide 5 Tryz.f5 rfl rfl rfl rfl rfl rfl rfl ⟨rfl, rfl, rfl, rfl, rfl⟩ rfl rfl rfl rfl rfl (by kernel_rfl) Tryz.func5 (by kernel_rfl)
    (of_decide_eq_true (by kernel_rfl)) (by unfold Func.isWrapper; first | (rw [if_pos (by decide +kernel)]; kernel_rfl) | (rw [if_neg (by decide +kernel)]; exact ⟨rfl, rfl⟩))
    (fun os started H enc _ => lifted os started H enc)

theorem proved : Rows.SetsAllCardSaid :=
  Claim7.holds_tied_plain_at .later [] [.data, .data, .data, .data, .sentinel, .sentinel, .pinned] true (true, "59b669598034f7d0f461cc10ef2f699107b792866600f52abd4b10be3a018778") true
    over (fun _ h => by cases h) (by kernel_rfl) (fun _ h => by cases h) setsAll_row_tie rfl ⟨rfl, rfl⟩ (by kernel_rfl) rfl
    (fun f fn hf hfn => by
      obtain rfl : f = 5 := Option.some.inj ((show Tryz.prog.funcNamed "jigsaw/jigsawlaw04.SetsAll" = some 5 by kernel_rfl).symm.trans hf) |>.symm
      obtain rfl : fn = Tryz.f5 := (Option.some.inj (Tryz.func5.symm.trans hfn)).symm
      exact ⟨by kernel_rfl, fun j t ht => by
        rw [Tryz.params5] at ht
        have hm : t ∈ [37] := by have := Array.mem_of_getElem? ht; simp at this ⊢; omega
        have hall : ([37].all fun u => !Tryz.prog.wantsStandIn u) = true := by kernel_rfl
        exact (show Tryz.prog.wantsStandIn t = false by simpa using List.all_eq_true.1 hall t hm)⟩)
    (by kernel_rfl)
end Go.Proofs.YtacnhkaibcjjgaaGreatDoor.setsAll

namespace Go.Proofs.YtacnhkaibcjjgaaGreatDoor
theorem setsAll_holds : Rows.SetsAllCardSaid := setsAll.proved
end Go.Proofs.YtacnhkaibcjjgaaGreatDoor
