/-
  What is proved: jigsawlaw05.ConsRights returns true at every two constraints and every slice of truths, where the arguments are together of bulk at most 1048576 (the second form), and where the listed library variables (among them the table internal/strconv.uint64pow10) read as their initialisers lay them (the card ties that to the program's text); no other condition.
-/
import Derived.Test.YtpgecdhieakilaaGreatDoorRows
import Derived.Test.YtpgecdhieakilaaGreatDoorTie
import Derived.Test.YtpgecdhieakilaaGreatDoorCards
import Derived.Test.YtpgecdhieakilaaGreatDoorGbj
import Derived.Test.YtpgecdhieakilaaGreatDoorKaq
import Derived.SevenTiedAt
import Derived.Deep.DeepHandedRow
import Derived.ChangeSlices
import Derived.ChangeOld
import Derived.ChangeMaps5
namespace Go.Proofs.YtpgecdhieakilaaGreatDoor.consRights
open Go.ChangeShapes Go.WideShapes Go.ChangeAt Go.RowKit Go.ChangeMaps
set_option linter.unusedVariables false
set_option linter.unusedSimpArgs false

set_option maxRecDepth 100000 in
theorem lifted (os : Os) (started : os.Started) (H : Type) (enc : TypeId × Value → H) (F : Stop.Interp) :
    ReturnsInHanded {} Tryz.checked os 4 .any ((Rows.OpenSpec.upto Rows.consRightsSpec).preRow enc Tryz.prog Tryz.f4 Rows.consRightsUptoRow.domain false Rows.consRightsUptoRow.laid) (((Rows.OpenSpec.upto Rows.consRightsSpec).at F).post enc Tryz.prog Tryz.f4 false true false false) := by
  have hx : DataW.whole enc Tryz.prog ((World.laidAll Tryz.prog os laidL).forCall (fun _ _ => 0) ⟨#[], #[.agg #[.string { data := #[] }, .slice none 0 0], .agg #[.string { data := #[] }, .slice none 0 0], .slice none 0 0], []⟩).memory Tryz.f4.params.toList Rows.consRightsSpec.vars false (#[Value.agg #[.string { data := #[] }, .slice none 0 0], .agg #[.string { data := #[] }, .slice none 0 0], .slice none 0 0]).toList 8 = some ([.agg [.lit (.string []), .nil], .agg [.lit (.string []), .nil], .nil], [], []) := by kernel_rfl
  have hok : Input.okWideB Tryz.checked.prog ((World.laidAll Tryz.prog os laidL).forCall (fun _ _ => 0) ⟨#[], #[.agg #[.string { data := #[] }, .slice none 0 0], .agg #[.string { data := #[] }, .slice none 0 0], .slice none 0 0], []⟩) 4 ⟨#[], #[.agg #[.string { data := #[] }, .slice none 0 0], .agg #[.string { data := #[] }, .slice none 0 0], .slice none 0 0], []⟩ = true := by kernel_rfl
  refine returnsInHanded_of_row (C := Tryz.checked) (s := Rows.OpenSpec.upto Rows.consRightsSpec) own started (by kernel_rfl) Tryz.func4
    ⟨World.laidAll Tryz.prog os laidL, fun _ _ => 0, ⟨#[], #[.agg #[.string { data := #[] }, .slice none 0 0], .agg #[.string { data := #[] }, .slice none 0 0], .slice none 0 0], []⟩, World.laidAll_os _ _ _, World.shaped_of_ZipB (by kernel_rfl) (by kernel_rfl), (Input.okWide_of_okWideB (base := 0) hok).1, (Input.okWide_of_okWideB hok).2,
      OpenSpec.preRow_of_cond 8 hx (by kernel_rfl) (fun k hk => by cases hk; kernel_rfl) (by kernel_rfl) (door_met os _), by
        simp only [Assume.holds]
        exact ⟨by simp, by simp, by simp, by simp, by simp⟩⟩ ?_
  intro W base args ds gs before hval0 hW hconds hcond hsz0 hL hsh _
  have hval : ∀ (j : Nat) t v, Tryz.f4.params[j]? = some t → args[j]? = some v → Value.okWide Tryz.prog W .any base t v := hval0
  have hW' := hW
  have hbulk : Rows.uptoBulkAll (ds ++ gs) ≤ 1048576 := of_decide_eq_true (hcond _ rfl)
  obtain ⟨p, q, hA0, hV, rfl, hfz, hnd⟩ := hW
  have hA : DataW.TrodAll enc Tryz.prog W 0 (fun _ => true) true Tryz.f4.params.toList args.toList ds p := hA0
  rw [Tryz.params4] at hA hval
  obtain ⟨v0, vs0, d0, ds0, p0, q0, hargs, rfl, rfl, h0, r0⟩ := trodAll_cons hA
  obtain ⟨v1, vs1, d1, ds1, p1, q1, rfl, rfl, rfl, h1, r1⟩ := trodAll_cons r0
  obtain ⟨v2, vs2, d2, ds2, p2, q2, rfl, rfl, rfl, h2, r2⟩ := trodAll_cons r1
  obtain ⟨rfl, rfl, rfl⟩ := trodAll_nil r2
  obtain rfl : args = #[v0, v1, v2] := by cases args; simp_all
  obtain ⟨rfl, rfl⟩ := trodVars_none hV
  have k0 := h0
  have lt0 : ∀ x ∈ p0, x.block < W.heap.size := by obtain ⟨m, hm⟩ := k0; exact DataW.trod_lt m _ _ _ hm
  have bk0 : Rows.uptoBulk d0 ≤ 1048576 := Nat.le_trans (bulk_mem (j := 0) rfl) hbulk
  obtain ⟨fu0, hfu0⟩ := h0
  obtain ⟨cs0, rfl, _⟩ := okWide_struct Tryz.underlying32 (hval 0 32 v0 rfl rfl)
  obtain ⟨nm0, ag0, sv0, e0, hS0, hz0⟩ := op_con (x := (d0, p0)) (fuel := fu0) (by simpa [Value.cells] using hfu0) lt0 (sz_of 0 hsz0 rfl rfl)
  obtain rfl : cs0 = #[.string ⟨nm0.toArray⟩, sv0] := by cases cs0; simp_all
  obtain ⟨ca0, cc0, rfl, hcc0, hcm0⟩ := hz0.c
  have k1 := h1
  have lt1 : ∀ x ∈ p1, x.block < W.heap.size := by obtain ⟨m, hm⟩ := k1; exact DataW.trod_lt m _ _ _ hm
  have bk1 : Rows.uptoBulk d1 ≤ 1048576 := Nat.le_trans (bulk_mem (j := 1) rfl) hbulk
  obtain ⟨fu1, hfu1⟩ := h1
  obtain ⟨cs1, rfl, _⟩ := okWide_struct Tryz.underlying32 (hval 1 32 v1 rfl rfl)
  obtain ⟨nm1, ag1, sv1, e1, hS1, hz1⟩ := op_con (x := (d1, p1)) (fuel := fu1) (by simpa [Value.cells] using hfu1) lt1 (sz_of 1 hsz0 rfl rfl)
  obtain rfl : cs1 = #[.string ⟨nm1.toArray⟩, sv1] := by cases cs1; simp_all
  obtain ⟨ca1, cc1, rfl, hcc1, hcm1⟩ := hz1.c
  have k2 := h2
  have lt2 : ∀ x ∈ p2, x.block < W.heap.size := by obtain ⟨m, hm⟩ := k2; exact DataW.trod_lt m _ _ _ hm
  have bk2 : Rows.uptoBulk d2 ≤ 1048576 := Nat.le_trans (bulk_mem (j := 2) rfl) hbulk
  obtain ⟨fu2, hfu2⟩ := h2
  obtain ⟨a2, len2, cap2, rfl⟩ := okWide_slice Tryz.underlying33 (hval 2 33 v2 rfl rfl)
  have ln2 := op_len (x := (d2, p2)) (fuel := fu2) (a := a2) (len := len2) (cap := cap2) Tryz.underlying33 (by simpa [Value.cells] using hfu2)
  obtain ⟨l2, hS2, hz2, hf2⟩ := op_bools (x := (d2, p2)) (fuel := fu2) (by simpa [Value.cells] using hfu2) lt2 (sz_of 2 hsz0 rfl rfl)
  obtain rfl : len2 = l2.length := by obtain ⟨_, _, e, _⟩ := hS2; injection e
  have lb2 : l2.length ≤ 1048576 := Nat.le_trans ln2 bk2
  have hb0 := con_bulk (x := (d0, p0)) (fuel := fu0) (by simpa [Value.cells] using hfu0) hS0
  have hb1 := con_bulk (x := (d1, p1)) (fuel := fu1) (by simpa [Value.cells] using hfu1) hS1
  clear hA0 hval0
  refine (rights_walk nm0 nm1 ag0 ag1 l2 W (maxl_of hsh) hS0 rfl hS1 rfl hS2 rfl (Nat.le_trans hb0.2 bk0) (Nat.le_trans hb1.2 bk1) lb2 (fun g hg => ⟨Nat.le_trans (sum_mem hg) (Nat.le_trans hb0.1 bk0), fun t ht => ((hz0.g g hg).t t ht).l⟩) (fun g hg => ⟨Nat.le_trans (sum_mem hg) (Nat.le_trans hb1.1 bk1), fun t ht => ((hz1.g g hg).t t ht).l⟩) (Nat.le_trans (vars_sum ag0) (Nat.le_trans (Nat.le_trans hb0.1 bk0) (by omega)))).mono fun e W' ⟨he, bel⟩ => ?_
  subst he
  have kept32 := fun {d : DataW H} {p : List MemPlace} {v : Value} (k : ∃ fuel, DataW.trod enc Tryz.prog W 0 (fun _ => true) true fuel 32 v.cells.toList = some (d, p)) (lt : ∀ x ∈ p, x.block < W.heap.size) => Below.trod laidOut (by kernel_rfl) (of_decide_eq_true (by kernel_rfl)) k bel lt
  have kept33 := fun {d : DataW H} {p : List MemPlace} {v : Value} (k : ∃ fuel, DataW.trod enc Tryz.prog W 0 (fun _ => true) true fuel 33 v.cells.toList = some (d, p)) (lt : ∀ x ∈ p, x.block < W.heap.size) => Below.trod laidOut (by kernel_rfl) (of_decide_eq_true (by kernel_rfl)) k bel lt
  exact ⟨_, rfl, _, _, _, [], _, [], hW', trodAll_mk1 (shut_bool Tryz.underlying4 _), (trodAll_cons_mk (kept32 k0 lt0) (trodAll_cons_mk (kept32 k1 lt1) (trodAll_cons_mk (kept33 k2 lt2) trodAll_mk0))), rfl, bel.frame _, fun h => by cases h⟩

theorem over : Rows.ConsRightsUptoSaid :=
  OpenClaim.holds_of_cond 4 Tryz.f4 rfl rfl rfl rfl rfl rfl rfl ⟨rfl, rfl, rfl, rfl, rfl⟩ rfl rfl rfl rfl rfl (by kernel_rfl) Tryz.func4 (by kernel_rfl)
    (of_decide_eq_true (by kernel_rfl)) (by unfold Func.isWrapper; first | (rw [if_pos (by decide +kernel)]; kernel_rfl) | (rw [if_neg (by decide +kernel)]; exact ⟨rfl, rfl⟩))
    (fun os started H enc _ F => by rw [OpenClaim.pre_eq_preRow]; exact lifted os started H enc F)

theorem proved : Rows.ConsRightsUptoCardSaid :=
  Claim7.holds_tied_plain_at .later [] [.data, .data, .data, .data, .pinned] true (true, "cef7eb146087fc9eab390105723404fad8e8f765d5bfd7871ee042c7ddd5e572") false
    over (fun _ h => by cases h) (by kernel_rfl) (fun _ h => by cases h) consRightsUpto_row_tie rfl ⟨rfl, rfl⟩ (by kernel_rfl) rfl
    (fun f fn hf hfn => by
      obtain rfl : f = 4 := Option.some.inj ((show Tryz.prog.funcNamed "jigsaw/jigsawlaw05.ConsRights" = some 4 by kernel_rfl).symm.trans hf) |>.symm
      obtain rfl : fn = Tryz.f4 := (Option.some.inj (Tryz.func4.symm.trans hfn)).symm
      exact ⟨by kernel_rfl, fun j t ht => by
        rw [Tryz.params4] at ht
        have hm : t ∈ [32, 32, 33] := by have := Array.mem_of_getElem? ht; simp at this ⊢; omega
        have hall : ([32, 32, 33].all fun u => !Tryz.prog.wantsStandIn u) = true := by kernel_rfl
        exact (show Tryz.prog.wantsStandIn t = false by simpa using List.all_eq_true.1 hall t hm)⟩)
    (by kernel_rfl)
end Go.Proofs.YtpgecdhieakilaaGreatDoor.consRights

namespace Go.Proofs.YtpgecdhieakilaaGreatDoor
theorem consRights_holds : Rows.ConsRightsUptoCardSaid := consRights.proved
end Go.Proofs.YtpgecdhieakilaaGreatDoor
