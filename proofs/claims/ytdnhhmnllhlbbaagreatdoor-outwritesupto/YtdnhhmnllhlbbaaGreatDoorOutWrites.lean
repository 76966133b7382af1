/-
  What is proved: jigsawlaw21.OutWrites returns true at every outputs, every slice of values and every four numbers, where the arguments are together of bulk at most 1048576 (the second form), and where the listed library variables (two tables of math/bits, internal/strconv.uint64pow10, two of unicode/utf8, strconv.ErrRange and strconv.ErrSyntax) read as their initialisers lay them (the card ties that to the program's text, in the seat's pruned copy of the project); no other condition.
-/
import Derived.Test.YtdnhhmnllhlbbaaGreatDoorRows
import Derived.Test.YtdnhhmnllhlbbaaGreatDoorTie
import Derived.Test.YtdnhhmnllhlbbaaGreatDoorCards
import Derived.Test.YtdnhhmnllhlbbaaGreatDoorPx
import Derived.Test.YtdnhhmnllhlbbaaGreatDoorPwj
import Derived.Test.YtdnhhmnllhlbbaaGreatDoorQpj
import Derived.SevenTiedAt
import Derived.Deep.DeepHandedRow
import Derived.ChangeSlices
import Derived.ChangeOld
import Derived.ChangeMaps5
namespace Go.Proofs.YtdnhhmnllhlbbaaGreatDoor.outWrites
open Go.ChangeShapes Go.WideShapes Go.ChangeAt Go.RowKit Go.ChangeMaps
set_option linter.unusedVariables false
set_option linter.unusedSimpArgs false

set_option maxRecDepth 100000 in
theorem lifted (os : Os) (started : os.Started) (H : Type) (enc : TypeId × Value → H) (F : Stop.Interp) :
    ReturnsInHanded {} Tryz.checked os 3 .any ((Rows.OpenSpec.upto Rows.outWritesSpec).preRow enc Tryz.prog Tryz.f3 Rows.outWritesUptoRow.domain false Rows.outWritesUptoRow.laid) (((Rows.OpenSpec.upto Rows.outWritesSpec).at F).post enc Tryz.prog Tryz.f3 false true false false) := by
  have hx : DataW.whole enc Tryz.prog ((World.laidAll Tryz.prog os laidL).forCall (fun _ _ => 0) ⟨#[], #[.slice none 0 0, .slice none 0 0, .int .i64 0, .int .i64 0, .int .i64 0, .int .i64 0], []⟩).memory Tryz.f3.params.toList Rows.outWritesSpec.vars false (#[Value.slice none 0 0, .slice none 0 0, .int .i64 0, .int .i64 0, .int .i64 0, .int .i64 0]).toList 8 = some ([.nil, .nil, .lit (.int .i64 0), .lit (.int .i64 0), .lit (.int .i64 0), .lit (.int .i64 0)], [], []) := by kernel_rfl
  have hok : Input.okWideB Tryz.checked.prog ((World.laidAll Tryz.prog os laidL).forCall (fun _ _ => 0) ⟨#[], #[.slice none 0 0, .slice none 0 0, .int .i64 0, .int .i64 0, .int .i64 0, .int .i64 0], []⟩) 3 ⟨#[], #[.slice none 0 0, .slice none 0 0, .int .i64 0, .int .i64 0, .int .i64 0, .int .i64 0], []⟩ = true := by kernel_rfl
  refine returnsInHanded_of_row (C := Tryz.checked) (s := Rows.OpenSpec.upto Rows.outWritesSpec) own started (by kernel_rfl) Tryz.func3
    ⟨World.laidAll Tryz.prog os laidL, fun _ _ => 0, ⟨#[], #[.slice none 0 0, .slice none 0 0, .int .i64 0, .int .i64 0, .int .i64 0, .int .i64 0], []⟩, World.laidAll_os _ _ _, World.shaped_of_ZipB (by kernel_rfl) (by kernel_rfl), (Input.okWide_of_okWideB (base := 0) hok).1, (Input.okWide_of_okWideB hok).2,
      OpenSpec.preRow_of_cond 8 hx (by kernel_rfl) (fun k hk => by cases hk; kernel_rfl) (by kernel_rfl) (door_met os _), by
        simp only [Assume.holds]
        exact ⟨by simp, by simp, by simp, by simp, by simp⟩⟩ ?_
  intro W base args ds gs before hval0 hW hconds hcond hsz0 hL hsh _
  have hval : ∀ (j : Nat) t v, Tryz.f3.params[j]? = some t → args[j]? = some v → Value.okWide Tryz.prog W .any base t v := hval0
  have hW' := hW
  have hbulk : Rows.uptoBulkAll (ds ++ gs) ≤ 1048576 := of_decide_eq_true (hcond _ rfl)
  obtain ⟨p, q, hA0, hV, rfl, hfz, hnd⟩ := hW
  have hA : DataW.TrodAll enc Tryz.prog W 0 (fun _ => true) true Tryz.f3.params.toList args.toList ds p := hA0
  rw [Tryz.params3] at hA hval
  obtain ⟨v0, vs0, d0, ds0, p0, q0, hargs, rfl, rfl, h0, r0⟩ := trodAll_cons hA
  obtain ⟨v1, vs1, d1, ds1, p1, q1, rfl, rfl, rfl, h1, r1⟩ := trodAll_cons r0
  obtain ⟨v2, vs2, d2, ds2, p2, q2, rfl, rfl, rfl, h2, r2⟩ := trodAll_cons r1
  obtain ⟨v3, vs3, d3, ds3, p3, q3, rfl, rfl, rfl, h3, r3⟩ := trodAll_cons r2
  obtain ⟨v4, vs4, d4, ds4, p4, q4, rfl, rfl, rfl, h4, r4⟩ := trodAll_cons r3
  obtain ⟨v5, vs5, d5, ds5, p5, q5, rfl, rfl, rfl, h5, r5⟩ := trodAll_cons r4
  obtain ⟨rfl, rfl, rfl⟩ := trodAll_nil r5
  obtain rfl : args = #[v0, v1, v2, v3, v4, v5] := by cases args; simp_all
  obtain ⟨rfl, rfl⟩ := trodVars_none hV
  have k0 := h0
  have lt0 : ∀ x ∈ p0, x.block < W.heap.size := by obtain ⟨m, hm⟩ := k0; exact DataW.trod_lt m _ _ _ hm
  have bk0 : Rows.uptoBulk d0 ≤ 1048576 := Nat.le_trans (bulk_mem (j := 0) rfl) hbulk
  obtain ⟨fu0, hfu0⟩ := h0
  obtain ⟨a0, len0, cap0, rfl⟩ := okWide_slice Tryz.underlying22 (hval 0 22 v0 rfl rfl)
  obtain ⟨l0, hS0⟩ := ob_outs2 (x := (d0, p0)) (fuel := fu0) (by simpa [Value.cells] using hfu0) lt0 (sz_of 0 hsz0 rfl rfl) bk0
  have k1 := h1
  have lt1 : ∀ x ∈ p1, x.block < W.heap.size := by obtain ⟨m, hm⟩ := k1; exact DataW.trod_lt m _ _ _ hm
  have bk1 : Rows.uptoBulk d1 ≤ 1048576 := Nat.le_trans (bulk_mem (j := 1) rfl) hbulk
  obtain ⟨fu1, hfu1⟩ := h1
  obtain ⟨a1, len1, cap1, rfl⟩ := okWide_slice Tryz.underlying23 (hval 1 23 v1 rfl rfl)
  obtain ⟨l1, hS1⟩ := ob_vals_in (x := (d1, p1)) (fuel := fu1) (by simpa [Value.cells] using hfu1) lt1 (sz_of 1 hsz0 rfl rfl) bk1
  have k2 := h2
  have lt2 : ∀ x ∈ p2, x.block < W.heap.size := by obtain ⟨m, hm⟩ := k2; exact DataW.trod_lt m _ _ _ hm
  have bk2 : Rows.uptoBulk d2 ≤ 1048576 := Nat.le_trans (bulk_mem (j := 2) rfl) hbulk
  obtain ⟨n2, rfl⟩ := okWide_int Tryz.underlying3 (hval 2 3 v2 rfl rfl)
  have k3 := h3
  have lt3 : ∀ x ∈ p3, x.block < W.heap.size := by obtain ⟨m, hm⟩ := k3; exact DataW.trod_lt m _ _ _ hm
  have bk3 : Rows.uptoBulk d3 ≤ 1048576 := Nat.le_trans (bulk_mem (j := 3) rfl) hbulk
  obtain ⟨n3, rfl⟩ := okWide_int Tryz.underlying3 (hval 3 3 v3 rfl rfl)
  have k4 := h4
  have lt4 : ∀ x ∈ p4, x.block < W.heap.size := by obtain ⟨m, hm⟩ := k4; exact DataW.trod_lt m _ _ _ hm
  have bk4 : Rows.uptoBulk d4 ≤ 1048576 := Nat.le_trans (bulk_mem (j := 4) rfl) hbulk
  obtain ⟨n4, rfl⟩ := okWide_int Tryz.underlying3 (hval 4 3 v4 rfl rfl)
  have k5 := h5
  have lt5 : ∀ x ∈ p5, x.block < W.heap.size := by obtain ⟨m, hm⟩ := k5; exact DataW.trod_lt m _ _ _ hm
  have bk5 : Rows.uptoBulk d5 ≤ 1048576 := Nat.le_trans (bulk_mem (j := 5) rfl) hbulk
  obtain ⟨n5, rfl⟩ := okWide_int Tryz.underlying3 (hval 5 3 v5 rfl rfl)
  clear hA0 hval0
  refine (writes_walk n2 n3 n4 n5 hS0.1 hS0.2 hS1 ⟨ob_int k3 n3 rfl, ob_int k4 n4 rfl, ob_int k5 n5 rfl⟩ (tens_of hL) (maxl_of hsh)).mono fun e W' ⟨he, bel⟩ => ?_
  subst he
  have kept3 := fun {d : DataW H} {p : List MemPlace} {v : Value} (k : ∃ fuel, DataW.trod enc Tryz.prog W 0 (fun _ => true) true fuel 3 v.cells.toList = some (d, p)) (lt : ∀ x ∈ p, x.block < W.heap.size) => Below.trod laidOut (by kernel_rfl) (of_decide_eq_true (by kernel_rfl)) k bel lt
  have kept22 := fun {d : DataW H} {p : List MemPlace} {v : Value} (k : ∃ fuel, DataW.trod enc Tryz.prog W 0 (fun _ => true) true fuel 22 v.cells.toList = some (d, p)) (lt : ∀ x ∈ p, x.block < W.heap.size) => Below.trod laidOut (by kernel_rfl) (of_decide_eq_true (by kernel_rfl)) k bel lt
  have kept23 := fun {d : DataW H} {p : List MemPlace} {v : Value} (k : ∃ fuel, DataW.trod enc Tryz.prog W 0 (fun _ => true) true fuel 23 v.cells.toList = some (d, p)) (lt : ∀ x ∈ p, x.block < W.heap.size) => Below.trod laidOut (by kernel_rfl) (of_decide_eq_true (by kernel_rfl)) k bel lt
  exact ⟨_, rfl, _, _, _, [], _, [], hW', trodAll_mk1 (shut_bool Tryz.underlying4 _), (trodAll_cons_mk (kept22 k0 lt0) (trodAll_cons_mk (kept23 k1 lt1) (trodAll_cons_mk (kept3 k2 lt2) (trodAll_cons_mk (kept3 k3 lt3) (trodAll_cons_mk (kept3 k4 lt4) (trodAll_cons_mk (kept3 k5 lt5) trodAll_mk0)))))), rfl, bel.frame _, fun h => by cases h⟩

theorem over : Rows.OutWritesUptoSaid :=
  OpenClaim.holds_of_cond 3 Tryz.f3 rfl rfl rfl rfl rfl rfl rfl ⟨rfl, rfl, rfl, rfl, rfl⟩ rfl rfl rfl rfl rfl (by kernel_rfl) Tryz.func3 (by kernel_rfl)
    (of_decide_eq_true (by kernel_rfl)) (by unfold Func.isWrapper; first | (rw [if_pos (by decide +kernel)]; kernel_rfl) | (rw [if_neg (by decide +kernel)]; exact ⟨rfl, rfl⟩))
    (fun os started H enc _ F => by rw [OpenClaim.pre_eq_preRow]; exact lifted os started H enc F)

theorem proved : Rows.OutWritesUptoCardSaid :=
  Claim7.holds_tied_plain_at .later [] [.data, .data, .data, .data, .sentinel, .sentinel, .pinned] true (true, "178465364df5e105b9716dc489c56e25547f41adf896b3c3bc3a651913cf870f") true
    over (fun _ h => by cases h) (by kernel_rfl) (fun _ h => by cases h) outWritesUpto_row_tie rfl ⟨rfl, rfl⟩ (by kernel_rfl) rfl
    (fun f fn hf hfn => by
      obtain rfl : f = 3 := Option.some.inj ((show Tryz.prog.funcNamed "jigsaw/jigsawlaw21.OutWrites" = some 3 by kernel_rfl).symm.trans hf) |>.symm
      obtain rfl : fn = Tryz.f3 := (Option.some.inj (Tryz.func3.symm.trans hfn)).symm
      exact ⟨by kernel_rfl, fun j t ht => by
        rw [Tryz.params3] at ht
        have hm : t ∈ [22, 23, 3, 3, 3, 3] := by have := Array.mem_of_getElem? ht; simp at this ⊢; omega
        have hall : ([22, 23, 3, 3, 3, 3].all fun u => !Tryz.prog.wantsStandIn u) = true := by kernel_rfl
        exact (show Tryz.prog.wantsStandIn t = false by simpa using List.all_eq_true.1 hall t hm)⟩)
    (by kernel_rfl)
end Go.Proofs.YtdnhhmnllhlbbaaGreatDoor.outWrites

namespace Go.Proofs.YtdnhhmnllhlbbaaGreatDoor
theorem outWrites_holds : Rows.OutWritesUptoCardSaid := outWrites.proved
end Go.Proofs.YtdnhhmnllhlbbaaGreatDoor
