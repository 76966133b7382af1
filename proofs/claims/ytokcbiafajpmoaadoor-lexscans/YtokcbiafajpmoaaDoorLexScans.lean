/-
  What is proved: jigsawlaw15.LexScans returns true at every text and every token, where the listed library variables (two tables of math/bits, the table internal/strconv.uint64pow10, strconv.ErrRange and strconv.ErrSyntax) read as their initialisers lay them (the card ties that to the program's text, in the seat's pruned copy of the project); no other condition.
-/
import Derived.Test.YtokcbiafajpmoaaDoorRows
import Derived.Test.YtokcbiafajpmoaaDoorTie
import Derived.Test.YtokcbiafajpmoaaDoorCards
import Derived.Test.YtokcbiafajpmoaaDoorPr
import Derived.Test.YtokcbiafajpmoaaDoorTk
import Derived.ChangeMaps5
import Derived.SevenTiedAt
namespace Go.Proofs.YtokcbiafajpmoaaDoor.lexScans
open Go.ChangeShapes Go.WideShapes Go.ChangeAt Go.RowKit Go.ChangeMaps
set_option linter.unusedVariables false
set_option linter.unusedSimpArgs false
theorem op_tok {H : Type} {enc : TypeId × Value → H} {W : World} {fuel : Nat} {cs : List Value} {x : DataW H × List MemPlace} (h : DataW.trod enc Tryd.prog W 0 (fun _ => true) true fuel 23 cs = some x) :
    ∃ (k : Int) (s : List UInt8) (n p : Int), cs = [.int .i64 k, .string (bs s), .int .i64 n, .int .i64 p] ∧ (Lit.int .i64 n).wf = true := by
  obtain ⟨xs, m, _, hx, hl, hlen, hf⟩ := DataW.trod_struct Tryd.underlying23 h
  have e23 : Tryd.prog.cellsOf 23 = 4 := by kernel_rfl
  have e3 : Tryd.prog.cellsOf 3 = 1 := by kernel_rfl
  have e9 : Tryd.prog.cellsOf 9 = 1 := by kernel_rfl
  have e2 : Tryd.prog.cellsOf 2 = 1 := by kernel_rfl
  rw [e23] at hl
  match xs, hlen, cs, hl with
  | [y0, y1, y2, y3], _, [c0, c1, c2, c3], _ =>
    have g0 := hf 0 _ rfl
    have g1 := hf 1 _ rfl
    have g2 := hf 2 _ rfl
    have g3 := hf 3 _ rfl
    simp [e3, e9, e2] at g0 g1 g2 g3
    obtain ⟨i0, h0, _, _⟩ := DataW.trod_int Tryd.underlying3 g0
    obtain ⟨s, hs, _⟩ := DataW.trod_string Tryd.underlying9 g1
    obtain ⟨i2, h2, _, w2⟩ := DataW.trod_int Tryd.underlying2 g2
    obtain ⟨i3, h3, _, _⟩ := DataW.trod_int Tryd.underlying3 g3
    simp at h0 hs h2 h3
    subst h0 hs h2 h3
    exact ⟨i0, s.data.toList, i2, i3, by first | rfl | rw [bs_of], w2⟩
theorem wf_i64 {n : Int} (h : (Lit.int .i64 n).wf = true) : -9223372036854775808 ≤ n ∧ n ≤ 9223372036854775807 := by
  have e1 : IntKind.i64.min = -9223372036854775808 := by decide
  have e2 : IntKind.i64.max = 9223372036854775807 := by decide
  simp [Lit.wf, e1, e2] at h
  omega

set_option maxRecDepth 100000 in
theorem lifted (os : Os) (started : os.Started) (H : Type) (enc : TypeId × Value → H) :
    ReturnsInHanded {} Tryd.checked os 3 .any (fun w args => (Rows.lexScansSpec.pre enc Tryd.prog Tryd.f3 [] false w args ∧ laidMetH Tryd.prog laidL w) ∧ sizedMet enc Tryd.prog Tryd.f3 (OpenSpec.ofChange Rows.lexScansSpec) false w args)
      (Rows.lexScansSpec.post enc Tryd.prog Tryd.f3 false true false false) := by
  refine returns_shaped (s := Rows.lexScansSpec) started (by kernel_rfl) Tryd.func3
    (ChangeSpec.witness_shaped (enc := enc) (C := Tryd.checked) (os := os) (X := fun w _ => laidMetH Tryd.prog laidL w) false (World.laidAll Tryd.prog os laidL) #[.string { data := #[] }, .agg #[.int .i64 0, .string { data := #[] }, .int .i64 0, .int .i64 0]] 8 (World.laidAll_os _ _ _)
      (World.shaped_of_ZipB (by kernel_rfl) (by kernel_rfl)) (by kernel_rfl) (by kernel_rfl) (by kernel_rfl) (door_met os _)) ?_
  intro W base args ds gs before hval0 hW hsz0 hL hsh
  have hval : ∀ (j : Nat) t v, Tryd.f3.params[j]? = some t → args[j]? = some v → Value.okWide Tryd.prog W .any base t v := hval0
  have hW' := hW
  obtain ⟨p, q, hA0, hV, rfl, hfz, hnd⟩ := hW
  have hA : DataW.TrodAll enc Tryd.prog W 0 (fun _ => true) true Tryd.f3.params.toList args.toList ds p := hA0
  rw [Tryd.params3] at hA hval
  obtain ⟨v0, vs0, d0, ds0, p0, q0, hargs, rfl, rfl, h0, r0⟩ := trodAll_cons hA
  obtain ⟨v1, vs1, d1, ds1, p1, q1, rfl, rfl, rfl, h1, r1⟩ := trodAll_cons r0
  obtain ⟨rfl, rfl, rfl⟩ := trodAll_nil r1
  obtain rfl : args = #[v0, v1] := by cases args; simp_all
  obtain ⟨rfl, rfl⟩ := trodVars_none hV
  have k0 := h0
  have lt0 : ∀ x ∈ p0, x.block < W.heap.size := by obtain ⟨m, hm⟩ := k0; exact DataW.trod_lt m _ _ _ hm
  obtain ⟨s0, rfl⟩ := okWide_string Tryd.underlying9 (hval 0 9 v0 rfl rfl)
  have e0 := h0
  obtain ⟨s0', es0, ed0, _, _⟩ := open_string Tryd.underlying9 (hval 0 9 (.string s0) rfl rfl) h0
  have sz0 : s0.data.toList.length ≤ 140737488351232 := by
    have hd : d0 = .lit (.string s0.data.toList) := by injection es0 with es0; rw [es0]; exact ed0
    have := sized_string (j := 0) (t := 9) hsz0 rfl (by rw [hd]; rfl)
    simpa [reachBytes] using this
  rw [← bs_of s0] at k0 ⊢
  have k1 := h1
  have lt1 : ∀ x ∈ p1, x.block < W.heap.size := by obtain ⟨m, hm⟩ := k1; exact DataW.trod_lt m _ _ _ hm
  obtain ⟨fu1, hfu1⟩ := h1
  obtain ⟨cs1, rfl, _⟩ := okWide_struct Tryd.underlying23 (hval 1 23 v1 rfl rfl)
  obtain ⟨tk1, ts1, tn1, tp1, ht1, hw1⟩ := op_tok hfu1
  obtain rfl : cs1 = #[.int .i64 tk1, .string (bs ts1), .int .i64 tn1, .int .i64 tp1] := by cases cs1; simp_all [Value.cells]
  have hr1 := wf_i64 hw1
  clear hA0 hval0
  refine (scans_walk s0.data.toList ts1 tk1 tn1 tp1 hr1.1 hr1.2 (by omega) W (errv_of hL) (of_laid hL)).mono fun e W' ⟨he, bel⟩ => ?_
  subst he
  have kept9 := fun {d : DataW H} {p : List MemPlace} {v : Value} (k : ∃ fuel, DataW.trod enc Tryd.prog W 0 (fun _ => true) true fuel 9 v.cells.toList = some (d, p)) (lt : ∀ x ∈ p, x.block < W.heap.size) => Below.trod laidOut (by kernel_rfl) (of_decide_eq_true (by kernel_rfl)) k bel lt
  have kept23 := fun {d : DataW H} {p : List MemPlace} {v : Value} (k : ∃ fuel, DataW.trod enc Tryd.prog W 0 (fun _ => true) true fuel 23 v.cells.toList = some (d, p)) (lt : ∀ x ∈ p, x.block < W.heap.size) => Below.trod laidOut (by kernel_rfl) (of_decide_eq_true (by kernel_rfl)) k bel lt
  exact ⟨_, rfl, _, _, _, [], _, [], hW', trodAll_mk1 (shut_bool Tryd.underlying4 _), (trodAll_cons_mk (kept9 k0 lt0) (trodAll_cons_mk (kept23 k1 lt1) trodAll_mk0)), rfl, bel.frame _, fun h => by cases h⟩

theorem over : Rows.LexScansSaid :=
  OpenClaim.holds_of_wide 3 Tryd.f3 rfl rfl rfl rfl rfl rfl rfl ⟨rfl, rfl, rfl, rfl, rfl⟩ rfl rfl rfl rfl rfl (by kernel_rfl) Tryd.func3 (by kernel_rfl)
    (of_decide_eq_true (by kernel_rfl)) (by unfold Func.isWrapper; first | (rw [if_pos (by decide +kernel)]; kernel_rfl) | (rw [if_neg (by decide +kernel)]; exact ⟨rfl, rfl⟩))
    (fun os started H enc _ => lifted os started H enc)

theorem proved : Rows.LexScansCardSaid :=
  Claim7.holds_tied_plain_at .later [] [.data, .data, .data, .sentinel, .sentinel] true (true, "5abea75e50864637b6b0f467d9bcf9937e84d26a9fb4d4501553cf90fddd4f12") true
    over (fun _ h => by cases h) (by kernel_rfl) (fun _ h => by cases h) lexScans_row_tie rfl ⟨rfl, rfl⟩ (by kernel_rfl) rfl
    (fun f fn hf hfn => by
      obtain rfl : f = 3 := Option.some.inj ((show Tryd.prog.funcNamed "jigsaw/jigsawlaw15.LexScans" = some 3 by kernel_rfl).symm.trans hf) |>.symm
      obtain rfl : fn = Tryd.f3 := (Option.some.inj (Tryd.func3.symm.trans hfn)).symm
      exact ⟨by kernel_rfl, fun j t ht => by
        rw [Tryd.params3] at ht
        have hm : t ∈ [9, 23] := by have := Array.mem_of_getElem? ht; simp at this ⊢; omega
        have hall : ([9, 23].all fun u => !Tryd.prog.wantsStandIn u) = true := by kernel_rfl
        exact (show Tryd.prog.wantsStandIn t = false by simpa using List.all_eq_true.1 hall t hm)⟩)
    (by kernel_rfl)
end Go.Proofs.YtokcbiafajpmoaaDoor.lexScans

namespace Go.Proofs.YtokcbiafajpmoaaDoor
theorem lexScans_holds : Rows.LexScansCardSaid := lexScans.proved
end Go.Proofs.YtokcbiafajpmoaaDoor
