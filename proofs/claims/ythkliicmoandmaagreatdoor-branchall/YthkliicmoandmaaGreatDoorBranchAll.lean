/-
  What is proved: jigsawlaw19.BranchAll returns true at all phases, all domains, all sides and all draws, where the library's listed tables read as their initialisers lay them (the card ties that to the program's text, in a pruned copy of the project); no other condition.
-/
import Derived.Test.YthkliicmoandmaaGreatDoorRows
import Derived.Test.YthkliicmoandmaaGreatDoorTie
import Derived.Test.YthkliicmoandmaaGreatDoorCards
import Derived.Test.YthkliicmoandmaaGreatDoorCk
import Derived.Test.YthkliicmoandmaaGreatDoorFf
import Derived.Test.YthkliicmoandmaaGreatDoorDk
import Derived.ChangeMaps5
import Derived.SevenTiedAt
namespace Go.Proofs.YthkliicmoandmaaGreatDoor
open Go.ChangeShapes Go.WideShapes Go.ChangeAt Go.RowKit Go.Deep Go.ChangeMaps
set_option linter.unusedVariables false
variable {H : Type} {enc : TypeId × Value → H} {W : World}
theorem op_bools {fuel : Nat} {v : Value} {x : DataW H × List MemPlace} (h : DataW.trod enc Tryz.prog W 0 (fun _ => true) true fuel 72 [v] = some x) (lt0 : ∀ z ∈ x.2, z.block < W.heap.size) (hsz : Sz 72 x.1) :
    ∃ (a : Option Addr) (c : Nat) (l : List Bool), v = .slice a l.length c ∧ Bls W v l := by
  obtain ⟨a, c, l, rfl, hl, _, _, hc⟩ := op_slice (α := Bool) (R := fun cs y => cs = [.bool y]) (k := 1) (by_ := 1) Tryz.underlying72 (by kernel_rfl) (by kernel_rfl) (by omega)
    (fun fuel cs y hy _ _ => by obtain ⟨n, e, _⟩ := DataW.trod_bool Tryz.underlying4 hy; exact ⟨n, e⟩) h lt0 hsz
  refine ⟨a, c, l, rfl, ⟨a, c, rfl, fun h0 => ?_⟩⟩
  obtain ⟨b, off, rfl, hb, hcell⟩ := hc h0
  refine ⟨b, off, rfl, hb, fun i y hy => ?_⟩
  obtain ⟨cs, rfl, h2⟩ := hcell i y hy
  simpa using h2 0 (by omega)
end Go.Proofs.YthkliicmoandmaaGreatDoor
namespace Go.Proofs.YthkliicmoandmaaGreatDoor.branchAll
open Go.ChangeShapes Go.WideShapes Go.ChangeAt Go.RowKit Go.Deep Go.ChangeMaps
set_option linter.unusedVariables false
set_option linter.unusedSimpArgs false

set_option maxRecDepth 100000 in
theorem lifted (os : Os) (started : os.Started) (H : Type) (enc : TypeId × Value → H) :
    ReturnsInHanded {} Tryz.checked os 7 .any (fun w args => (Rows.branchAllSpec.pre enc Tryz.prog Tryz.f7 [] false w args ∧ laidMetH Tryz.prog laidL w) ∧ sizedMet enc Tryz.prog Tryz.f7 (OpenSpec.ofChange Rows.branchAllSpec) false w args)
      (Rows.branchAllSpec.post enc Tryz.prog Tryz.f7 false true false false) := by
  refine returnsInHanded_of_change_and (C := Tryz.checked) (X := fun w _ => laidMetH Tryz.prog laidL w) (fun _ _ _ hh h => h.of_heap hh) own started (by kernel_rfl) Tryz.func7
    (ChangeSpec.witness_shaped (enc := enc) (C := Tryz.checked) (os := os) (X := fun w _ => laidMetH Tryz.prog laidL w) false (World.laidAll Tryz.prog os laidL) #[.slice none 0 0, .slice none 0 0, .slice none 0 0, .slice none 0 0] 8 (World.laidAll_os _ _ _)
      (World.shaped_of_ZipB (by kernel_rfl) (by kernel_rfl)) (by kernel_rfl) (by kernel_rfl) (by kernel_rfl) (door_met os _)) ?_
  intro W base args ds gs before hval0 hW _ hsz0 hL _
  have hsz : (DataW.weightsEach Tryz.prog (Tryz.f7.params.toList ++ Rows.branchAllSpec.plain.varTypes Tryz.prog) (ds ++ gs)).all (· ≤ reachBytes) = true := hsz0
  clear hsz0
  have hval : ∀ (j : Nat) t v, Tryz.f7.params[j]? = some t → args[j]? = some v → Value.okWide Tryz.prog W .any base t v := hval0
  have hW' := hW
  obtain ⟨p, q, hA0, hV, rfl, hfz, hnd⟩ := hW
  have hA : DataW.TrodAll enc Tryz.prog W 0 (fun _ => true) true Tryz.f7.params.toList args.toList ds p := hA0
  rw [Tryz.params7] at hA hval hsz
  obtain ⟨v0, vs0, d0, ds0, p0, q0, hargs, rfl, rfl, h0, r0⟩ := trodAll_cons hA
  obtain ⟨v1, vs1, d1, ds1, p1, q1, rfl, rfl, rfl, h1, r1⟩ := trodAll_cons r0
  obtain ⟨v2, vs2, d2, ds2, p2, q2, rfl, rfl, rfl, h2, r2⟩ := trodAll_cons r1
  obtain ⟨v3, vs3, d3, ds3, p3, q3, rfl, rfl, rfl, h3, r3⟩ := trodAll_cons r2
  obtain ⟨rfl, rfl, rfl⟩ := trodAll_nil r3
  obtain rfl : args = #[v0, v1, v2, v3] := by cases args; simp_all
  obtain ⟨rfl, rfl⟩ := trodVars_none hV
  have k0 := h0
  have lt0 : ∀ x ∈ p0, x.block < W.heap.size := by obtain ⟨m, hm⟩ := k0; exact DataW.trod_lt m _ _ _ hm
  obtain ⟨fu0, hf0⟩ := h0
  obtain ⟨sa0, sn0, sc0, rfl⟩ := okWide_slice Tryz.underlying22 (hval 0 22 v0 rfl rfl)
  have hf0' : DataW.trod enc Tryz.prog W 0 (fun _ => true) true fu0 22 [.slice sa0 sn0 sc0] = some (d0, p0) := hf0
  obtain ⟨a0, c0, L, e0, hP, hl0, hv0⟩ := op_phases hf0' lt0 (sz_of 0 hsz rfl rfl)
  have k1 := h1
  have lt1 : ∀ x ∈ p1, x.block < W.heap.size := by obtain ⟨m, hm⟩ := k1; exact DataW.trod_lt m _ _ _ hm
  obtain ⟨fu1, hf1⟩ := h1
  obtain ⟨sa1, sn1, sc1, rfl⟩ := okWide_slice Tryz.underlying23 (hval 1 23 v1 rfl rfl)
  have hf1' : DataW.trod enc Tryz.prog W 0 (fun _ => true) true fu1 23 [.slice sa1 sn1 sc1] = some (d1, p1) := hf1
  obtain ⟨a1, c1, D, e1, hDs, hl1, hv1⟩ := op_doms hf1' lt1 (sz_of 1 hsz rfl rfl)
  have k2 := h2
  have lt2 : ∀ x ∈ p2, x.block < W.heap.size := by obtain ⟨m, hm⟩ := k2; exact DataW.trod_lt m _ _ _ hm
  obtain ⟨fu2, hf2⟩ := h2
  obtain ⟨sa2, sn2, sc2, rfl⟩ := okWide_slice Tryz.underlying72 (hval 2 72 v2 rfl rfl)
  have hf2' : DataW.trod enc Tryz.prog W 0 (fun _ => true) true fu2 72 [.slice sa2 sn2 sc2] = some (d2, p2) := hf2
  obtain ⟨a2, c2, Bq, e2, hB⟩ := op_bools hf2' lt2 (sz_of 2 hsz rfl rfl)
  have k3 := h3
  have lt3 : ∀ x ∈ p3, x.block < W.heap.size := by obtain ⟨m, hm⟩ := k3; exact DataW.trod_lt m _ _ _ hm
  obtain ⟨fu3, hf3⟩ := h3
  obtain ⟨sa3, sn3, sc3, rfl⟩ := okWide_slice Tryz.underlying24 (hval 3 24 v3 rfl rfl)
  have hf3' : DataW.trod enc Tryz.prog W 0 (fun _ => true) true fu3 24 [.slice sa3 sn3 sc3] = some (d3, p3) := hf3
  obtain ⟨a3, c3, R, e3, hR, hl3, _⟩ := op_ints hf3' lt3 (sz_of 3 hsz rfl rfl)
  clear hA0 hval0
  refine (all_walk hP hDs hB hR (fun d hd => (hv1 d hd).1) (fun d hd => (hv1 d hd).2) (szp_of hl0 hv0 hl1) hl1 (by omega)).mono fun e W' ⟨he, bel⟩ => ?_
  subst he
  exact ⟨_, rfl, _, _, _, [], _, [], hW', trodAll_mk1 (shut_bool Tryz.underlying4 _), (trodAll_cons_mk (Below.trod laidOut (by kernel_rfl) (of_decide_eq_true (by kernel_rfl)) k0 bel lt0) (trodAll_cons_mk (Below.trod laidOut (by kernel_rfl) (of_decide_eq_true (by kernel_rfl)) k1 bel lt1) (trodAll_cons_mk (Below.trod laidOut (by kernel_rfl) (of_decide_eq_true (by kernel_rfl)) k2 bel lt2) (trodAll_cons_mk (Below.trod laidOut (by kernel_rfl) (of_decide_eq_true (by kernel_rfl)) k3 bel lt3) trodAll_mk0)))), rfl, bel.frame _, fun h => by cases h⟩

theorem over : Rows.BranchAllSaid :=
  OpenClaim.holds_of_wide 7 Tryz.f7 rfl rfl rfl rfl rfl rfl rfl ⟨rfl, rfl, rfl, rfl, rfl⟩ rfl rfl rfl rfl rfl (by kernel_rfl) Tryz.func7 (by kernel_rfl)
    (of_decide_eq_true (by kernel_rfl)) (by unfold Func.isWrapper; first | (rw [if_pos (by decide +kernel)]; kernel_rfl) | (rw [if_neg (by decide +kernel)]; exact ⟨rfl, rfl⟩))
    (fun os started H enc _ => lifted os started H enc)

theorem proved : Rows.BranchAllCardSaid :=
  Claim7.holds_tied_plain_at .later [] [.data, .data, .data] true (true, "3ec4b3313764ce30a08583b4e782d80c99f0c35bdba21b5d52f2466ffebd9e29") false
    over (fun _ h => by cases h) (by kernel_rfl) (fun _ h => by cases h) branchAll_row_tie rfl ⟨rfl, rfl⟩ (by kernel_rfl) rfl
    (fun f fn hf hfn => by
      obtain rfl : f = 7 := Option.some.inj ((show Tryz.prog.funcNamed "jigsaw/jigsawlaw19.BranchAll" = some 7 by kernel_rfl).symm.trans hf) |>.symm
      obtain rfl : fn = Tryz.f7 := (Option.some.inj (Tryz.func7.symm.trans hfn)).symm
      exact ⟨by kernel_rfl, fun j t ht => by
        rw [Tryz.params7] at ht
        have hm : t ∈ [22, 23, 72, 24] := by have := Array.mem_of_getElem? ht; simp at this ⊢; omega
        have hall : ([22, 23, 72, 24].all fun u => !Tryz.prog.wantsStandIn u) = true := by kernel_rfl
        exact (show Tryz.prog.wantsStandIn t = false by simpa using List.all_eq_true.1 hall t hm)⟩)
    (by kernel_rfl)
end Go.Proofs.YthkliicmoandmaaGreatDoor.branchAll

namespace Go.Proofs.YthkliicmoandmaaGreatDoor
theorem branchAll_holds : Rows.BranchAllCardSaid := branchAll.proved
end Go.Proofs.YthkliicmoandmaaGreatDoor
