/-
  What is proved here: the iterator of slices.Values; branch.Open; marks of many ranges.
-/
import Derived.Test.YthkliicmoandmaaGreatDoorBej
namespace Go.Proofs.YthkliicmoandmaaGreatDoor
open Go.RowKit Go.Shelf
set_option linter.unusedVariables false
set_option linter.unusedSimpArgs false

def rangeI (n : Nat) : List Int := (List.range n).map fun (i : Nat) => (i : Int)
theorem rangeI_len (n : Nat) : (rangeI n).length = n := by simp [rangeI]
theorem rangeI_take (n k : Nat) (h : k < n) : (rangeI n).take (k + 1) = (rangeI n).take k ++ [(k : Int)] := by
  rw [List.take_add_one]
  simp [rangeI, h]
/-- All variables that have several values. -/
def openAll (D : List MD) : List Int := openL (rangeI D.length) D
structure VaK (B : Nat) (s : Value) (l : List Int) (w : World) : Prop where
  c : w.cell? ⟨B, 0, none⟩ = some s
  n : Ns w s l
theorem VaK.below {B : Nat} {s : Value} {l : List Int} {w w' : World} (h : VaK B s l w) (hb : Below w.heap.size w w') : VaK B s l w' :=
  ⟨(hb.cell (p := ⟨B, 0, none⟩) (World.block_lt_of_cell? w ⟨B, 0, none⟩ h.c)).trans h.c, h.n.below hb⟩

set_option maxRecDepth 100000 in
set_option maxHeartbeats 4000000 in
theorem values_tells (B : Nat) (s : Value) (l : List Int) (hl : l.length ≤ 9223372036854775806) :
    Tells Tryz.prog 87 #[.pointer (some ⟨B, 0, none⟩)] (ivl l) (VaK B s l) := by
  intro n lr W J Jx hK hJK hJb hY h0
  have HJ : Hid _ := hJb
  have HY : Hid _ := hY
  have HJK : Hid _ := hJK
  have HJ0 : Hid (J 0 W) := h0
  clear hJb hY hJK h0
  rw [show (#[Value.func (.yield lr) #[] #[]] ++ #[Value.pointer (some ⟨B, 0, none⟩)]) = #[.func (.yield lr) #[] #[], .pointer (some ⟨B, 0, none⟩)] from rfl]
  obtain ⟨hs1, hn1⟩ := hK
  obtain ⟨p1, k1, rfl⟩ := hn1.shape
  obtain ⟨nl, hnl⟩ : ∃ m, l.length = m := ⟨_, rfl⟩
  have HNL : Hid (l.length = nl) := hnl
  rw [hnl] at hs1 hl hn1 HJK
  have HNZ : Hid (0 < nl → ∃ b off, p1 = some ⟨b, off, none⟩) := fun h => by
    obtain ⟨a, c, e, hc⟩ := hn1
    obtain ⟨b, off, e1, _⟩ := hc (by omega)
    injection e with e2 _ _
    exact ⟨b, off, e2.trans e1⟩
  clear hn1 hnl
  refine callsIn_of_wp Tryz.func87 rfl trivial ?_ rfl
  simp only [Tryz.ntmps87, List.size_toArray, List.length_cons, List.length_nil, Nat.reduceAdd, Nat.reduceSub, Array.replicate_succ, Array.replicate_zero, List.push_toArray, List.append_toArray, List.nil_append, List.cons_append]
  gi_wp2
  gi_loopw [7] (fun i wr => ∃ k : Nat, i = .int .i64 (k : Int) ∧ k ≤ nl ∧ W.heap.size ≤ wr.heap.size ∧ Hid (J k wr)) (fun i _ => nl - (intOf i).toNat)
  case atStart => exact ⟨0, rfl, Nat.zero_le _, Nat.le_refl _, HJ0⟩
  case round =>
    obtain ⟨k, rfl, hk, hWr, HJk⟩ := hrel
    by_cases hlt : k < nl
    · have hlt' : (k : Int) < (nl : Int) := by omega
      have hwk : IntKind.i64.wrap ((k : Int) + 1) = (k : Int) + 1 := by rw [IntKind.wrap_i64]; omega
      obtain ⟨v, hv⟩ : ∃ v, l[k]? = some v := ⟨_, List.getElem?_eq_getElem (by rw [HNL.out]; exact hlt)⟩
      obtain ⟨b1, off1, rfl⟩ := HNZ.out (by omega)
      have hKr := HJK.out _ _ HJk.out
      have hm1 : wr.cell? ⟨b1, off1 + k, none⟩ = some (.int .i64 v) := by
        obtain ⟨a, c, e, hc⟩ := hKr.n
        obtain ⟨b, off, rfl, _, _, hcc⟩ := hc (by rw [HNL.out]; omega)
        injection e with e1 _ _
        injection e1 with e1
        injection e1 with e2 e3
        subst e2 e3
        exact hcc k v hv
      have HGE : Hid ((ivl l)[k]? = some (.int .i64 v)) := by
        unfold Hid ivl; rw [List.getElem?_map, hv]; rfl
      obtain ⟨fn, tmps, assign, body, hy, hRd⟩ := HY.out (n - 1) _ _ wr HGE.out hWr HJk.out
      have HRD : Hid _ := hRd
      clear hRd hKr hv
      gi_wp2
      refine ⟨(fun h => nomatch h), RoundIn.mono HRD.out ?_⟩
      rintro e w' ⟨(⟨rfl, hJ'⟩ | ⟨rfl, hJ'⟩), hka⟩
      · gi_wp2
        go_roundw
        case rel => exact ⟨k + 1, by go_num, by omega, Nat.le_trans hWr hka.size, hJ'⟩
        case measure => simp [intOf]; omega
      · gi_wp2
        exact ⟨rfl, _, results_none rfl _ _ _, ⟨_, rfl⟩, .inr hJ'⟩
    · have hlt' : ¬ (k : Int) < (nl : Int) := by omega
      have hfin : (∃ v, Ending.returned (Value.tuple #[]) = .returned v) ∧ (J (ivl l).length wr ∨ Jx wr) := ⟨⟨_, rfl⟩, .inl (by have := HJk.out; rw [show k = (ivl l).length by unfold ivl; rw [List.length_map, HNL.out]; omega] at this; exact this)⟩
      gi_wp2
      go_end0
      exact hfin

set_option maxRecDepth 100000 in
set_option maxHeartbeats 4000000 in
theorem values_any (p1 : Option Addr) (n1 k1 : Nat) (W : World) : Calls Tryz.prog 45 #[.slice p1 n1 k1] W fun e w' => e = .returned (.func (.func 87) #[] #[.pointer (some ⟨W.heap.size, 0, none⟩)]) ∧ w' = W.alloc (Obj.cells #[.slice p1 n1 k1] 24) := by
  have hmf : ∀ (fn : Fn) (first cap : Array Value) (w : World), (Instr.makeFunc fn first cap).run Tryz.prog w = .ok (.func fn first cap) w := fun _ _ _ _ => rfl
  go_enter Tryz.func45, Tryz.ntmps45
  go_wp2
  go_ret
  exact ⟨rfl, rfl⟩
theorem callValues1 (args : Array Value) (w : World) : (callFunc 87 args).run Tryz.prog w = .ok (.enter 87 args) w := enters_of Tryz.func87 (by kernel_rfl) rfl args w
theorem own_typN {w : World} {B : Nat} {e : TypeId} {s : Nat} {v : Value} {n : Nat} {xs : List Value} (h : w.ownsRow B e s v n xs) {g : Nat} (hg : v.ownBlock = some g) : B ≤ g := by
  rcases h.2 with ⟨e1, _⟩ | ⟨g', cap, cur, e1, e2, hg', r⟩
  · rw [e1] at hg; simp [Value.ownBlock] at hg
  · rw [e1] at hg
    obtain rfl : g' = g := by simpa [Value.ownBlock] using hg
    exact e2

set_option maxRecDepth 100000 in
set_option maxHeartbeats 4000000 in
theorem open_any {W : World} {p2 : Option Addr} {nd k2 : Nat} {D : List MD} (h : Ds W (.slice p2 nd k2) D) (hD : ∀ d ∈ D, Good d) (hDl : D.length * 8 ≤ 140737488355328) :
    Calls Tryz.prog 13 #[.slice p2 nd k2] W fun e w' => ∃ B s, e = .returned (.func (.func 87) #[] #[.pointer (some ⟨B, 0, none⟩)]) ∧ VaK B s (openAll D) w' ∧ Below W.heap.size W w' := by
  obtain ⟨N, hN⟩ : ∃ N, W.heap.size = N := ⟨_, rfl⟩
  have hnd : D.length = nd := by obtain ⟨a, c, e, _⟩ := h; injection e with _ e2 _; exact e2.symm
  have HD : Hid (∀ w, Below N W w → Ds w (.slice p2 nd k2) D) := fun w hb => h.below (by rw [hN]; exact hb)
  have HG : Hid _ := hD
  have HDL : Hid _ := hDl
  have HND : Hid (D.length = nd) := hnd
  have HN : Hid (W.heap.size = N) := hN
  rw [hnd] at hDl
  obtain ⟨i0, hi0, hz0, hz1, hz2⟩ := info_parts Tryz.infoI
  clear h hD hnd
  go_enter Tryz.func13, Tryz.ntmps13
  go_wp2
  go_loopw [3, 7] (fun v i wr => ∃ k : Nat, i = .int .i64 (k : Int) ∧ k ≤ nd ∧ Hid (Oi N wr v ((rangeI nd).take k)) ∧ Hid (Below N W wr)) (fun _ i _ => nd - (intOf i).toNat)
  case atStart => exact ⟨0, rfl, Nat.zero_le _, by unfold Hid; simpa [Oi, ivl] using World.ownsRow_nil _ _ _ _, Below.refl _ _⟩
  case round =>
    obtain ⟨k, rfl, hk, HO, HB⟩ := hrel
    obtain ⟨va, vc, rfl⟩ := HO.out.shape
    have hlen : ((rangeI nd).take k).length = k := by rw [List.length_take, rangeI_len]; omega
    rw [hlen] at HO ⊢
    by_cases hlt : k < nd
    · have hlt' : (k : Int) < (nd : Int) := by omega
      have hwk : IntKind.i64.wrap ((k : Int) + 1) = (k : Int) + 1 := by rw [IntKind.wrap_i64]; omega
      have hbytes : (k + 1) * 8 ≤ 140737488355328 := by omega
      have hlenm : k + 1 ≤ maxLen := by unfold maxLen; omega
      have HOW : Hid (wr.ownsRow N 3 1 (.slice va k vc) k (ivl ((rangeI nd).take k))) := by have := HO.out; unfold Oi at this; rw [hlen] at this; exact this
      have HTK : Hid (ivl ((rangeI nd).take (k + 1)) = ivl ((rangeI nd).take k) ++ [.int .i64 (k : Int)] ∧ ((rangeI nd).take (k + 1)).length = k + 1) := by
        unfold Hid ivl; rw [rangeI_take _ _ hlt]; simp [hlen]
      have HSZ : Hid (N ≤ wr.heap.size) := by have := HB.out.size; rw [HN.out] at this; exact this
      have hb1 : Below N W (wr.alloc (Obj.cells #[.int .i64 (k : Int)] 3)) := HB.out.alloc HSZ.out _
      have HB1 : Hid (Below N W (wr.alloc (Obj.cells #[.int .i64 (k : Int)] 3))) := hb1
      clear hb1
      go_wp2_with (at_builtin; refine wpList_append_own _ rfl _ _ 24 rfl N 3 i0 (.int .i64 0) 1 8 Tryz.underlying24 hi0 hz0 hz1 hz2 rfl (by decide) _ _ _ rfl (HOW.out.alloc _) ⟨wr.heap.size, 0, none⟩ 1 1 [.int .i64 (k : Int)] rfl rfl (fun j u hj => by cases j with | zero => (simp at hj; subst hj; simp [Addr.add]) | succ j => simp at hj) (by simp [Value.oneCell']) hlenm hbytes (by simp; have := HSZ.out; omega) ?_; intro v' w1 hown' hgrow _; obtain ⟨gn, capn, rfl⟩ := ownsRow_succ hown')
      go_roundw
      case rel =>
        refine ⟨k + 1, by go_num, by omega, ?_, ?_⟩
        · unfold Hid Oi; rw [HTK.out.1, HTK.out.2]; exact hown'
        · exact HB1.out.grown hgrow (by simp; have := HSZ.out; omega) (fun g hg => own_typN HOW.out hg)
      case measure => simp [intOf]; omega
    · have hlt' : ¬ (k : Int) < (nd : Int) := by omega
      obtain rfl : k = nd := by omega
      have hfull : (rangeI k).take k = rangeI k := List.take_of_length_le (by rw [rangeI_len]; exact Nat.le_refl _)
      rw [hfull] at HO
      clear hlen hfull
      go_upto_region 7 with (fail)
      go_wp2_with fail
      refine (openOf_any va k vc p2 k k2 wr).mono ?_
      rintro e w1 ⟨rfl, hw1⟩
      obtain ⟨M, hM⟩ : ∃ q, wr.heap.size = q := ⟨_, rfl⟩
      have hb1 : Below M wr w1 := by rw [hw1, ← hM]; exact ((Below.refl _ _).alloc (Nat.le_refl _) _).alloc (by simp) _
      have hN1 : N ≤ M := by rw [← hM]; have := HB.out.size; rw [HN.out] at this; exact this
      have hbN1 : Below N W w1 := HB.out.trans (hb1.mono hN1)
      have hK : OpK M (M + 1) (.slice va k vc) (.slice p2 k k2) (rangeI k) D w1 := by
        refine ⟨?_, HO.out.ns.below (by rw [hM]; exact hb1), ?_, HD.out _ hbN1⟩
        · rw [hw1]; exact ((Bx.new' hM _ _).alloc _).cell 0
        · rw [hw1]; exact (Bx.new' (by simp [hM]) _ _).cell 0
      have kc := collect_open hK HG.out (by rw [rangeI_len, ← HND.out]; exact HDL.out) (by have := HDL.out; omega)
      have HB1 : Hid (Below N W w1) := hbN1
      have HOA : Hid (openAll D = openL (rangeI k) D) := by unfold Hid openAll; rw [HND.out]
      rw [hM]
      clear hw1 hb1 hbN1 hK hM
      go_wp2_with fail
      refine kc.mono ?_
      clear kc
      rintro e w2 ⟨v, rfl, ho2, hb2⟩
      obtain ⟨ea, ec, rfl⟩ := ho2.shape
      obtain ⟨en, hen⟩ : ∃ q, (openL (rangeI k) D).length = q := ⟨_, rfl⟩
      rw [hen] at ho2 ⊢
      have HO2 : Hid (Oi w1.heap.size w2 (.slice ea en ec) (openL (rangeI k) D)) := ho2
      have HB2 : Hid (Below N W w2) := HB1.out.trans (hb2.mono (by have := HB1.out.size; rw [HN.out] at this; exact this))
      clear hen ho2 hb2
      go_wp2_with fail
      refine (values_any ea en ec w2).mono ?_
      rintro e w3 ⟨rfl, hw3⟩
      obtain ⟨M2, hM2⟩ : ∃ q, w2.heap.size = q := ⟨_, rfl⟩
      have hb3 : Below w2.heap.size w2 w3 := by rw [hw3]; exact (Below.refl _ _).alloc (Nat.le_refl _) _
      have hv3 : VaK M2 (.slice ea en ec) (openAll D) w3 := by
        refine ⟨?_, ?_⟩
        · rw [hw3]; exact (Bx.new' hM2 _ _).cell 0
        · rw [HOA.out]; exact HO2.out.ns.below hb3
      have HV3 : Hid _ := hv3
      have HB3 : Hid (Below N W w3) := HB2.out.trans (hb3.mono (by have := HB2.out.size; rw [HN.out] at this; exact this))
      rw [hM2]
      clear hw3 hb3 hv3
      go_wp2
      go_ret
      exact ⟨M2, _, rfl, HV3.out, by rw [HN.out]; exact HB3.out⟩
/-- The marks of many ranges. -/
def marks (L : List Nat) : List Deferred := L.map fun D => { target := .collected D, args := #[] }
theorem leaves_marks {F : Fence} {n : Nat} {P : Program} {fn : Func} {tmps : Array Value} {R : Ending → World → Prop} (N : Nat) (J : World → Prop) (hJ : ∀ w k o', J w → N ≤ k → w.heap[k]? = some (.deferred (some [])) → J (w.putObj k o')) (hend : ∀ w, J w → LeavesInM F n P fn tmps R [] .returning w) :
    ∀ (L : List Nat) (w : World), J w → L.Nodup → (∀ D ∈ L, N ≤ D ∧ w.heap[D]? = some (.deferred (some []))) → LeavesInM F n P fn tmps R (marks L) .returning w
  | [], w, h, _, _ => hend w h
  | D :: L, w, h, hn, hD => by
    have h1 := hD D (by simp)
    refine ⟨by simp, .inl ⟨D, _, rfl, run_takeDeferred h1.2, ?_⟩⟩
    refine leaves_marks N J hJ hend L _ (hJ _ _ _ h h1.1 h1.2) (List.nodup_cons.1 hn).2 fun E hE => ?_
    have h2 := hD E (by simp [hE])
    refine ⟨h2.1, (World.putObj_heap_other ?_).trans h2.2⟩
    rintro rfl
    exact (List.nodup_cons.1 hn).1 hE
end Go.Proofs.YthkliicmoandmaaGreatDoor
