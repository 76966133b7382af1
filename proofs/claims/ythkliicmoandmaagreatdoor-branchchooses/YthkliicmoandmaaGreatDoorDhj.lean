/-
  What is proved here: the reference tells the same open variables.
  What is proved here: the reference's ends, halves, values of a number; whether one is ahead.
-/
import Derived.Test.YthkliicmoandmaaGreatDoorDg
import Derived.Test.YthkliicmoandmaaGreatDoorCij
import Derived.Test.YthkliicmoandmaaGreatDoorYNbj
import Derived.Test.YthkliicmoandmaaGreatDoorZFa
import Derived.Deep.RegionHeld3
namespace Go.Proofs.YthkliicmoandmaaGreatDoor
open Go.RowKit Go.Shelf
set_option linter.unusedVariables false
set_option linter.unusedSimpArgs false

theorem ch_pos : ∀ (r i : Nat), i ≤ r → 1 ≤ St.ch r i
  | 0, i, h => by
    obtain rfl : i = 0 := by omega
    decide
  | r + 1, i, h => by
    unfold St.ch
    split
    · exact ch_pos r 0 (Nat.zero_le _)
    · have a1 := St.ch_nonneg r i
      have a2 := ch_pos r (i - 1) (by omega)
      omega
theorem sm_ge {f : Nat → Int} (hf : ∀ i, 0 ≤ f i) : ∀ (n i : Nat), i < n → f i ≤ St.sm f n
  | 0, i, h => absurd h (by omega)
  | n + 1, i, h => by
    unfold St.sm
    have h0 := St.sm_nonneg (f := f) n (fun j _ => hf j)
    rcases Nat.lt_or_ge i n with q | q
    · have := sm_ge hf n i q
      have := hf n
      omega
    · obtain rfl : i = n := by omega
      omega
theorem ns_pos (r n : Nat) (least most : Int) (i : Nat) (hi : i < r + 1) (h : least ≤ (n : Int) + i ∧ (n : Int) + i ≤ most) : 1 ≤ St.NS r n least most := by
  have h1 := sm_ge (fun j => St.nsf_nonneg r n least most j) (r + 1) i hi
  have h2 : St.nsf r n least most i = St.ch r i := by unfold St.nsf; rw [if_pos h]
  have h3 := ch_pos r i (by omega)
  unfold St.NS
  omega
theorem sev_size (d : MD) : sevB d = (rightM d && decide (1 < sizA d)) := by
  unfold sevB
  cases hR : rightM d
  · rfl
  · simp only [Bool.true_and]
    unfold emptyA onlyA sizA
    unfold rightM at hR
    cases hs : d.set
    · simp only [Bool.false_eq_true, if_false]
      rw [hs] at hR
      simp only [Bool.false_eq_true, if_false] at hR
      unfold rightW at hR
      simp only [Bool.and_eq_true] at hR
      have hr : Dm.Right d.r := by have := hR.1.1.1.1; unfold Dm.rightB at this; simpa using this
      have ho := (Dm.right_ord hr).1
      unfold emptyW onlyW
      rw [Dm.tk_yes hr, Dm.sizeR_vals ho.1]
      rcases Nat.eq_zero_or_pos d.r.length with q | q
      · have e : d.r = [] := List.eq_nil_of_length_eq_zero q
        rw [e]; decide
      · have hm : Dm.lo d.r 0 ∈ Dm.vals d.r := (Dm.mem_vals' _ _).2 ⟨d.r[0], List.getElem_mem q, by unfold Dm.lo; rw [List.getElem?_eq_getElem q]; exact Int.le_refl _, by have := ho.1 _ (List.getElem_mem q); unfold Dm.lo; rw [List.getElem?_eq_getElem q]; exact this⟩
        have hl := List.length_pos_of_mem hm
        have q2 : ¬ d.r.length = 0 := by omega
        by_cases h1 : ((Dm.vals d.r).length : Int) = 1
        · rw [if_pos h1]; simp [q2, h1]
        · rw [if_neg h1]
          have h3 : (1 : Int) < ((Dm.vals d.r).length : Int) := by omega
          simp only [q2, decide_false, Bool.not_false, Bool.true_and, h3, decide_true]
    · simp only [if_true]
      rw [if_pos hs] at hR
      have hr : St.RightD (sdM d) := by unfold St.rightD at hR; simpa using hR
      have hc := St.fixed_one (sdM d)
      have hcr := St.count_right hr
      obtain ⟨_, _, s1, s2, s3, s4⟩ := id hr
      rcases s4 with ⟨e1, e2, e3⟩ | ⟨e1, e2, e3⟩
      · have q1 : d.least = 1 := e1
        have q2 : d.most = 0 := e2
        have hz : St.NSd (sdM d) = 0 := by
          unfold St.NSd
          rw [e1, e2]
          exact St.NS_empty _ _ _ _ (fun i _ h => by omega)
        rw [hz] at hcr
        rw [hcr, q1, q2]; simp; omega
      · have q : ¬ d.most < d.least := by have : d.least ≤ d.most := e2; omega
        have hn : 0 < St.countD (sdM d) := by
          rw [hcr]
          have hlen := St.set_sub_len s1 s2 (St.right_sub hr)
          have hk : ∃ i : Nat, i < (sdM d).up.length - (sdM d).lo.length + 1 ∧ ((sdM d).least : Int) = ((sdM d).lo.length : Int) + i := ⟨((sdM d).least - (sdM d).lo.length).toNat, by omega, by omega⟩
          obtain ⟨i, hi, hle⟩ := hk
          have := ns_pos ((sdM d).up.length - (sdM d).lo.length) (sdM d).lo.length (sdM d).least (sdM d).most i hi (by omega)
          unfold St.NSd
          omega
        rcases hc with ⟨c1, c2, _⟩ | ⟨c1, c2⟩
        · rw [c2, c1]; simp
        · rw [c2]
          have : 1 < St.countD (sdM d) := by omega
          simp [q, this]

set_option maxRecDepth 100000 in
set_option maxHeartbeats 4000000 in
theorem ropen_any {W : World} {p2 : Option Addr} {nd k2 : Nat} {D : List MD} (h : Ds W (.slice p2 nd k2) D) (hD : ∀ d ∈ D, Good d) (hDl : D.length * 8 ≤ 140737488355328) :
    Calls Tryz.prog 12 #[.slice p2 nd k2] W fun e w' => ∃ v, e = .returned v ∧ Oi W.heap.size w' v (openAll D) ∧ Below W.heap.size W w' := by
  obtain ⟨N, hN⟩ : ∃ N, W.heap.size = N := ⟨_, rfl⟩
  have hnd : D.length = nd := by obtain ⟨a, c, e, _⟩ := h; injection e with _ e2 _; exact e2.symm
  have HD : Hid (∀ w, Below N W w → Ds w (.slice p2 nd k2) D) := fun w hb => h.below (by rw [hN]; exact hb)
  have HG : Hid (∀ d ∈ D, Good d) := hD
  have HND : Hid (D.length = nd) := hnd
  have HN : Hid (W.heap.size = N) := hN
  have HNZ : Hid (0 < nd → ∃ b off, p2 = some ⟨b, off, none⟩) := fun h0 => by
    obtain ⟨a, c, e, hc⟩ := h
    obtain ⟨b, off, e1, _⟩ := hc (by omega)
    injection e with e2 _ _
    exact ⟨b, off, e2.trans e1⟩
  rw [hnd] at hDl
  obtain ⟨i0, hi0, hz0, hz1, hz2⟩ := info_parts Tryz.infoI
  have HOA : Hid (openAll D = openL (rangeI nd) D) := by unfold Hid openAll; rw [hnd]
  clear h hD hnd
  rw [HOA.out, HN.out]
  go_enter Tryz.func12, Tryz.ntmps12
  go_wp2
  go_loopw [3, 4] (fun v i wr => ∃ k : Nat, i = .int .i64 (k : Int) ∧ k ≤ nd ∧ Hid (Oi N wr v (openL ((rangeI nd).take k) D)) ∧ Hid (Below N W wr)) (fun _ i _ => nd - (intOf i).toNat)
  case atStart => exact ⟨0, rfl, Nat.zero_le _, by unfold Hid; simpa [Oi, ivl, openL] using World.ownsRow_nil _ _ _ _, Below.refl _ _⟩
  case round =>
    obtain ⟨k, rfl, hk, HO, HB⟩ := hrel
    obtain ⟨va, vc, rfl⟩ := HO.out.shape
    have hlk : (openL ((rangeI nd).take k) D).length ≤ k := Nat.le_trans (openL_le _ _) (by rw [List.length_take, rangeI_len]; omega)
    obtain ⟨on, hon⟩ : ∃ q, (openL ((rangeI nd).take k) D).length = q := ⟨_, rfl⟩
    rw [hon] at HO hlk ⊢
    by_cases hlt : k < nd
    · have hlt' : (k : Int) < (nd : Int) := by omega
      have hbytes : (on + 1) * 8 ≤ 140737488355328 := by omega
      have hlenm : on + 1 ≤ maxLen := by unfold maxLen; omega
      have hwk : IntKind.i64.wrap ((k : Int) + 1) = (k : Int) + 1 := by rw [IntKind.wrap_i64]; omega
      obtain ⟨d, hd⟩ : ∃ d, D[k]? = some d := ⟨_, List.getElem?_eq_getElem (by rw [HND.out]; exact hlt)⟩
      obtain ⟨b2, off2, rfl, hbl, _, c0, c1, c2, c3, c4, c5, hDc, g0, g1, g2, g3, g4, g5⟩ := (HD.out wr HB.out).at hd
      have hgd := HG.out d (List.mem_of_getElem? hd)
      have kr := rright_d hDc hgd
      have HKS : Hid (∀ w, Below wr.heap.size wr w → Calls Tryz.prog 31 #[.agg #[c0, c1, c2, c3, c4, c5]] w fun e w' => e = .returned (.int .i64 (sizA d)) ∧ Below w.heap.size w w') := fun w hb => rsize_d (hDc.below hb)
      have HSN : Hid (openL ((rangeI nd).take (k + 1)) D = if openB D (k : Int) then openL ((rangeI nd).take k) D ++ [(k : Int)] else openL ((rangeI nd).take k) D) := openL_snoc (rangeI nd) D k (k : Int) (by unfold rangeI; simp [hlt])
      have HOB : Hid (openB D (k : Int) = (rightM d && decide (1 < sizA d))) := by
        unfold Hid openB
        rw [← sev_size d]
        have : decide ((k : Int) < (D.length : Int)) = true := by rw [HND.out]; simpa using hlt
        rw [this]
        simp [hd]
      rw [HOB.out] at HSN
      have HSZ : Hid (N ≤ wr.heap.size) := by have := HB.out.size; rw [HN.out] at this; exact this
      have HCL : Hid (∀ w, Below wr.heap.size wr w → w.cell? ⟨b2, off2 + k * 6, none⟩ = some c0 ∧ w.cell? ⟨b2, off2 + k * 6 + 1, none⟩ = some c1 ∧ w.cell? ⟨b2, off2 + k * 6 + 2, none⟩ = some c2 ∧ w.cell? ⟨b2, off2 + k * 6 + 3, none⟩ = some c3 ∧ w.cell? ⟨b2, off2 + k * 6 + 4, none⟩ = some c4 ∧ w.cell? ⟨b2, off2 + k * 6 + 5, none⟩ = some c5) := fun w hb => ⟨(hb.cell (p := ⟨b2, _, none⟩) hbl).trans g0, (hb.cell (p := ⟨b2, _, none⟩) hbl).trans g1, (hb.cell (p := ⟨b2, _, none⟩) hbl).trans g2, (hb.cell (p := ⟨b2, _, none⟩) hbl).trans g3, (hb.cell (p := ⟨b2, _, none⟩) hbl).trans g4, (hb.cell (p := ⟨b2, _, none⟩) hbl).trans g5⟩
      have hone := hDc.one
      generalize rightM d = rm at *
      generalize sizA d = sz at *
      have hon' : Hid _ := hon
      clear hDc hgd hd HOB hon
      cases rm
      · go_wp2_with fail
        refine kr.mono ?_
        clear kr g0 g1 g2 g3 g4 g5
        rintro e w1 ⟨rfl, hb1⟩
        have HB1 : Hid (Below N W w1) := HB.out.trans (hb1.mono HSZ.out)
        have HO1 : Hid (Oi N w1 (.slice va on vc) _) := HO.out.below hb1
        clear hb1
        go_wp2
        go_roundw
        case rel => exact ⟨k + 1, by go_num, by omega, by unfold Hid; rw [HSN.out]; exact HO1.out, HB1.out⟩
        case measure => simp [intOf]; omega
      · by_cases h1 : 1 < sz
        · have d1 : decide (1 < sz) = true := by simpa using h1
          have d2 : sz > 1 := h1
          go_wp2_with fail
          refine kr.mono ?_
          clear kr g0 g1 g2 g3 g4 g5
          rintro e w1 ⟨rfl, hb1⟩
          have HBW1 : Hid (Below wr.heap.size wr w1) := hb1
          clear hb1
          obtain ⟨g0, g1, g2, g3, g4, g5⟩ := HCL.out w1 HBW1.out
          go_wp2_with fail
          refine (HKS.out w1 HBW1.out).mono ?_
          clear g0 g1 g2 g3 g4 g5
          rintro e w2 ⟨rfl, hb2⟩
          have hbw2 : Below wr.heap.size wr w2 := HBW1.out.trans (hb2.mono HBW1.out.size)
          have HB2 : Hid (Below N W w2) := HB.out.trans (hbw2.mono HSZ.out)
          have HO2 : Hid (w2.ownsRow N 3 1 (.slice va on vc) on (ivl (openL ((rangeI nd).take k) D))) := by have := HO.out.below hbw2; unfold Oi at this; rw [Hid.out hon'] at this; exact this
          have HSZ2 : Hid (N ≤ w2.heap.size) := Nat.le_trans HSZ.out hbw2.size
          have HB3 : Hid (Below N W (w2.alloc (Obj.cells #[.int .i64 (k : Int)] 3))) := HB2.out.alloc HSZ2.out _
          clear hb2 hbw2
          go_wp2_with (at_builtin; refine wpList_append_own _ rfl _ _ 24 rfl N 3 i0 (.int .i64 0) 1 8 Tryz.underlying24 hi0 hz0 hz1 hz2 rfl (by decide) _ _ _ rfl (HO2.out.alloc _) ⟨w2.heap.size, 0, none⟩ 1 1 [.int .i64 (k : Int)] rfl rfl (fun j u hj => by cases j with | zero => (simp at hj; subst hj; simp [Addr.add]) | succ j => simp at hj) (by simp [Value.oneCell']) hlenm hbytes (by simp; have := HSZ2.out; omega) ?_; intro v' w3 hown' hgrow _; obtain ⟨gn, capn, rfl⟩ := ownsRow_succ hown')
          go_roundw
          case rel =>
            refine ⟨k + 1, by go_num, by omega, ?_, ?_⟩
            · unfold Hid Oi
              rw [HSN.out, d1]
              simp only [Bool.and_self, if_true, List.length_append, List.length_cons, List.length_nil, Hid.out hon']
              have : ivl (openL ((rangeI nd).take k) D ++ [(k : Int)]) = ivl (openL ((rangeI nd).take k) D) ++ [.int .i64 (k : Int)] := by simp [ivl]
              rw [this]; exact hown'
            · exact HB3.out.grown hgrow (by simp; have := HSZ2.out; omega) (fun g hg => own_typN HO2.out hg)
          case measure => simp [intOf]; omega
        · have d1 : decide (1 < sz) = false := by simpa using h1
          have d2 : ¬ sz > 1 := h1
          go_wp2_with fail
          refine kr.mono ?_
          clear kr g0 g1 g2 g3 g4 g5
          rintro e w1 ⟨rfl, hb1⟩
          have HBW1 : Hid (Below wr.heap.size wr w1) := hb1
          clear hb1
          obtain ⟨g0, g1, g2, g3, g4, g5⟩ := HCL.out w1 HBW1.out
          go_wp2_with fail
          refine (HKS.out w1 HBW1.out).mono ?_
          clear g0 g1 g2 g3 g4 g5
          rintro e w2 ⟨rfl, hb2⟩
          have hbw2 : Below wr.heap.size wr w2 := HBW1.out.trans (hb2.mono HBW1.out.size)
          have HB2 : Hid (Below N W w2) := HB.out.trans (hbw2.mono HSZ.out)
          have HO2 : Hid (Oi N w2 (.slice va on vc) _) := HO.out.below hbw2
          clear hb2 hbw2
          go_wp2
          go_roundw
          case rel => exact ⟨k + 1, by go_num, by omega, by unfold Hid; rw [HSN.out, d1]; exact HO2.out, HB2.out⟩
          case measure => simp [intOf]; omega
    · have hlt' : ¬ (k : Int) < (nd : Int) := by omega
      obtain rfl : k = nd := by omega
      have hfull : (rangeI k).take k = rangeI k := List.take_of_length_le (by rw [rangeI_len]; exact Nat.le_refl _)
      rw [hfull] at HO
      clear hfull
      go_wp2
      go_ret
      exact ⟨_, rfl, HO.out, HB.out⟩
end Go.Proofs.YthkliicmoandmaaGreatDoor

namespace Go.Proofs.YthkliicmoandmaaGreatDoor
open Go.RowKit Go.Shelf
set_option linter.unusedVariables false
set_option linter.unusedSimpArgs false

theorem own_cells {w : World} {B : Nat} {e : TypeId} {v : Value} {l : List Int} (h : w.ownsRow B e 1 v l.length (St.intv l)) (h0 : 0 < l.length) : ∃ g c, v = .slice (some ⟨g, 0, none⟩) l.length c ∧ B ≤ g ∧ g < w.heap.size ∧ ∀ i, i < l.length → w.cell? ⟨g, 0 + i, none⟩ = some (.int .i64 (St.nth l i)) := by
  rcases h.2 with ⟨e1, e2⟩ | ⟨g, cap, cur, e1, hB, hg, hn, hm, hs, ht⟩
  · omega
  · refine ⟨g, cap, e1, hB, (Array.getElem?_eq_some_iff.1 hg).1, fun i hi => ?_⟩
    have hc : w.cell? ⟨g, 0 + i, none⟩ = cur[i]? := by simp [World.cell?, hg]
    have h1 : (St.intv l)[i]? = some (.int .i64 (St.nth l i)) := by unfold St.intv; rw [List.getElem?_map, nth_get hi]; rfl
    rw [← ht, List.getElem?_take, if_pos (by omega), Array.getElem?_toList] at h1
    rw [hc]; exact h1

set_option maxRecDepth 100000 in
set_option maxHeartbeats 4000000 in
theorem rfree_any {X : Nat → Prop} {W : World} {c : List Value} {d : MD} (h : Dc X W c d) :
    Calls Tryz.prog 84 #[.agg c.toArray] W fun e w' => ∃ v, e = .returned v ∧ w'.ownsRow W.heap.size 2 1 v (freeL d).length (St.intv (freeL d)) ∧ Below W.heap.size W w' := by
  obtain ⟨b, ra, n0, rc, a1, n1, c1, a2, n2, c2, x, y, rfl, HE, H1, H2, H3⟩ := h.look
  obtain ⟨W0, hW0⟩ : ∃ Q, W.alloc (Obj.cells #[.bool b, .slice ra n0 rc, .slice a1 n1 c1, .slice a2 n2 c2, .int .i64 x, .int .i64 y] 50) = Q := ⟨_, rfl⟩
  have hb0 : Below W.heap.size W W0 := by rw [← hW0]; exact (Below.refl _ W).alloc (Nat.le_refl _) _
  have HB0 : Hid (Bx W0 W.heap.size #[.bool b, .slice ra n0 rc, .slice a1 n1 c1, .slice a2 n2 c2, .int .i64 x, .int .i64 y] 50) := by rw [← hW0]; exact Bx.new _ _ _
  have kl := St.refless_any (.slice a2 n2 c2) (.slice a1 n1 c1) d.up d.lo W0 (H3.out.si.below hb0) (H2.out.si.below hb0)
  have HF : Hid (St.lessL (St.tkS d.up) (St.tkS d.lo) = freeL d) := rfl
  rw [HF.out] at kl
  generalize freeL d = fl at *
  have HBB : Hid (Below W.heap.size W W0) := hb0
  have HWW : Hid _ := hW0
  obtain ⟨z0, z1, z2, z3, z4, z5⟩ := HB0.out.six
  clear hb0 hW0 H1 H2 H3 HE h HF
  go_enter Tryz.func84, Tryz.ntmps84
  go_upto_region 1 with (fail)
  rw [HWW.out]
  go_wp2_with fail
  refine kl.mono ?_
  clear kl z0 z1 z2 z3 z4 z5
  rintro e w1 ⟨v, rfl, ho, hb1⟩
  have HO : Hid (w1.ownsRow W0.heap.size 2 1 v fl.length (St.intv fl)) := ho
  obtain ⟨va, vc, rfl⟩ : ∃ a c, v = .slice a fl.length c := by
    rcases ho.2 with ⟨e1, e2⟩ | ⟨g, cap, cur, e1, _⟩
    · exact ⟨none, 0, by rw [e1, e2]⟩
    · exact ⟨_, _, e1⟩
  clear ho
  go_wp2
  go_ret
  exact ⟨_, rfl, own_base HO.out HBB.out.size, HBB.out.trans (hb1.mono HBB.out.size)⟩

set_option maxRecDepth 100000 in
set_option maxHeartbeats 4000000 in
theorem rends_s {X : Nat → Prop} {W : World} {c : List Value} {d : MD} (h : Dc X W c d) (hs : d.set = true) (hp : 0 < (freeL d).length) (hq : (freeL d).length ≤ 64) :
    Calls Tryz.prog 83 #[.agg c.toArray] W fun e w' => e = .returned (.tuple #[.int .i64 (St.nth (freeL d) 0), .int .i64 (St.nth (freeL d) ((freeL d).length - 1))]) ∧ Below W.heap.size W w' := by
  have h00 := h
  obtain ⟨b, ra, n0, rc, a1, n1, c1, a2, n2, c2, x, y, rfl, HE, H1, H2, H3⟩ := h.look
  obtain rfl : b = true := by rw [← HE.out.1, hs]
  obtain ⟨W0, hW0⟩ : ∃ Q, W.alloc (Obj.cells #[.bool true, .slice ra n0 rc, .slice a1 n1 c1, .slice a2 n2 c2, .int .i64 x, .int .i64 y] 50) = Q := ⟨_, rfl⟩
  have hb0 : Below W.heap.size W W0 := by rw [← hW0]; exact (Below.refl _ W).alloc (Nat.le_refl _) _
  have HB0 : Hid (Bx W0 W.heap.size #[.bool true, .slice ra n0 rc, .slice a1 n1 c1, .slice a2 n2 c2, .int .i64 x, .int .i64 y] 50) := by rw [← hW0]; exact Bx.new _ _ _
  have kl := rfree_any (h00.below hb0)
  generalize freeL d = fl at *
  obtain ⟨nf, hnf⟩ : ∃ q, fl.length = q := ⟨_, rfl⟩
  have HNF : Hid (fl.length = nf) := hnf
  obtain ⟨q0, hq0⟩ : ∃ q, St.nth fl 0 = q := ⟨_, rfl⟩
  obtain ⟨q1, hq1⟩ : ∃ q, St.nth fl (nf - 1) = q := ⟨_, rfl⟩
  rw [hnf, hq0, hq1]
  rw [hnf] at hp hq
  have HQ0 : Hid _ := hq0
  have HQ1 : Hid _ := hq1
  have HBB : Hid (Below W.heap.size W W0) := hb0
  have HWW : Hid _ := hW0
  obtain ⟨z0, z1, z2, z3, z4, z5⟩ := HB0.out.six
  have hne : ((nf : Int) == 0) = false := by simp; omega
  have hcast : ((nf : Int) - 1) = ((nf - 1 : Nat) : Int) := by omega
  have hw1 : wrap64 ((nf : Int) - 1) = ((nf - 1 : Nat) : Int) := by unfold wrap64; omega
  have hlt1 : nf - 1 < nf := by omega
  clear hb0 hW0 H1 H2 H3 HE hs h h00 hnf hq0 hq1
  go_enter Tryz.func83, Tryz.ntmps83
  go_upto_region 1 with (fail)
  rw [HWW.out]
  go_wp2_with fail
  refine kl.mono ?_
  clear kl z0 z1 z2 z3 z4 z5
  rintro e w1 ⟨v, rfl, ho, hb1⟩
  obtain ⟨b1, fc, rfl, _, hlt, hcell⟩ := own_cells ho (by rw [HNF.out]; exact hp)
  rw [HNF.out] at hcell ⊢
  have g0 : w1.cell? ⟨b1, 0, none⟩ = some (.int .i64 q0) := by have := hcell 0 hp; rw [HQ0.out] at this; exact this
  have g1 : w1.cell? ⟨b1, nf - 1, none⟩ = some (.int .i64 q1) := by have := hcell (nf - 1) hlt1; rw [HQ1.out, Nat.zero_add] at this; exact this
  have HB2 : Hid (Below W.heap.size W w1) := HBB.out.trans (hb1.mono HBB.out.size)
  generalize nf - 1 = m at *
  clear ho hcell hb1 HNF HQ0 HQ1
  go_upto_region 5 with (fail)
  go_quiet (fail)
  go_wp2
  go_ret2
  exact ⟨rfl, below_drewN HB2.out _⟩

set_option maxRecDepth 100000 in
set_option maxHeartbeats 4000000 in
theorem rends_n {X : Nat → Prop} {W : World} {c : List Value} {d : MD} (h : Dc X W c d) (hs : d.set = false) (hr : Dm.Right d.r) (hp : 0 < d.r.length) :
    Calls Tryz.prog 83 #[.agg c.toArray] W fun e w' => e = .returned (.tuple #[.int .i64 (loM d), .int .i64 (hiM d)]) ∧ Below W.heap.size W w' := by
  obtain ⟨b, ra, n0, rc, a1, n1, c1, a2, n2, c2, x, y, rfl, HE, H1, H2, H3⟩ := h.look
  obtain rfl : b = false := by rw [← HE.out.1, hs]
  obtain ⟨W0, hW0⟩ : ∃ Q, W.alloc (Obj.cells #[.bool false, .slice ra n0 rc, .slice a1 n1 c1, .slice a2 n2 c2, .int .i64 x, .int .i64 y] 50) = Q := ⟨_, rfl⟩
  have hb0 : Below W.heap.size W W0 := by rw [← hW0]; exact (Below.refl _ W).alloc (Nat.le_refl _) _
  have HB0 : Hid (Bx W0 W.heap.size #[.bool false, .slice ra n0 rc, .slice a1 n1 c1, .slice a2 n2 c2, .int .i64 x, .int .i64 y] 50) := by rw [← hW0]; exact Bx.new _ _ _
  have HMI : Hid (∀ w, Below W.heap.size W w → Calls Tryz.prog 126 #[.slice ra n0 rc] w fun e w' => e = .returned (.tuple #[.int .i64 (loM d), .bool true]) ∧ Below w.heap.size w w') := fun w hb => (Dm.refmin_yes _ _ w (H1.out.kept (Kept.of_below hb)).sr ⟨hr, hp⟩).mono fun e w' ⟨he, n, hn⟩ => ⟨he, by rw [hn]; exact below_drewN (Below.refl _ _) _⟩
  have HMA : Hid (∀ w, Below W.heap.size W w → Calls Tryz.prog 127 #[.slice ra n0 rc] w fun e w' => e = .returned (.tuple #[.int .i64 (hiM d), .bool true]) ∧ Below w.heap.size w w') := fun w hb => (Dm.refmax_yes _ _ w (H1.out.kept (Kept.of_below hb)).sr ⟨hr, hp⟩).mono fun e w' ⟨he, n, hn⟩ => ⟨he, by rw [hn]; exact below_drewN (Below.refl _ _) _⟩
  generalize loM d = q0 at *
  generalize hiM d = q1 at *
  have HBB : Hid (Below W.heap.size W W0) := hb0
  have HWW : Hid _ := hW0
  obtain ⟨z0, z1, z2, z3, z4, z5⟩ := HB0.out.six
  clear hb0 hW0 H1 H2 H3 HE hs h
  go_enter Tryz.func83, Tryz.ntmps83
  go_upto_region 1 with (fail)
  rw [HWW.out]
  go_wp2_with fail
  refine (HMI.out _ HBB.out).mono ?_
  clear z0 z1 z2 z3 z4 z5
  rintro e w1 ⟨rfl, hb1⟩
  obtain ⟨z0, z1, z2, z3, z4, z5⟩ := (HB0.out.below hb1).six
  have HB1 : Hid (Below W.heap.size W w1) := HBB.out.trans (hb1.mono HBB.out.size)
  clear hb1
  go_wp2_with fail
  refine (HMA.out _ HB1.out).mono ?_
  clear z0 z1 z2 z3 z4 z5
  rintro e w2 ⟨rfl, hb2⟩
  go_wp2
  go_ret2
  exact ⟨rfl, HB1.out.trans (hb2.mono HB1.out.size)⟩

theorem rends_d {X : Nat → Prop} {W : World} {c : List Value} {d : MD} (h : Dc X W c d) (hv : sevB d = true) :
    Calls Tryz.prog 83 #[.agg c.toArray] W fun e w' => e = .returned (.tuple #[.int .i64 (endsD d).1, .int .i64 (endsD d).2]) ∧ Below W.heap.size W w' := by
  unfold endsD
  cases hs : d.set
  · simp only [Bool.false_eq_true, if_false]
    exact rends_n h hs (sev_num hv hs).2 (sev_num hv hs).1
  · simp only [if_true]
    exact rends_s h hs (free_pos hv hs).1 (free_pos hv hs).2

set_option maxRecDepth 100000 in
set_option maxHeartbeats 4000000 in
theorem rhalf_any (a b : Int) (W : World) (ha : -1000000 ≤ a ∧ a ≤ 1000000) (hb : -1000000 ≤ b ∧ b ≤ 1000000) : Calls Tryz.prog 86 #[.int .i64 a, .int .i64 b] W fun e w' => e = .returned (.int .i64 ((a + b) / 2)) ∧ w' = W := by
  have hm1 : (a + b).tmod 2 = a + b - 2 * (a + b).tdiv 2 := by have := Int.tmod_add_mul_tdiv (a + b) 2; omega
  by_cases h0 : a + b < 0
  · have hneg : (a + b).tdiv 2 = -((-(a + b)) / 2) := by
      have h1 : (-(a + b)).tdiv 2 = (-(a + b)) / 2 := Int.tdiv_eq_ediv_of_nonneg (by omega)
      have h2 : (-(a + b)).tdiv 2 = -((a + b).tdiv 2) := Int.neg_tdiv (a + b) 2
      omega
    obtain ⟨k, hk⟩ : ∃ q, (a + b).tdiv 2 = q := ⟨_, rfl⟩
    by_cases h2 : (a + b).tmod 2 = 0
    · have HQ : Hid ((a + b) / 2 = k) := by unfold Hid; omega
      have e2 : ((a + b).tmod 2 != 0) = false := by simpa using h2
      have d0 : decide (a + b < 0) = true := by simpa using h0
      have hw : wrap64 (a + b) = a + b := by unfold wrap64; omega
      have hwk : wrap64 k = k := by unfold wrap64; omega
      have HWK : Hid (wrap64 k = k) := hwk
      rw [HQ.out]
      clear hm1 hneg ha hb h2
      go_enter Tryz.func86, Tryz.ntmps86
      go_wp2
      go_ret
      exact ⟨(by first | rfl | exact congrArg (fun z => Ending.returned (.int .i64 z)) HWK.out), rfl⟩
    · have HQ : Hid ((a + b) / 2 = k - 1) := by unfold Hid; omega
      have e2 : ((a + b).tmod 2 != 0) = true := by simpa using h2
      have d0 : decide (a + b < 0) = true := by simpa using h0
      have hw : wrap64 (a + b) = a + b := by unfold wrap64; omega
      have hwk : wrap64 k = k := by unfold wrap64; omega
      have hwk1 : wrap64 (k - 1) = k - 1 := by unfold wrap64; omega
      have HWK : Hid (wrap64 (k - 1) = k - 1) := hwk1
      rw [HQ.out]
      clear hm1 hneg ha hb h2
      go_enter Tryz.func86, Tryz.ntmps86
      go_wp2
      go_ret
      exact ⟨(by first | rfl | exact congrArg (fun z => Ending.returned (.int .i64 z)) HWK.out), rfl⟩
  · obtain ⟨k, hk⟩ : ∃ q, (a + b).tdiv 2 = q := ⟨_, rfl⟩
    have hq : (a + b).tdiv 2 = (a + b) / 2 := Int.tdiv_eq_ediv_of_nonneg (by omega)
    have HQ : Hid ((a + b) / 2 = k) := by unfold Hid; omega
    have d0 : decide (a + b < 0) = false := by simpa using h0
    have hw : wrap64 (a + b) = a + b := by unfold wrap64; omega
    have hwk : wrap64 k = k := by unfold wrap64; omega
    rw [HQ.out]
    clear hm1 ha hb hq
    go_enter Tryz.func86, Tryz.ntmps86
    go_wp2
    go_ret
    exact ⟨rfl, rfl⟩
end Go.Proofs.YthkliicmoandmaaGreatDoor
