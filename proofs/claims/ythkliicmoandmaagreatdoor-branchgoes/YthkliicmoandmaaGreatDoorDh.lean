/-
  What is proved here: the reference tells the same open variables.
-/
import Derived.Test.YthkliicmoandmaaGreatDoorDg
import Derived.Test.YthkliicmoandmaaGreatDoorCij
namespace Go.Proofs.YthkliicmoandmaaGreatDoor
open Go.RowKit Go.Shelf
set_option linter.unusedVariables false
set_option linter.unusedSimpArgs false

theorem ch_pos : ∀ (r i : Nat), i ≤ r → 1 ≤ St.ch r i
  | 0, i, h => by
    obtain rfl : i = 0 := by omega
    decide
  | r + 1, i, h => by
    unfold St.ch
    split
    · exact ch_pos r 0 (Nat.zero_le _)
    · have a1 := St.ch_nonneg r i
      have a2 := ch_pos r (i - 1) (by omega)
      omega
theorem sm_ge {f : Nat → Int} (hf : ∀ i, 0 ≤ f i) : ∀ (n i : Nat), i < n → f i ≤ St.sm f n
  | 0, i, h => absurd h (by omega)
  | n + 1, i, h => by
    unfold St.sm
    have h0 := St.sm_nonneg (f := f) n (fun j _ => hf j)
    rcases Nat.lt_or_ge i n with q | q
    · have := sm_ge hf n i q
      have := hf n
      omega
    · obtain rfl : i = n := by omega
      omega
theorem ns_pos (r n : Nat) (least most : Int) (i : Nat) (hi : i < r + 1) (h : least ≤ (n : Int) + i ∧ (n : Int) + i ≤ most) : 1 ≤ St.NS r n least most := by
  have h1 := sm_ge (fun j => St.nsf_nonneg r n least most j) (r + 1) i hi
  have h2 : St.nsf r n least most i = St.ch r i := by unfold St.nsf; rw [if_pos h]
  have h3 := ch_pos r i (by omega)
  unfold St.NS
  omega
theorem sev_size (d : MD) : sevB d = (rightM d && decide (1 < sizA d)) := by
  unfold sevB
  cases hR : rightM d
  · rfl
  · simp only [Bool.true_and]
    unfold emptyA onlyA sizA
    unfold rightM at hR
    cases hs : d.set
    · simp only [Bool.false_eq_true, if_false]
      rw [hs] at hR
      simp only [Bool.false_eq_true, if_false] at hR
      unfold rightW at hR
      simp only [Bool.and_eq_true] at hR
      have hr : Dm.Right d.r := by have := hR.1.1.1.1; unfold Dm.rightB at this; simpa using this
      have ho := (Dm.right_ord hr).1
      unfold emptyW onlyW
      rw [Dm.tk_yes hr, Dm.sizeR_vals ho.1]
      rcases Nat.eq_zero_or_pos d.r.length with q | q
      · have e : d.r = [] := List.eq_nil_of_length_eq_zero q
        rw [e]; decide
      · have hm : Dm.lo d.r 0 ∈ Dm.vals d.r := (Dm.mem_vals' _ _).2 ⟨d.r[0], List.getElem_mem q, by unfold Dm.lo; rw [List.getElem?_eq_getElem q]; exact Int.le_refl _, by have := ho.1 _ (List.getElem_mem q); unfold Dm.lo; rw [List.getElem?_eq_getElem q]; exact this⟩
        have hl := List.length_pos_of_mem hm
        have q2 : ¬ d.r.length = 0 := by omega
        by_cases h1 : ((Dm.vals d.r).length : Int) = 1
        · rw [if_pos h1]; simp [q2, h1]
        · rw [if_neg h1]
          have h3 : (1 : Int) < ((Dm.vals d.r).length : Int) := by omega
          simp only [q2, decide_false, Bool.not_false, Bool.true_and, h3, decide_true]
    · simp only [if_true]
      rw [if_pos hs] at hR
      have hr : St.RightD (sdM d) := by unfold St.rightD at hR; simpa using hR
      have hc := St.fixed_one (sdM d)
      have hcr := St.count_right hr
      obtain ⟨_, _, s1, s2, s3, s4⟩ := id hr
      rcases s4 with ⟨e1, e2, e3⟩ | ⟨e1, e2, e3⟩
      · have q1 : d.least = 1 := e1
        have q2 : d.most = 0 := e2
        have hz : St.NSd (sdM d) = 0 := by
          unfold St.NSd
          rw [e1, e2]
          exact St.NS_empty _ _ _ _ (fun i _ h => by omega)
        rw [hz] at hcr
        rw [hcr, q1, q2]; simp; omega
      · have q : ¬ d.most < d.least := by have : d.least ≤ d.most := e2; omega
        have hn : 0 < St.countD (sdM d) := by
          rw [hcr]
          have hlen := St.set_sub_len s1 s2 (St.right_sub hr)
          have hk : ∃ i : Nat, i < (sdM d).up.length - (sdM d).lo.length + 1 ∧ ((sdM d).least : Int) = ((sdM d).lo.length : Int) + i := ⟨((sdM d).least - (sdM d).lo.length).toNat, by omega, by omega⟩
          obtain ⟨i, hi, hle⟩ := hk
          have := ns_pos ((sdM d).up.length - (sdM d).lo.length) (sdM d).lo.length (sdM d).least (sdM d).most i hi (by omega)
          unfold St.NSd
          omega
        rcases hc with ⟨c1, c2, _⟩ | ⟨c1, c2⟩
        · rw [c2, c1]; simp
        · rw [c2]
          have : 1 < St.countD (sdM d) := by omega
          simp [q, this]

set_option maxRecDepth 100000 in
set_option maxHeartbeats 4000000 in
theorem ropen_any {W : World} {p2 : Option Addr} {nd k2 : Nat} {D : List MD} (h : Ds W (.slice p2 nd k2) D) (hD : ∀ d ∈ D, Good d) (hDl : D.length * 8 ≤ 140737488355328) :
    Calls Tryz.prog 12 #[.slice p2 nd k2] W fun e w' => ∃ v, e = .returned v ∧ Oi W.heap.size w' v (openAll D) ∧ Below W.heap.size W w' := by
  obtain ⟨N, hN⟩ : ∃ N, W.heap.size = N := ⟨_, rfl⟩
  have hnd : D.length = nd := by obtain ⟨a, c, e, _⟩ := h; injection e with _ e2 _; exact e2.symm
  have HD : Hid (∀ w, Below N W w → Ds w (.slice p2 nd k2) D) := fun w hb => h.below (by rw [hN]; exact hb)
  have HG : Hid (∀ d ∈ D, Good d) := hD
  have HND : Hid (D.length = nd) := hnd
  have HN : Hid (W.heap.size = N) := hN
  have HNZ : Hid (0 < nd → ∃ b off, p2 = some ⟨b, off, none⟩) := fun h0 => by
    obtain ⟨a, c, e, hc⟩ := h
    obtain ⟨b, off, e1, _⟩ := hc (by omega)
    injection e with e2 _ _
    exact ⟨b, off, e2.trans e1⟩
  rw [hnd] at hDl
  obtain ⟨i0, hi0, hz0, hz1, hz2⟩ := info_parts Tryz.infoI
  have HOA : Hid (openAll D = openL (rangeI nd) D) := by unfold Hid openAll; rw [hnd]
  clear h hD hnd
  rw [HOA.out, HN.out]
  go_enter Tryz.func12, Tryz.ntmps12
  go_wp2
  go_loopw [3, 4] (fun v i wr => ∃ k : Nat, i = .int .i64 (k : Int) ∧ k ≤ nd ∧ Hid (Oi N wr v (openL ((rangeI nd).take k) D)) ∧ Hid (Below N W wr)) (fun _ i _ => nd - (intOf i).toNat)
  case atStart => exact ⟨0, rfl, Nat.zero_le _, by unfold Hid; simpa [Oi, ivl, openL] using World.ownsRow_nil _ _ _ _, Below.refl _ _⟩
  case round =>
    obtain ⟨k, rfl, hk, HO, HB⟩ := hrel
    obtain ⟨va, vc, rfl⟩ := HO.out.shape
    have hlk : (openL ((rangeI nd).take k) D).length ≤ k := Nat.le_trans (openL_le _ _) (by rw [List.length_take, rangeI_len]; omega)
    obtain ⟨on, hon⟩ : ∃ q, (openL ((rangeI nd).take k) D).length = q := ⟨_, rfl⟩
    rw [hon] at HO hlk ⊢
    by_cases hlt : k < nd
    · have hlt' : (k : Int) < (nd : Int) := by omega
      have hbytes : (on + 1) * 8 ≤ 140737488355328 := by omega
      have hlenm : on + 1 ≤ maxLen := by unfold maxLen; omega
      have hwk : IntKind.i64.wrap ((k : Int) + 1) = (k : Int) + 1 := by rw [IntKind.wrap_i64]; omega
      obtain ⟨d, hd⟩ : ∃ d, D[k]? = some d := ⟨_, List.getElem?_eq_getElem (by rw [HND.out]; exact hlt)⟩
      obtain ⟨b2, off2, rfl, hbl, _, c0, c1, c2, c3, c4, c5, hDc, g0, g1, g2, g3, g4, g5⟩ := (HD.out wr HB.out).at hd
      have hgd := HG.out d (List.mem_of_getElem? hd)
      have kr := rright_d hDc hgd
      have HKS : Hid (∀ w, Below wr.heap.size wr w → Calls Tryz.prog 31 #[.agg #[c0, c1, c2, c3, c4, c5]] w fun e w' => e = .returned (.int .i64 (sizA d)) ∧ Below w.heap.size w w') := fun w hb => rsize_d (hDc.below hb)
      have HSN : Hid (openL ((rangeI nd).take (k + 1)) D = if openB D (k : Int) then openL ((rangeI nd).take k) D ++ [(k : Int)] else openL ((rangeI nd).take k) D) := openL_snoc (rangeI nd) D k (k : Int) (by unfold rangeI; simp [hlt])
      have HOB : Hid (openB D (k : Int) = (rightM d && decide (1 < sizA d))) := by
        unfold Hid openB
        rw [← sev_size d]
        have : decide ((k : Int) < (D.length : Int)) = true := by rw [HND.out]; simpa using hlt
        rw [this]
        simp [hd]
      rw [HOB.out] at HSN
      have HSZ : Hid (N ≤ wr.heap.size) := by have := HB.out.size; rw [HN.out] at this; exact this
      have HCL : Hid (∀ w, Below wr.heap.size wr w → w.cell? ⟨b2, off2 + k * 6, none⟩ = some c0 ∧ w.cell? ⟨b2, off2 + k * 6 + 1, none⟩ = some c1 ∧ w.cell? ⟨b2, off2 + k * 6 + 2, none⟩ = some c2 ∧ w.cell? ⟨b2, off2 + k * 6 + 3, none⟩ = some c3 ∧ w.cell? ⟨b2, off2 + k * 6 + 4, none⟩ = some c4 ∧ w.cell? ⟨b2, off2 + k * 6 + 5, none⟩ = some c5) := fun w hb => ⟨(hb.cell (p := ⟨b2, _, none⟩) hbl).trans g0, (hb.cell (p := ⟨b2, _, none⟩) hbl).trans g1, (hb.cell (p := ⟨b2, _, none⟩) hbl).trans g2, (hb.cell (p := ⟨b2, _, none⟩) hbl).trans g3, (hb.cell (p := ⟨b2, _, none⟩) hbl).trans g4, (hb.cell (p := ⟨b2, _, none⟩) hbl).trans g5⟩
      have hone := hDc.one
      generalize rightM d = rm at *
      generalize sizA d = sz at *
      have hon' : Hid _ := hon
      clear hDc hgd hd HOB hon
      cases rm
      · go_wp2_with fail
        refine kr.mono ?_
        clear kr g0 g1 g2 g3 g4 g5
        rintro e w1 ⟨rfl, hb1⟩
        have HB1 : Hid (Below N W w1) := HB.out.trans (hb1.mono HSZ.out)
        have HO1 : Hid (Oi N w1 (.slice va on vc) _) := HO.out.below hb1
        clear hb1
        go_wp2
        go_roundw
        case rel => exact ⟨k + 1, by go_num, by omega, by unfold Hid; rw [HSN.out]; exact HO1.out, HB1.out⟩
        case measure => simp [intOf]; omega
      · by_cases h1 : 1 < sz
        · have d1 : decide (1 < sz) = true := by simpa using h1
          have d2 : sz > 1 := h1
          go_wp2_with fail
          refine kr.mono ?_
          clear kr g0 g1 g2 g3 g4 g5
          rintro e w1 ⟨rfl, hb1⟩
          have HBW1 : Hid (Below wr.heap.size wr w1) := hb1
          clear hb1
          obtain ⟨g0, g1, g2, g3, g4, g5⟩ := HCL.out w1 HBW1.out
          go_wp2_with fail
          refine (HKS.out w1 HBW1.out).mono ?_
          clear g0 g1 g2 g3 g4 g5
          rintro e w2 ⟨rfl, hb2⟩
          have hbw2 : Below wr.heap.size wr w2 := HBW1.out.trans (hb2.mono HBW1.out.size)
          have HB2 : Hid (Below N W w2) := HB.out.trans (hbw2.mono HSZ.out)
          have HO2 : Hid (w2.ownsRow N 3 1 (.slice va on vc) on (ivl (openL ((rangeI nd).take k) D))) := by have := HO.out.below hbw2; unfold Oi at this; rw [Hid.out hon'] at this; exact this
          have HSZ2 : Hid (N ≤ w2.heap.size) := Nat.le_trans HSZ.out hbw2.size
          have HB3 : Hid (Below N W (w2.alloc (Obj.cells #[.int .i64 (k : Int)] 3))) := HB2.out.alloc HSZ2.out _
          clear hb2 hbw2
          go_wp2_with (at_builtin; refine wpList_append_own _ rfl _ _ 24 rfl N 3 i0 (.int .i64 0) 1 8 Tryz.underlying24 hi0 hz0 hz1 hz2 rfl (by decide) _ _ _ rfl (HO2.out.alloc _) ⟨w2.heap.size, 0, none⟩ 1 1 [.int .i64 (k : Int)] rfl rfl (fun j u hj => by cases j with | zero => (simp at hj; subst hj; simp [Addr.add]) | succ j => simp at hj) (by simp [Value.oneCell']) hlenm hbytes (by simp; have := HSZ2.out; omega) ?_; intro v' w3 hown' hgrow _; obtain ⟨gn, capn, rfl⟩ := ownsRow_succ hown')
          go_roundw
          case rel =>
            refine ⟨k + 1, by go_num, by omega, ?_, ?_⟩
            · unfold Hid Oi
              rw [HSN.out, d1]
              simp only [Bool.and_self, if_true, List.length_append, List.length_cons, List.length_nil, Hid.out hon']
              have : ivl (openL ((rangeI nd).take k) D ++ [(k : Int)]) = ivl (openL ((rangeI nd).take k) D) ++ [.int .i64 (k : Int)] := by simp [ivl]
              rw [this]; exact hown'
            · exact HB3.out.grown hgrow (by simp; have := HSZ2.out; omega) (fun g hg => own_typN HO2.out hg)
          case measure => simp [intOf]; omega
        · have d1 : decide (1 < sz) = false := by simpa using h1
          have d2 : ¬ sz > 1 := h1
          go_wp2_with fail
          refine kr.mono ?_
          clear kr g0 g1 g2 g3 g4 g5
          rintro e w1 ⟨rfl, hb1⟩
          have HBW1 : Hid (Below wr.heap.size wr w1) := hb1
          clear hb1
          obtain ⟨g0, g1, g2, g3, g4, g5⟩ := HCL.out w1 HBW1.out
          go_wp2_with fail
          refine (HKS.out w1 HBW1.out).mono ?_
          clear g0 g1 g2 g3 g4 g5
          rintro e w2 ⟨rfl, hb2⟩
          have hbw2 : Below wr.heap.size wr w2 := HBW1.out.trans (hb2.mono HBW1.out.size)
          have HB2 : Hid (Below N W w2) := HB.out.trans (hbw2.mono HSZ.out)
          have HO2 : Hid (Oi N w2 (.slice va on vc) _) := HO.out.below hbw2
          clear hb2 hbw2
          go_wp2
          go_roundw
          case rel => exact ⟨k + 1, by go_num, by omega, by unfold Hid; rw [HSN.out, d1]; exact HO2.out, HB2.out⟩
          case measure => simp [intOf]; omega
    · have hlt' : ¬ (k : Int) < (nd : Int) := by omega
      obtain rfl : k = nd := by omega
      have hfull : (rangeI k).take k = rangeI k := List.take_of_length_le (by rw [rangeI_len]; exact Nat.le_refl _)
      rw [hfull] at HO
      clear hfull
      go_wp2
      go_ret
      exact ⟨_, rfl, HO.out, HB.out⟩
end Go.Proofs.YthkliicmoandmaaGreatDoor
