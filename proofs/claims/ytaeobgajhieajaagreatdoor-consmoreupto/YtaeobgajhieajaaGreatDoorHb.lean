/-
  What is proved here: the walk of ConsMore.
-/
import Derived.Test.YtaeobgajhieajaaGreatDoorHa
namespace Go.Proofs.YtaeobgajhieajaaGreatDoor
open Go.RowKit Go.Shelf
set_option linter.unusedVariables false
set_option linter.unusedSimpArgs false

theorem compact_mem (L : List Int) : ∀ x ∈ Lib.compact L, x ∈ L := by
  intro x hx
  unfold Lib.compact Lib.compactUpTo at hx
  obtain ⟨j, hj, rfl⟩ := List.mem_map.1 hx
  have hj2 := (List.mem_filter.1 hj).1
  have hlt : j < L.length := List.mem_range.1 hj2
  rw [getElem!_pos L.toArray j (by simpa using hlt)]
  simp
theorem own_at3 {X : World} {B n : Nat} {v : Value} {L : List Int} (h : X.ownsRow B 3 1 v n (intv L)) : ∃ p c, v = .slice p n c ∧ n = L.length ∧ ∀ (i : Nat) (x : Int), L[i]? = some x → ∃ g, p = some ⟨g, 0, none⟩ ∧ g < X.heap.size ∧ X.cell? ⟨g, i, none⟩ = some (.int .i64 x) := by
  have hl : n = L.length := by have := h.1; simp [intv] at this; omega
  rcases h.2 with ⟨e1, e2⟩ | ⟨g, cap, cur, e1, hg, hgb, hn, hm, hs, ht⟩
  · exact ⟨none, 0, by rw [e1, e2], hl, fun i x hx => by have := (List.getElem?_eq_some_iff.1 hx).1; omega⟩
  · refine ⟨_, cap, e1, hl, fun i x hx => ⟨g, rfl, (Array.getElem?_eq_some_iff.1 hgb).1, ?_⟩⟩
    have hi : i < L.length := (List.getElem?_eq_some_iff.1 hx).1
    rw [cell_row hgb]
    have : (intv L)[i]? = some (.int .i64 x) := by simp [intv, hx]
    rw [← ht, List.getElem?_take, if_pos (by omega), Array.getElem?_toList] at this
    exact this

set_option maxRecDepth 100000 in
set_option maxHeartbeats 4000000 in
theorem more_walk (nm : List UInt8) (ags : List Ag) (bs ms : List Bool) {a0 : Option Addr} {n0 c0 : Nat} {a1 : Option Addr} {n1 c1 : Nat} {a2 : Option Addr} {n2 c2 : Nat} (W : World) (hM : MaxL W) (h : Sa 0 W (.slice a0 n0 c0) ags) (hlen : ags.length = n0) (hc : n0 ≤ c0) (hc9 : c0 ≤ 9223372036854775807)
    (hb : Sb W (.slice a1 n1 c1) bs) (hbn : bs.length = n1) (hm : Sb W (.slice a2 n2 c2) ms) (hmn : ms.length = n2) (hn1 : n1 ≤ 100000000000) (hn2 : n2 ≤ 100000000000) (hn : n0 ≤ 4398046510976) (hl : ∀ g ∈ ags, g.l.length ≤ 4398046510976) (hs : ∀ g ∈ ags, ∀ t ∈ g.l, t.s.length ≤ 17592186043904) :
    Calls Tryz.prog 6 #[.agg #[.string ⟨nm.toArray⟩, .slice a0 n0 c0], .slice a1 n1 c1, .slice a2 n2 c2] W fun e w' => e = .returned (.bool true) ∧ Below W.heap.size W w' := by
  have HQ : Hid (n0 ≤ c0 ∧ c0 ≤ 9223372036854775807 ∧ n0 ≤ 4398046510976 ∧ (∀ g ∈ ags, g.l.length ≤ 4398046510976) ∧ ∀ g ∈ ags, ∀ t ∈ g.l, t.s.length ≤ 17592186043904) := ⟨hc, hc9, hn, hl, hs⟩
  have HN : Hid (ags.length = n0 ∧ bs.length = n1 ∧ ms.length = n2) := ⟨hlen, hbn, hmn⟩
  have HA : Hid (Sa 0 W (.slice a0 n0 c0) ags) := h
  have HBS : Hid (Sb W (.slice a1 n1 c1) bs) := hb
  have HMS : Hid (Sb W (.slice a2 n2 c2) ms) := hm
  have HM : Hid (MaxL W) := hM
  have KR : Hid (∀ X, Below W.heap.size W X → Calls Tryz.prog 18 #[.agg #[.string ⟨nm.toArray⟩, .slice a0 n0 c0], .slice a1 n1 c1] X fun e w' => e = .returned (.int .i64 (rightB nm ags bs)) ∧ Below X.heap.size X w') := fun X hX => right_any nm (hM.below hX hM.1) (h.below hX) hlen hc hc9 (hb.below hX) hbn hn hl hs
  have KN : Hid (∀ X, Below W.heap.size W X → Calls Tryz.prog 14 #[] X fun e w' => e = .returned (.bool true) ∧ Below X.heap.size X w') := fun X hX => known14 X (hM.below hX hM.1)
  clear hlen hc hc9 hbn hmn hn hl hs h hb hm hM
  obtain ⟨WA, hWA⟩ : ∃ X, W.alloc (Obj.cells #[.string ⟨nm.toArray⟩, .slice a0 n0 c0] 32) = X := ⟨_, rfl⟩
  have HB : Hid (Below W.heap.size W WA) := by rw [Hid, ← hWA]; exact (Below.refl _ W).alloc (Nat.le_refl _) _
  have KC : Hid (Blk WA W.heap.size #[.string ⟨nm.toArray⟩, .slice a0 n0 c0] 32) := by rw [Hid, ← hWA]; exact Blk.new W _ _
  have HWA : Hid (W.alloc (Obj.cells #[.string ⟨nm.toArray⟩, .slice a0 n0 c0] 32) = WA) := hWA
  obtain ⟨bC, hbC⟩ : ∃ x, W.heap.size = x := ⟨_, rfl⟩
  have HBC : Hid (W.heap.size = bC) := hbC
  rw [hbC] at KC
  clear hWA hbC
  have x0 : WA.cell? ⟨bC, 0, none⟩ = some (.string ⟨nm.toArray⟩) := KC.out.cell 0
  have x1 : WA.cell? ⟨bC, 1, none⟩ = some (.slice a0 n0 c0) := KC.out.cell 1
  have kR := KR.out WA HB.out
  obtain ⟨r, hr⟩ : ∃ r, rightB nm ags bs = r := ⟨_, rfl⟩
  rw [hr] at kR
  have HR : Hid (rightB nm ags bs = r) := hr
  clear hr
  go_enter Tryz.func6, Tryz.ntmps6
  go_upto_region 1 with (fail)
  rw [HWA.out, HBC.out]
  clear HWA
  go_wp2_with fail
  refine kR.mono ?_
  clear kR x0 x1
  rintro e w1 ⟨rfl, hb⟩
  replace HB : Hid (Below W.heap.size W w1) := HB.out.trans (hb.mono HB.out.size)
  replace KC : Hid (Blk w1 bC #[.string ⟨nm.toArray⟩, .slice a0 n0 c0] 32) := Blk.below KC.out hb
  clear hb
  by_cases hr0 : r = 0
  · subst hr0
    have HV : Hid (∀ x ∈ varsA ags, 0 ≤ x ∧ x < bs.length) := right_vars HR.out
    have HMO : Hid (rightB nm ags (bs ++ ms) = 0) := right_more HR.out
    have HFEW : Hid ((varsA ags).length ≤ 100000) := by
      obtain ⟨h0, h1, h2, _⟩ := right_ok HR.out
      have h3 := (eq_len h1).1
      have h4 := (find_ok nm h0).2.1
      have h5 := vars_few (ags := ags) (fun g hg => by
        have := List.any_eq_false.1 h2 g hg
        simp [longB] at this
        omega)
      rw [Hid]
      omega
    have HLQ : Hid (ags.length ≤ 1000000000000 ∧ ∀ g ∈ ags, g.l.length ≤ 1000000000000) := by
      obtain ⟨h0, h1, h2, _⟩ := right_ok HR.out
      have h3 := (eq_len h1).1
      have h4 := (find_ok nm h0).2.1
      refine ⟨by omega, fun g hg => ?_⟩
      have := List.any_eq_false.1 h2 g hg
      simp [longB] at this
      omega
    have hq1 := HBS.out.below HB.out
    have HBW1 : Hid (Below W.heap.size W w1) := HB
    have KC1 : Hid (Blk w1 bC #[.string ⟨nm.toArray⟩, .slice a0 n0 c0] 32) := KC
    have HBC1 : Hid (bC < w1.heap.size) := KC.out.lt
    go_wp2_with (at_builtin; refine wpList_app_bs _ rfl _ _ rfl w1.heap.size _ 0 [] rfl (World.ownsRow_nil _ _ _ _) _ bs rfl hq1 (Nat.le_refl _) (by have := HN.out.2.1; omega) ?_; intro v2 w2 hown2 hb2; refine Hid.out ?_)
    refine (show Hid _ from ?_)
    unfold Hid
    rw [List.nil_append, Nat.zero_add] at hown2
    replace HB : Hid (Below W.heap.size W w2) := HB.out.trans (hb2.mono HB.out.size)
    replace KC : Hid (Blk w2 bC #[.string ⟨nm.toArray⟩, .slice a0 n0 c0] 32) := Blk.below KC.out hb2
    obtain ⟨p2, q2, rfl⟩ := own_shape hown2
    have HO2 : Hid (w2.ownsRow w1.heap.size 4 1 (.slice p2 bs.length q2) bs.length (boolv bs)) := hown2
    have hq2 := HMS.out.below HB.out
    have HS1 : Hid (w1.heap.size ≤ w2.heap.size) := hb2.size
    have HW1 : Hid (Below w1.heap.size w1 w2) := hb2
    have HBL : Hid (bC < w1.heap.size) := HBC1.out
    clear hown2 hb2 hq1
    go_wp2_with (at_builtin; refine wpList_app_bs _ rfl _ _ rfl w1.heap.size _ bs.length bs rfl HO2.out _ ms rfl hq2 HS1.out (by have := HN.out; omega) ?_; intro v3 w3 hown3 hb3; refine Hid.out ?_)
    refine (show Hid _ from ?_)
    unfold Hid
    replace HB : Hid (Below W.heap.size W w3) := HBW1.out.trans ((HW1.out.trans hb3).mono HBW1.out.size)
    replace KC : Hid (Blk w3 bC #[.string ⟨nm.toArray⟩, .slice a0 n0 c0] 32) := Blk.below KC1.out (HW1.out.trans hb3)
    obtain ⟨p3, q3, rfl⟩ := own_shape hown3
    have HSB : Hid (Sb w3 (.slice p3 (bs.length + ms.length) q3) (bs ++ ms)) := (own_sb hown3).1
    clear hown3 hb3 hq2 HO2 HS1
    have x0 : w3.cell? ⟨bC, 0, none⟩ = some (.string ⟨nm.toArray⟩) := KC.out.cell 0
    have x1 : w3.cell? ⟨bC, 1, none⟩ = some (.slice a0 n0 c0) := KC.out.cell 1
    have kV := vars_any ⟨nm.toArray⟩ (HA.out.below HB.out) HLQ.out.1 HLQ.out.2 (by have := HFEW.out; omega) (by have := Lib.compact_length_le (sortL (varsA ags)); rwa [sortL_len] at this)
    go_wp2_with fail
    refine kV.mono ?_
    clear kV x0 x1
    rintro e w4 ⟨v, rfl, hown, hb4⟩
    replace HB : Hid (Below W.heap.size W w4) := HB.out.trans (hb4.mono HB.out.size)
    replace KC : Hid (Blk w4 bC #[.string ⟨nm.toArray⟩, .slice a0 n0 c0] 32) := Blk.below KC.out hb4
    replace HSB : Hid (Sb w4 (.slice p3 (bs.length + ms.length) q3) (bs ++ ms)) := Sb.below HSB.out hb4
    obtain ⟨pv, cv, rfl, _, hcv⟩ := own_at3 hown
    obtain ⟨L, hL⟩ : ∃ L, Lib.compact (sortL (varsA ags)) = L := ⟨_, rfl⟩
    have HLV : Hid (∀ x ∈ L, 0 ≤ x ∧ x < bs.length) := fun x hx => by
      rw [← hL] at hx
      exact HV.out x (by have := compact_mem _ x hx; unfold sortL at this; exact (List.mem_mergeSort).1 this)
    rw [hL] at hcv ⊢
    have HLL : Hid (L.length ≤ 100000) := by have h1 := Lib.compact_length_le (sortL (varsA ags)); rw [sortL_len, hL] at h1; exact Nat.le_trans h1 HFEW.out
    obtain ⟨ln, hln⟩ : ∃ x, L.length = x := ⟨_, rfl⟩
    have HLN : Hid (L.length = ln) := hln
    have HCV : Hid (∀ (i : Nat) (x : Int), L[i]? = some x → ∃ g, pv = some ⟨g, 0, none⟩ ∧ g < w4.heap.size ∧ w4.cell? ⟨g, i, none⟩ = some (.int .i64 x)) := hcv
    rw [hln]
    obtain ⟨bn, hbn⟩ : ∃ x, bs.length = x := ⟨_, rfl⟩
    rw [hbn] at HLV
    have hb1 : bn = n1 := by rw [← hbn]; exact HN.out.2.1
    subst hb1
    have HBN : Hid (bs.length = bn) := hbn
    rw [hbn] at HSB ⊢
    clear hown hb4 hcv hL hln hbn
    have hln9 : ln ≤ 100000 := by rw [← HLN.out]; exact HLL.out
    go_wp2
    go_loopw [9] (fun i wr => ∃ k : Nat, k ≤ ln ∧ i = .int .i64 (k : Int) ∧ wr = w4) (fun i _ => ln - (intOf i).toNat)
    case atStart => exact ⟨0, Nat.zero_le _, rfl, rfl⟩
    case round =>
      obtain ⟨k, hk, rfl, rfl⟩ := hrel
      by_cases hlt : k < ln
      · have hlt' : (k : Int) < ln := by omega
        obtain ⟨x, hx⟩ : ∃ x, L[k]? = some x := ⟨_, List.getElem?_eq_getElem (by rw [HLN.out]; exact hlt)⟩
        obtain ⟨g, rfl, hg, y0⟩ := HCV.out k x hx
        obtain ⟨z1, z2⟩ := HLV.out x (List.mem_of_getElem? hx)
        have z1' : ¬ x < 0 := by omega
        have z2' : ¬ (bn : Int) ≤ x := by omega
        have hw2 : IntKind.i64.wrap ((k : Int) + 1) = (k : Int) + 1 := by rw [IntKind.wrap_i64]; omega
        clear hx
        go_wp2
        go_roundw
        case rel => exact ⟨k + 1, by omega, by go_num, trivial⟩
        case measure => simp [intOf]; omega
      · have hlt' : ¬ (k : Int) < ln := by omega
        have x0 : wr.cell? ⟨bC, 0, none⟩ = some (.string ⟨nm.toArray⟩) := KC.out.cell 0
        have x1 : wr.cell? ⟨bC, 1, none⟩ = some (.slice a0 n0 c0) := KC.out.cell 1
        have kR := right_any nm (HM.out.below HB.out HM.out.1) (HA.out.below HB.out) HN.out.1 HQ.out.1 HQ.out.2.1 HSB.out (by rw [List.length_append, HBN.out]) HQ.out.2.2.1 HQ.out.2.2.2.1 HQ.out.2.2.2.2
        rw [HMO.out] at kR
        go_wp2_with fail
        refine kR.mono ?_
        clear kR x0 x1
        rintro e w5 ⟨rfl, hb5⟩
        have HB5 : Hid (Below W.heap.size W w5) := HB.out.trans (hb5.mono HB.out.size)
        clear hb5
        go_wp2_with fail
        refine (KN.out w5 HB5.out).mono ?_
        rintro e w6 ⟨rfl, hb6⟩
        have HB6 : Hid (Below W.heap.size W w6) := HB5.out.trans (hb6.mono HB5.out.size)
        clear hb6
        go_wp2
        go_ret
        exact ⟨rfl, HB6.out⟩
  · have hrq : (r != 0) = true := by simpa using hr0
    have hrq2 : (r == 0) = false := by simpa using hr0
    go_wp2_with fail
    refine (KN.out w1 HB.out).mono ?_
    rintro e w2 ⟨rfl, hb2⟩
    have HB2 : Hid (Below W.heap.size W w2) := HB.out.trans (hb2.mono HB.out.size)
    clear hb2
    go_wp2
    go_ret
    exact ⟨rfl, HB2.out⟩
end Go.Proofs.YtaeobgajhieajaaGreatDoor
