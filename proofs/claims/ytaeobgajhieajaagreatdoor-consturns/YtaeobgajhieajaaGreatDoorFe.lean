/-
  What is proved here: none below 0; as many; the automaton of a constraint.
-/
import Derived.Test.YtaeobgajhieajaaGreatDoorFd
namespace Go.Proofs.YtaeobgajhieajaaGreatDoor
open Go.RowKit Go.Shelf
set_option linter.unusedVariables false
set_option linter.unusedSimpArgs false

def negB (x : Int) : Bool := decide (x < 0)
def outB (q : Int) (x : Int) : Bool := decide (x < 0) || decide (q < x)

set_option maxRecDepth 100000 in
set_option maxHeartbeats 4000000 in
theorem neg109 (x : Int) (W : World) : Calls Tryz.prog 109 #[.int .i64 x] W fun e w' => e = .returned (.bool (negB x)) ∧ Below W.heap.size W w' := by
  go_enter Tryz.func109, Tryz.ntmps109
  go_wp2
  go_ret
  exact ⟨rfl, Below.refl _ _⟩

set_option maxRecDepth 100000 in
set_option maxHeartbeats 4000000 in
theorem out107 (x q : Int) (b : Nat) (W : World) (hc : W.cell? ⟨b, 0, none⟩ = some (.int .i64 q)) : Calls Tryz.prog 107 #[.int .i64 x, .pointer (some ⟨b, 0, none⟩)] W fun e w' => e = .returned (.bool (outB q x)) ∧ Below W.heap.size W w' := by
  by_cases h1 : x < 0
  · go_enter Tryz.func107, Tryz.ntmps107
    go_wp2
    go_ret
    exact ⟨by simp [outB, h1], Below.refl _ _⟩
  · by_cases h2 : q < x <;>
    · go_enter Tryz.func107, Tryz.ntmps107
      go_wp2
      go_ret
      exact ⟨by simp [outB, h1, h2], Below.refl _ _⟩

set_option maxRecDepth 100000 in
set_option maxHeartbeats 4000000 in
theorem index_neg {B0 : Nat} {W : World} {a8 : Option Addr} {c8 n : Nat} {l : List Int} (h : Si B0 W (.slice a8 n c8) l) (hlen : l.length = n) (hn : n ≤ 4398046510976) :
    Calls Tryz.prog 126 #[.slice a8 n c8, .func (.func 109) #[] #[]] W fun e w' => (∃ r : Int, e = .returned (.int .i64 r) ∧ idxOk (l.any negB) r) ∧ Below W.heap.size W w' := by
  have HA : Hid (Si B0 W (.slice a8 n c8) l) := h
  have HN : Hid (l.length = n) := hlen
  clear h hlen
  go_enter Tryz.func126, Tryz.ntmps126
  go_wp2
  go_loopw [8] (fun i wr => ∃ k : Nat, k ≤ n ∧ i = .int .i64 (k : Int) ∧ Hid ((l.take k).any negB = false) ∧ Hid (Below W.heap.size W wr)) (fun i _ => n - (intOf i).toNat)
  case atStart => exact ⟨0, Nat.zero_le _, rfl, by simp [Hid], Below.refl _ _⟩
  case round =>
    obtain ⟨k, hk, rfl, HQ, HB⟩ := hrel
    by_cases hlt : k < n
    · have hlt' : (k : Int) < n := by omega
      obtain ⟨x, hg⟩ : ∃ g, l[k]? = some g := ⟨_, List.getElem?_eq_getElem (by rw [HN.out]; exact hlt)⟩
      have HS : Hid ((l.take (k + 1)).any negB = ((l.take k).any negB || negB x)) := by
        obtain ⟨hi, rfl⟩ := List.getElem?_eq_some_iff.1 hg
        show (l.take (k + 1)).any negB = _
        rw [List.take_succ_eq_append_getElem hi, List.any_append]
        simp
      have HMEM : Hid (x ∈ l) := List.mem_of_getElem? hg
      obtain ⟨b, off, rfl, hb, d0⟩ := HA.out.at hg
      have y0 := (HB.out.cell (p := ⟨b, off + k, none⟩) hb).trans d0
      have hsh := neg109 x wr
      obtain ⟨r, hr⟩ : ∃ r, negB x = r := ⟨_, rfl⟩
      rw [hr] at hsh HS
      have HR : Hid (negB x = r) := hr
      clear d0 hg hr
      have hw2 : IntKind.i64.wrap ((k : Int) + 1) = (k : Int) + 1 := by rw [IntKind.wrap_i64]; omega
      go_wp2_with fail
      refine hsh.mono ?_
      rintro e w1 ⟨rfl, hb1⟩
      have HB1 : Hid (Below W.heap.size W w1) := HB.out.trans (hb1.mono HB.out.size)
      clear hb1 hsh
      rw [HQ.out] at HS
      cases r with
      | false =>
        go_wp2
        go_roundw
        case rel => exact ⟨k + 1, by omega, by go_num, by rw [HS.out]; rfl, HB1⟩
        case measure => simp [intOf]; omega
      | true =>
        have HF : Hid (l.any negB = true) := List.any_eq_true.2 ⟨x, HMEM.out, HR.out⟩
        go_wp2
        go_ret
        exact ⟨⟨_, rfl, by rw [HF.out]; exact Int.natCast_nonneg k⟩, HB1.out⟩
    · have hlt' : ¬ (k : Int) < n := by omega
      obtain rfl : k = n := by omega
      have HF : Hid (l.any negB = false) := by have := HQ.out; rwa [List.take_of_length_le (by rw [HN.out]; exact Nat.le_refl _)] at this
      go_wp2
      go_ret
      exact ⟨⟨_, rfl, by rw [HF.out]; exact rfl⟩, HB.out⟩

set_option maxRecDepth 100000 in
set_option maxHeartbeats 4000000 in
theorem contains_neg {B0 : Nat} {W : World} {a8 : Option Addr} {c8 n : Nat} {l : List Int} (h : Si B0 W (.slice a8 n c8) l) (hlen : l.length = n) (hn : n ≤ 4398046510976) :
    Calls Tryz.prog 108 #[.slice a8 n c8, .func (.func 109) #[] #[]] W fun e w' => e = .returned (.bool (l.any negB)) ∧ Below W.heap.size W w' := by
  have k := index_neg h hlen hn
  obtain ⟨qq, hqq⟩ : ∃ qq, l.any negB = qq := ⟨_, rfl⟩
  rw [hqq] at k ⊢
  clear h hlen hqq
  go_enter Tryz.func108, Tryz.ntmps108
  go_wp2_with fail
  refine k.mono ?_
  rintro e w1 ⟨⟨r, rfl, hr⟩, hb1⟩
  have HB : Hid _ := hb1
  clear hb1 k
  cases qq with
  | true =>
    have h0 : (0 : Int) ≤ r := hr
    clear hr
    go_wp2
    go_ret
    exact ⟨by simp [h0], HB.out⟩
  | false =>
    obtain rfl : r = -1 := hr
    go_wp2
    go_ret
    exact ⟨rfl, HB.out⟩

set_option maxRecDepth 100000 in
set_option maxHeartbeats 4000000 in
theorem index_out {B0 : Nat} {W : World} {a8 : Option Addr} {c8 n : Nat} {l : List Int} (q : Int) (bq : Nat) (hbq : bq < W.heap.size) (hq : W.cell? ⟨bq, 0, none⟩ = some (.int .i64 q)) (h : Si B0 W (.slice a8 n c8) l) (hlen : l.length = n) (hn : n ≤ 4398046510976) :
    Calls Tryz.prog 126 #[.slice a8 n c8, .func (.func 107) #[] #[.pointer (some ⟨bq, 0, none⟩)]] W fun e w' => (∃ r : Int, e = .returned (.int .i64 r) ∧ idxOk (l.any (outB q)) r) ∧ Below W.heap.size W w' := by
  have HA : Hid (Si B0 W (.slice a8 n c8) l) := h
  have HN : Hid (l.length = n) := hlen
  clear h hlen
  go_enter Tryz.func126, Tryz.ntmps126
  go_wp2
  go_loopw [8] (fun i wr => ∃ k : Nat, k ≤ n ∧ i = .int .i64 (k : Int) ∧ Hid ((l.take k).any (outB q) = false) ∧ Hid (Below W.heap.size W wr)) (fun i _ => n - (intOf i).toNat)
  case atStart => exact ⟨0, Nat.zero_le _, rfl, by simp [Hid], Below.refl _ _⟩
  case round =>
    obtain ⟨k, hk, rfl, HQ, HB⟩ := hrel
    by_cases hlt : k < n
    · have hlt' : (k : Int) < n := by omega
      obtain ⟨x, hg⟩ : ∃ g, l[k]? = some g := ⟨_, List.getElem?_eq_getElem (by rw [HN.out]; exact hlt)⟩
      have HS : Hid ((l.take (k + 1)).any (outB q) = ((l.take k).any (outB q) || (outB q) x)) := by
        obtain ⟨hi, rfl⟩ := List.getElem?_eq_some_iff.1 hg
        show (l.take (k + 1)).any (outB q) = _
        rw [List.take_succ_eq_append_getElem hi, List.any_append]
        simp
      have HMEM : Hid (x ∈ l) := List.mem_of_getElem? hg
      obtain ⟨b, off, rfl, hb, d0⟩ := HA.out.at hg
      have y0 := (HB.out.cell (p := ⟨b, off + k, none⟩) hb).trans d0
      have hsh := out107 x q bq wr ((HB.out.cell (p := ⟨bq, 0, none⟩) hbq).trans hq)
      obtain ⟨r, hr⟩ : ∃ r, (outB q) x = r := ⟨_, rfl⟩
      rw [hr] at hsh HS
      have HR : Hid ((outB q) x = r) := hr
      clear d0 hg hr
      have hw2 : IntKind.i64.wrap ((k : Int) + 1) = (k : Int) + 1 := by rw [IntKind.wrap_i64]; omega
      go_wp2_with fail
      refine hsh.mono ?_
      rintro e w1 ⟨rfl, hb1⟩
      have HB1 : Hid (Below W.heap.size W w1) := HB.out.trans (hb1.mono HB.out.size)
      clear hb1 hsh
      rw [HQ.out] at HS
      cases r with
      | false =>
        go_wp2
        go_roundw
        case rel => exact ⟨k + 1, by omega, by go_num, by rw [HS.out]; rfl, HB1⟩
        case measure => simp [intOf]; omega
      | true =>
        have HF : Hid (l.any (outB q) = true) := List.any_eq_true.2 ⟨x, HMEM.out, HR.out⟩
        go_wp2
        go_ret
        exact ⟨⟨_, rfl, by rw [HF.out]; exact Int.natCast_nonneg k⟩, HB1.out⟩
    · have hlt' : ¬ (k : Int) < n := by omega
      obtain rfl : k = n := by omega
      have HF : Hid (l.any (outB q) = false) := by have := HQ.out; rwa [List.take_of_length_le (by rw [HN.out]; exact Nat.le_refl _)] at this
      go_wp2
      go_ret
      exact ⟨⟨_, rfl, by rw [HF.out]; exact rfl⟩, HB.out⟩

set_option maxRecDepth 100000 in
set_option maxHeartbeats 4000000 in
theorem contains_out {B0 : Nat} {W : World} {a8 : Option Addr} {c8 n : Nat} {l : List Int} (q : Int) (bq : Nat) (hbq : bq < W.heap.size) (hq : W.cell? ⟨bq, 0, none⟩ = some (.int .i64 q)) (h : Si B0 W (.slice a8 n c8) l) (hlen : l.length = n) (hn : n ≤ 4398046510976) :
    Calls Tryz.prog 108 #[.slice a8 n c8, .func (.func 107) #[] #[.pointer (some ⟨bq, 0, none⟩)]] W fun e w' => e = .returned (.bool (l.any (outB q))) ∧ Below W.heap.size W w' := by
  have k := index_out q bq hbq hq h hlen hn
  obtain ⟨qq, hqq⟩ : ∃ qq, l.any (outB q) = qq := ⟨_, rfl⟩
  rw [hqq] at k ⊢
  clear h hlen hqq
  go_enter Tryz.func108, Tryz.ntmps108
  go_wp2_with fail
  refine k.mono ?_
  rintro e w1 ⟨⟨r, rfl, hr⟩, hb1⟩
  have HB : Hid _ := hb1
  clear hb1 k
  cases qq with
  | true =>
    have h0 : (0 : Int) ≤ r := hr
    clear hr
    go_wp2
    go_ret
    exact ⟨by simp [h0], HB.out⟩
  | false =>
    obtain rfl : r = -1 := hr
    go_wp2
    go_ret
    exact ⟨rfl, HB.out⟩

set_option maxRecDepth 100000 in
set_option maxHeartbeats 4000000 in
theorem noneBelow_any {B : Nat} {W : World} {a : Option Addr} {c : Nat} (g : Ag) (h : St B W (.slice a g.l.length c) g.l) (hl : g.l.length ≤ 1000) :
    Calls Tryz.prog 76 #[.agg #[.bool g.arr, .slice a g.l.length c]] W fun e w' => e = .returned (.bool (!(numL g).any negB)) ∧ Below W.heap.size W w' := by
  have hbA : Below W.heap.size W (W.alloc (Obj.cells #[.bool g.arr, .slice a g.l.length c] 54)) := (Below.refl _ W).alloc (Nat.le_refl _) _
  have kN := numbers_any g (h.below hbA) hl
  have HLN : Hid ((numL g).length ≤ 1000) := (by rw [numL_length]; omega : (numL g).length ≤ 1000)
  have HBA : Hid _ := hbA
  clear h hbA hl
  obtain ⟨L, hL⟩ : ∃ L, numL g = L := ⟨_, rfl⟩
  obtain ⟨ar, har⟩ : ∃ x, g.arr = x := ⟨_, rfl⟩
  obtain ⟨n, hn⟩ : ∃ n, g.l.length = n := ⟨_, rfl⟩
  rw [hL] at HLN
  rw [hL, har, hn] at kN
  rw [har, hn] at HBA
  rw [hL, har, hn]
  clear hL har hn
  go_enter Tryz.func76, Tryz.ntmps76
  go_wp2_with fail
  refine kN.mono ?_
  clear kN
  rintro e w1 ⟨v, rfl, hown, hb⟩
  have hsi := own_si hown
  obtain ⟨pv, cv, rfl⟩ := own_shape hown
  have HB1 : Hid (Below W.heap.size W w1) := HBA.out.trans (hb.mono (by simp))
  have kC := contains_neg hsi rfl (by have := HLN.out; omega)
  obtain ⟨q, hq⟩ : ∃ q, L.any negB = q := ⟨_, rfl⟩
  rw [hq] at kC
  have HQ : Hid (L.any negB = q) := hq
  clear hb hown hsi hq
  go_wp2_with fail
  refine kC.mono ?_
  clear kC
  rintro e w2 ⟨rfl, hb2⟩
  have HB2 : Hid (Below W.heap.size W w2) := HB1.out.trans (hb2.mono HB1.out.size)
  clear hb2
  cases q <;>
  · go_wp2
    go_ret
    exact ⟨by rw [HQ.out]; rfl, HB2.out⟩
/-- Have all of them as many terms? -/
def manyB (ags : List Ag) : Bool := match ags with
  | [] => true
  | g0 :: _ => ags.all fun g => decide (g.l.length = g0.l.length)

set_option maxRecDepth 100000 in
set_option maxHeartbeats 4000000 in
theorem asManyG {B0 : Nat} {W : World} {a8 : Option Addr} {c8 n : Nat} {ags : List Ag} (h : Sa B0 W (.slice a8 n c8) ags) (hlen : ags.length = n) (hn : n ≤ 4398046510976) (hl : ∀ g ∈ ags, g.l.length ≤ 4398046510976) :
    Calls Tryz.prog 73 #[.slice a8 n c8] W fun e w' => e = .returned (.bool (manyB ags)) ∧ Below W.heap.size W w' := by
  have HA : Hid (Sa B0 W (.slice a8 n c8) ags) := h
  have HN : Hid (ags.length = n) := hlen
  have HL : Hid (∀ g ∈ ags, g.l.length ≤ 4398046510976) := hl
  obtain ⟨m0, hm0⟩ : ∃ m0, ∀ g0, ags[0]? = some g0 → g0.l.length = m0 := by
    cases ags with
    | nil => exact ⟨0, fun g h => by simp at h⟩
    | cons g0 r => exact ⟨g0.l.length, fun g h => by simp at h; rw [h]⟩
  have HM : Hid (manyB ags = ags.all fun g => decide (g.l.length = m0)) := by
    cases ags with
    | nil => rfl
    | cons g0 r => have := hm0 g0 rfl; subst this; rfl
  have HM0 : Hid (∀ g0, ags[0]? = some g0 → g0.l.length = m0) := hm0
  obtain ⟨r, hr⟩ : ∃ r, manyB ags = r := ⟨_, rfl⟩
  rw [hr] at HM ⊢
  clear h hlen hl hm0 hr
  go_enter Tryz.func73, Tryz.ntmps73
  go_wp2
  go_loopw [7] (fun i wr => ∃ k : Nat, k ≤ n ∧ i = .int .i64 (k : Int) ∧ Hid ((ags.take k).all (fun g => decide (g.l.length = m0)) = true) ∧ Hid (Below W.heap.size W wr)) (fun i _ => n - (intOf i).toNat)
  case atStart => exact ⟨0, Nat.zero_le _, rfl, by simp [Hid], Below.refl _ _⟩
  case round =>
    obtain ⟨k, hk, rfl, HQ, HB⟩ := hrel
    by_cases hlt : k < n
    · have hlt' : (k : Int) < n := by omega
      have hpos : (0 : Int) < n := by omega
      obtain ⟨g, hg⟩ : ∃ g, ags[k]? = some g := ⟨_, List.getElem?_eq_getElem (by rw [HN.out]; exact hlt)⟩
      obtain ⟨g0, hg0⟩ : ∃ g, ags[0]? = some g := ⟨_, List.getElem?_eq_getElem (by rw [HN.out]; omega)⟩
      have HS : Hid ((ags.take (k + 1)).all (fun g => decide (g.l.length = m0)) = ((ags.take k).all (fun g => decide (g.l.length = m0)) && decide (g.l.length = m0))) := by
        obtain ⟨hi, rfl⟩ := List.getElem?_eq_some_iff.1 hg
        show (ags.take (k + 1)).all _ = _
        rw [List.take_succ_eq_append_getElem hi, List.all_append]
        simp
      have HMEM : Hid (g ∈ ags) := List.mem_of_getElem? hg
      have hgl := HL.out g (List.mem_of_getElem? hg)
      have hg0l := HL.out g0 (List.mem_of_getElem? hg0)
      obtain ⟨b, off, a2, c2, rfl, hb, _, d0, d1⟩ := HA.out.at hg
      obtain ⟨b', off', a3, c3, e3, _, _, d2, d3⟩ := HA.out.at hg0
      injection e3 with e3
      injection e3 with e4 e5
      subst e4; subst e5
      rw [HM0.out g0 hg0] at d3 hg0l
      obtain ⟨m, hm⟩ : ∃ m, g.l.length = m := ⟨_, rfl⟩
      rw [hm] at d1 HS hgl
      have HMM : Hid (g.l.length = m) := hm
      rw [Nat.zero_mul, Nat.add_zero] at d3
      have hbA : Below wr.heap.size wr (wr.alloc (Obj.cells #[.bool g.arr, .slice a2 m c2] 54)) := (Below.refl _ wr).alloc (Nat.le_refl _) _
      have hBA := HB.out.trans (hbA.mono HB.out.size)
      have HBA : Hid (Below W.heap.size W (wr.alloc (Obj.cells #[.bool g.arr, .slice a2 m c2] 54))) := hBA
      have y0 := (HB.out.cell (p := ⟨b, off + k * 2, none⟩) hb).trans d0
      have y1 := (HB.out.cell (p := ⟨b, off + k * 2 + 1, none⟩) hb).trans d1
      have y3 := (hBA.cell (p := ⟨b, off + 1, none⟩) hb).trans d3
      clear d0 d1 d2 d3 hg hg0 hbA hBA hm
      have hw2 : IntKind.i64.wrap ((k : Int) + 1) = (k : Int) + 1 := by rw [IntKind.wrap_i64]; omega
      rw [HQ.out] at HS
      by_cases hmm : m = m0
      · have HT : Hid ((ags.take (k + 1)).all (fun g => decide (g.l.length = m0)) = true) := by have := HS.out; simpa [Hid, hmm] using this
        subst hmm
        go_upto_region 4 with (fail)
        go_quiet (fail)
        go_wp2
        go_roundw
        case rel => exact ⟨k + 1, by omega, by go_num, HT, below_drewN HBA.out _⟩
        case measure => simp [intOf]; omega
      · have HF : Hid (r = false) := by rw [Hid, HM.out, List.all_eq_false]; exact ⟨g, HMEM.out, by rw [HMM.out]; simp [hmm]⟩
        have hq1 : ((m : Int) != m0) = true := by simp; omega
        have hq2 : ((m : Int) == m0) = false := by simp; omega
        go_upto_region 4 with (fail)
        go_quiet (fail)
        go_wp2
        go_ret
        exact ⟨by rw [HF.out]; rfl, below_drewN HBA.out _⟩
    · have hlt' : ¬ (k : Int) < n := by omega
      obtain rfl : k = n := by omega
      have HF : Hid (r = true) := by have h9 := HQ.out; rw [List.take_of_length_le (by rw [HN.out]; exact Nat.le_refl _)] at h9; rw [Hid, HM.out]; exact h9
      go_wp2
      go_ret
      exact ⟨by rw [HF.out]; rfl, HB.out⟩
end Go.Proofs.YtaeobgajhieajaaGreatDoor
