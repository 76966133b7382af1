/-
  What is proved here: the reference tells whether numbers, values and terms are alike.
  What is proved here: slices.EqualFunc of lists of unlike lengths; slices.ContainsFunc of any arguments; takes of any term.
-/
import Derived.Test.YtaeobgajhieajaaGreatDoorDg
import Derived.Test.YtaeobgajhieajaaGreatDoorDrj
import Derived.Test.YtaeobgajhieajaaGreatDoorDuj
namespace Go.Proofs.YtaeobgajhieajaaGreatDoor
open Go.RowKit Go.Shelf
set_option linter.unusedVariables false
set_option linter.unusedSimpArgs false

theorem Si.at {B : Nat} {W : World} {a : Option Addr} {n c : Nat} {l : List Int} (h : Si B W (.slice a n c) l) {i : Nat} {x : Int} (hx : l[i]? = some x) : ∃ b off, a = some ⟨b, off, none⟩ ∧ b < W.heap.size ∧ W.cell? ⟨b, off + i, none⟩ = some (.int .i64 x) := by
  obtain ⟨a0, c0, e, h⟩ := h
  injection e with ea en ec
  subst ea
  have hi : i < l.length := (List.getElem?_eq_some_iff.1 hx).1
  obtain ⟨b, off, e1, e0, e2, e3⟩ := h (by omega)
  exact ⟨b, off, e1, e2, e3 i x hx⟩
theorem take_eq_succ {α : Type} {l1 l2 : List α} {k : Nat} {x y : α} (hx : l1[k]? = some x) (hy : l2[k]? = some y) (h : l1.take k = l2.take k) : l1.take (k + 1) = l2.take (k + 1) ↔ x = y := by
  obtain ⟨hi, rfl⟩ := List.getElem?_eq_some_iff.1 hx
  obtain ⟨hj, rfl⟩ := List.getElem?_eq_some_iff.1 hy
  rw [List.take_succ_eq_append_getElem hi, List.take_succ_eq_append_getElem hj, h]
  exact ⟨fun e => by have := List.append_cancel_left e; injection this, fun e => by rw [e]⟩
theorem take_eq_all {α : Type} {l1 l2 : List α} {n : Nat} (h1 : l1.length = n) (h2 : l2.length = n) (h : l1.take n = l2.take n) : l1 = l2 := by
  rwa [List.take_of_length_le (by omega), List.take_of_length_le (by omega)] at h

set_option maxRecDepth 100000 in
set_option maxHeartbeats 4000000 in
theorem same61 {B1 B2 : Nat} {W : World} {s1 s2 : Value} {l1 l2 : List Int} (h1 : Si B1 W s1 l1) (h2 : Si B2 W s2 l2) (hz1 : l1.length ≤ 17592186043904) (hz2 : l2.length ≤ 17592186043904) :
    Calls Tryz.prog 61 #[s1, s2] W fun e w' => e = .returned (.bool (decide (l1 = l2))) ∧ Below W.heap.size W w' := by
  obtain ⟨a1, c1, rfl, h1'⟩ := h1
  obtain ⟨a2, c2, rfl, h2'⟩ := h2
  have H1 : Hid (Si B1 W (.slice a1 l1.length c1) l1) := ⟨_, _, rfl, h1'⟩
  have H2 : Hid (Si B2 W (.slice a2 l2.length c2) l2) := ⟨_, _, rfl, h2'⟩
  clear h1' h2'
  obtain ⟨n1, hn1⟩ : ∃ n, l1.length = n := ⟨_, rfl⟩
  obtain ⟨n2, hn2⟩ : ∃ n, l2.length = n := ⟨_, rfl⟩
  rw [hn1] at hz1 H1 ⊢
  rw [hn2] at hz2 H2 ⊢
  have HN : Hid (l1.length = n1 ∧ l2.length = n2) := ⟨hn1, hn2⟩
  clear hn1 hn2
  by_cases hne : n1 = n2
  · subst hne
    go_enter Tryz.func61, Tryz.ntmps61
    go_wp2
    go_loopw [5] (fun i wr => ∃ k : Nat, k ≤ n1 ∧ i = .int .i64 (k : Int) ∧ Hid (l1.take k = l2.take k) ∧ Hid (Below W.heap.size W wr)) (fun i _ => n1 - (intOf i).toNat)
    case atStart => exact ⟨0, Nat.zero_le _, rfl, by simp [Hid], Below.refl _ _⟩
    case round =>
      obtain ⟨k, hk, rfl, HQ, HB⟩ := hrel
      by_cases hlt : k < n1
      · have hlt' : (k : Int) < n1 := by omega
        obtain ⟨x, hx⟩ : ∃ x, l1[k]? = some x := ⟨_, List.getElem?_eq_getElem (by rw [HN.out.1]; exact hlt)⟩
        obtain ⟨y, hy⟩ : ∃ x, l2[k]? = some x := ⟨_, List.getElem?_eq_getElem (by rw [HN.out.2]; exact hlt)⟩
        obtain ⟨b1, o1, rfl, hb1, d1⟩ := H1.out.at hx
        obtain ⟨b2, o2, rfl, hb2, d2⟩ := H2.out.at hy
        have y1 := (HB.out.cell (p := ⟨b1, o1 + k, none⟩) hb1).trans d1
        have y2 := (HB.out.cell (p := ⟨b2, o2 + k, none⟩) hb2).trans d2
        have HS : Hid (l1.take (k + 1) = l2.take (k + 1) ↔ x = y) := take_eq_succ hx hy HQ.out
        clear d1 d2 hx hy
        have hw2 : IntKind.i64.wrap ((k : Int) + 1) = (k : Int) + 1 := by rw [IntKind.wrap_i64]; omega
        by_cases hxy : x = y
        · have HT : Hid _ := HS.out.2 hxy
          subst hxy
          go_wp2
          go_quiet (fail)
          go_wp2
          go_roundw
          case rel => exact ⟨k + 1, by omega, by go_num, HT, below_drewN HB.out _⟩
          case measure => simp [intOf]; omega
        · have HF : Hid (l1 ≠ l2) := fun e => hxy (HS.out.1 (by rw [e]))
          have hd : (x != y) = true := by simpa using hxy
          have hd2 : (x == y) = false := by simpa using hxy
          go_wp2
          go_quiet (fail)
          go_wp2
          go_ret
          exact ⟨by simp [HF.out], below_drewN HB.out _⟩
      · have hlt' : ¬ (k : Int) < n1 := by omega
        obtain rfl : k = n1 := by omega
        have HT : Hid (l1 = l2) := take_eq_all HN.out.1 HN.out.2 HQ.out
        go_wp2
        go_ret
        exact ⟨by simp [HT.out], HB.out⟩
  · have HF : Hid (l1 ≠ l2) := fun e => hne (by rw [← HN.out.1, ← HN.out.2, e])
    have hd : ((n1 : Int) != n2) = true := by simp; omega
    have hd2 : ((n1 : Int) == n2) = false := by simp; omega
    go_enter Tryz.func61, Tryz.ntmps61
    go_wp2
    go_ret
    exact ⟨by simp [HF.out], Below.refl _ _⟩

set_option maxRecDepth 100000 in
set_option maxHeartbeats 4000000 in
theorem sameVal34 {B1 B2 : Nat} {W : World} {s1 s2 : Value} {l1 l2 : List Int} (b1 b2 : Bool) (n1 n2 : Int) (h1 : Si B1 W s1 l1) (h2 : Si B2 W s2 l2) (hz1 : l1.length ≤ 17592186043904) (hz2 : l2.length ≤ 17592186043904) :
    Calls Tryz.prog 34 #[.agg #[.bool b1, .int .i64 n1, s1], .agg #[.bool b2, .int .i64 n2, s2]] W fun e w' => e = .returned (.bool (decide (b1 = b2 ∧ n1 = n2 ∧ l1 = l2))) ∧ Below W.heap.size W w' := by
  obtain ⟨a1, c1, rfl, h1'⟩ := h1
  obtain ⟨a2, c2, rfl, h2'⟩ := h2
  have hbA : Below W.heap.size W ((W.alloc (Obj.cells #[.bool b1, .int .i64 n1, .slice a1 l1.length c1] 44)).alloc (Obj.cells #[.bool b2, .int .i64 n2, .slice a2 l2.length c2] 44)) := ((Below.refl _ W).alloc (Nat.le_refl _) _).alloc (by simp) _
  have k := same61 ((show Si B1 W (.slice a1 l1.length c1) l1 from ⟨_, _, rfl, h1'⟩).below hbA) ((show Si B2 W (.slice a2 l2.length c2) l2 from ⟨_, _, rfl, h2'⟩).below hbA) hz1 hz2
  have HBA : Hid _ := hbA
  clear h1' h2' hbA
  obtain ⟨m1, hm1⟩ : ∃ n, l1.length = n := ⟨_, rfl⟩
  obtain ⟨m2, hm2⟩ : ∃ n, l2.length = n := ⟨_, rfl⟩
  obtain ⟨r, hr⟩ : ∃ r, decide (l1 = l2) = r := ⟨_, rfl⟩
  rw [hm1, hm2, hr] at k
  rw [hm1, hm2] at HBA ⊢
  have HR : Hid (decide (l1 = l2) = r) := hr
  clear hm1 hm2 hr hz1 hz2
  by_cases hb : b1 = b2
  · subst hb
    by_cases hn : n1 = n2
    · subst hn
      go_enter Tryz.func34, Tryz.ntmps34
      cases b1 <;>
      · go_wp2_with fail
        refine k.mono ?_
        rintro e w1 ⟨rfl, hb1⟩
        have HB1 : Hid (Below W.heap.size W w1) := HBA.out.trans (hb1.mono (by simp; omega))
        clear hb1
        go_wp2
        go_ret
        exact ⟨by rw [← HR.out]; simp, HB1.out⟩
    · have hd : (n1 == n2) = false := by simpa using hn
      clear k
      go_enter Tryz.func34, Tryz.ntmps34
      cases b1 <;>
      · go_wp2
        go_ret
        exact ⟨by simp [hn], HBA.out⟩
  · clear k
    go_enter Tryz.func34, Tryz.ntmps34
    cases b1 <;> cases b2 <;> first
    | exact absurd rfl hb
    | (go_wp2
       go_ret
       exact ⟨rfl, HBA.out⟩)

set_option maxRecDepth 100000 in
set_option maxHeartbeats 4000000 in
theorem sameTerm32 {B1 B2 : Nat} {W : World} {s1 s2 : Value} {l1 l2 : List Int} (v1 v2 : Int) (b1 b2 : Bool) (n1 n2 : Int) (h1 : Si B1 W s1 l1) (h2 : Si B2 W s2 l2) (hz1 : l1.length ≤ 17592186043904) (hz2 : l2.length ≤ 17592186043904) :
    Calls Tryz.prog 32 #[.agg #[.int .i64 v1, .bool b1, .int .i64 n1, s1], .agg #[.int .i64 v2, .bool b2, .int .i64 n2, s2]] W fun e w' => e = .returned (.bool (decide (v1 = v2 ∧ b1 = b2 ∧ n1 = n2 ∧ l1 = l2))) ∧ Below W.heap.size W w' := by
  obtain ⟨a1, c1, rfl, h1'⟩ := h1
  obtain ⟨a2, c2, rfl, h2'⟩ := h2
  have hbA : Below W.heap.size W ((W.alloc (Obj.cells #[.int .i64 v1, .bool b1, .int .i64 n1, .slice a1 l1.length c1] 46)).alloc (Obj.cells #[.int .i64 v2, .bool b2, .int .i64 n2, .slice a2 l2.length c2] 46)) := ((Below.refl _ W).alloc (Nat.le_refl _) _).alloc (by simp) _
  have k := sameVal34 b1 b2 n1 n2 ((show Si B1 W (.slice a1 l1.length c1) l1 from ⟨_, _, rfl, h1'⟩).below hbA) ((show Si B2 W (.slice a2 l2.length c2) l2 from ⟨_, _, rfl, h2'⟩).below hbA) hz1 hz2
  have HBA : Hid _ := hbA
  clear h1' h2' hbA
  obtain ⟨m1, hm1⟩ : ∃ n, l1.length = n := ⟨_, rfl⟩
  obtain ⟨m2, hm2⟩ : ∃ n, l2.length = n := ⟨_, rfl⟩
  obtain ⟨r, hr⟩ : ∃ r, decide (b1 = b2 ∧ n1 = n2 ∧ l1 = l2) = r := ⟨_, rfl⟩
  rw [hm1, hm2, hr] at k
  rw [hm1, hm2] at HBA ⊢
  have HR : Hid (decide (b1 = b2 ∧ n1 = n2 ∧ l1 = l2) = r) := hr
  clear hm1 hm2 hr hz1 hz2
  by_cases hv : v1 = v2
  · subst hv
    go_enter Tryz.func32, Tryz.ntmps32
    go_wp2_with fail
    refine k.mono ?_
    rintro e w1 ⟨rfl, hb1⟩
    have HB1 : Hid (Below W.heap.size W w1) := HBA.out.trans (hb1.mono (by simp; omega))
    clear hb1
    go_wp2
    go_ret
    exact ⟨by rw [← HR.out]; simp, HB1.out⟩
  · have hd : (v1 == v2) = false := by simpa using hv
    clear k
    go_enter Tryz.func32, Tryz.ntmps32
    go_wp2
    go_ret
    exact ⟨by simp [hv], HBA.out⟩
end Go.Proofs.YtaeobgajhieajaaGreatDoor

namespace Go.Proofs.YtaeobgajhieajaaGreatDoor
open Go.RowKit Go.Shelf
set_option linter.unusedVariables false
set_option linter.unusedSimpArgs false

/-- Is each argument as the form says? -/
def eqB (ags : List Ag) (parts : List (List UInt8)) : Bool := decide (ags.length = parts.length) && eqF ags parts ags.length

set_option maxRecDepth 100000 in
set_option maxHeartbeats 4000000 in
theorem equalF_ne {a8 a9 : Option Addr} {n8 c8 n9 c9 : Nat} (hne : n8 ≠ n9) (W : World) :
    Calls Tryz.prog 46 #[.slice a8 n8 c8, .slice a9 n9 c9, .func (.func 47) #[] #[]] W fun e w' => e = .returned (.bool false) ∧ Below W.heap.size W w' := by
  have hd : ((n8 : Int) != n9) = true := by simp; omega
  have hd2 : ((n8 : Int) == n9) = false := by simp; omega
  go_enter Tryz.func46, Tryz.ntmps46
  go_wp2
  go_ret
  exact ⟨rfl, Below.refl _ _⟩
theorem equalG {B0 : Nat} {W : World} {a8 : Option Addr} {c8 : Nat} {ags : List Ag} {a9 : Option Addr} {c9 : Nat} {parts : List (List UInt8)} (h : Sa B0 W (.slice a8 ags.length c8) ags) (hp : Ss W (.slice a9 parts.length c9) parts) (hn : ags.length ≤ 4398046510976) (hl : ∀ g ∈ ags, g.l.length ≤ 4398046510976) :
    Calls Tryz.prog 46 #[.slice a8 ags.length c8, .slice a9 parts.length c9, .func (.func 47) #[] #[]] W fun e w' => e = .returned (.bool (eqB ags parts)) ∧ Below W.heap.size W w' := by
  by_cases he : ags.length = parts.length
  · rw [show eqB ags parts = eqF ags parts ags.length by simp [eqB, he]]
    exact equalF h hp he hn hl
  · rw [show eqB ags parts = false by simp [eqB, he]]
    exact equalF_ne he W
/-- An index, or none. -/
def idxOk : Bool → Int → Prop
  | true, r => 0 ≤ r
  | false, r => r = -1
/-- Is an argument too long? -/
def longB (g : Ag) : Bool := decide (1000 < g.l.length)

set_option maxRecDepth 100000 in
set_option maxHeartbeats 4000000 in
theorem tooLongG (g : Ag) (a : Option Addr) (c : Nat) (W : World) (hl : g.l.length ≤ 4398046510976) : Calls Tryz.prog 49 #[.agg #[.bool g.arr, .slice a g.l.length c]] W fun e w' => e = .returned (.bool (longB g)) ∧ Below W.heap.size W w' := by
  have HE : Hid (longB g = decide (1000 < g.l.length)) := rfl
  obtain ⟨r, hr⟩ : ∃ r, longB g = r := ⟨_, rfl⟩
  obtain ⟨ar, har⟩ : ∃ x, g.arr = x := ⟨_, rfl⟩
  obtain ⟨n, hn⟩ : ∃ n, g.l.length = n := ⟨_, rfl⟩
  rw [hr, hn] at HE
  rw [hn] at hl
  rw [hr, har, hn]
  clear har hn hr
  by_cases h1 : (1000 : Int) < n <;>
  · go_enter Tryz.func49, Tryz.ntmps49
    go_wp2
    go_ret
    exact ⟨by rw [HE.out]; simp [h1]; omega, (Below.refl _ W).alloc (Nat.le_refl _) _⟩

set_option maxRecDepth 100000 in
set_option maxHeartbeats 4000000 in
theorem indexG {B0 : Nat} {W : World} {a8 : Option Addr} {c8 n : Nat} {ags : List Ag} (h : Sa B0 W (.slice a8 n c8) ags) (hlen : ags.length = n) (hn : n ≤ 4398046510976) (hl : ∀ g ∈ ags, g.l.length ≤ 4398046510976) :
    Calls Tryz.prog 69 #[.slice a8 n c8, .func (.func 49) #[] #[]] W fun e w' => (∃ r : Int, e = .returned (.int .i64 r) ∧ idxOk (ags.any longB) r) ∧ Below W.heap.size W w' := by
  have HA : Hid (Sa B0 W (.slice a8 n c8) ags) := h
  have HN : Hid (ags.length = n) := hlen
  have HL : Hid (∀ g ∈ ags, g.l.length ≤ 4398046510976) := hl
  clear h hlen hl
  go_enter Tryz.func69, Tryz.ntmps69
  go_wp2
  go_loopw [8] (fun i wr => ∃ k : Nat, k ≤ n ∧ i = .int .i64 (k : Int) ∧ Hid ((ags.take k).any longB = false) ∧ Hid (Below W.heap.size W wr)) (fun i _ => n - (intOf i).toNat)
  case atStart => exact ⟨0, Nat.zero_le _, rfl, by simp [Hid], Below.refl _ _⟩
  case round =>
    obtain ⟨k, hk, rfl, HQ, HB⟩ := hrel
    by_cases hlt : k < n
    · have hlt' : (k : Int) < n := by omega
      obtain ⟨g, hg⟩ : ∃ g, ags[k]? = some g := ⟨_, List.getElem?_eq_getElem (by rw [HN.out]; exact hlt)⟩
      have HS : Hid ((ags.take (k + 1)).any longB = ((ags.take k).any longB || longB g)) := by
        obtain ⟨hi, rfl⟩ := List.getElem?_eq_some_iff.1 hg
        show (ags.take (k + 1)).any longB = _
        rw [List.take_succ_eq_append_getElem hi, List.any_append]
        simp
      have HMEM : Hid (g ∈ ags) := List.mem_of_getElem? hg
      obtain ⟨b, off, a2, c2, rfl, hb, _, d0, d1⟩ := HA.out.at hg
      have y0 := (HB.out.cell (p := ⟨b, off + k * 2, none⟩) hb).trans d0
      have y1 := (HB.out.cell (p := ⟨b, off + k * 2 + 1, none⟩) hb).trans d1
      have hgl := HL.out g (List.mem_of_getElem? hg)
      have hsh := fun X => tooLongG g a2 c2 X hgl
      obtain ⟨r, hr⟩ : ∃ r, longB g = r := ⟨_, rfl⟩
      rw [hr] at hsh HS
      have HR : Hid (longB g = r) := hr
      clear d0 d1 hg hr
      have hw2 : IntKind.i64.wrap ((k : Int) + 1) = (k : Int) + 1 := by rw [IntKind.wrap_i64]; omega
      go_wp2_with fail
      refine (hsh _).mono ?_
      rintro e w1 ⟨rfl, hb1⟩
      have HB1 : Hid (Below W.heap.size W w1) := HB.out.trans (hb1.mono HB.out.size)
      clear hb1 hsh
      rw [HQ.out] at HS
      cases r with
      | false =>
        go_wp2
        go_roundw
        case rel => exact ⟨k + 1, by omega, by go_num, by rw [HS.out]; rfl, HB1⟩
        case measure => simp [intOf]; omega
      | true =>
        have HF : Hid (ags.any longB = true) := List.any_eq_true.2 ⟨g, HMEM.out, HR.out⟩
        go_wp2
        go_ret
        exact ⟨⟨_, rfl, by rw [HF.out]; exact Int.natCast_nonneg k⟩, HB1.out⟩
    · have hlt' : ¬ (k : Int) < n := by omega
      obtain rfl : k = n := by omega
      have HF : Hid (ags.any longB = false) := by have := HQ.out; rwa [List.take_of_length_le (by rw [HN.out]; exact Nat.le_refl _)] at this
      go_wp2
      go_ret
      exact ⟨⟨_, rfl, by rw [HF.out]; exact rfl⟩, HB.out⟩

set_option maxRecDepth 100000 in
set_option maxHeartbeats 4000000 in
theorem containsG {B0 : Nat} {W : World} {a8 : Option Addr} {c8 n : Nat} {ags : List Ag} (h : Sa B0 W (.slice a8 n c8) ags) (hlen : ags.length = n) (hn : n ≤ 4398046510976) (hl : ∀ g ∈ ags, g.l.length ≤ 4398046510976) :
    Calls Tryz.prog 48 #[.slice a8 n c8, .func (.func 49) #[] #[]] W fun e w' => e = .returned (.bool (ags.any longB)) ∧ Below W.heap.size W w' := by
  have k := indexG h hlen hn hl
  obtain ⟨q, hq⟩ : ∃ q, ags.any longB = q := ⟨_, rfl⟩
  rw [hq] at k ⊢
  clear h hlen hl hq
  go_enter Tryz.func48, Tryz.ntmps48
  go_wp2_with fail
  refine k.mono ?_
  rintro e w1 ⟨⟨r, rfl, hr⟩, hb1⟩
  have HB : Hid _ := hb1
  clear hb1 k
  cases q with
  | true =>
    have h0 : (0 : Int) ≤ r := hr
    clear hr
    go_wp2
    go_ret
    exact ⟨by simp [h0], HB.out⟩
  | false =>
    obtain rfl : r = -1 := hr
    go_wp2
    go_ret
    exact ⟨rfl, HB.out⟩
end Go.Proofs.YtaeobgajhieajaaGreatDoor
