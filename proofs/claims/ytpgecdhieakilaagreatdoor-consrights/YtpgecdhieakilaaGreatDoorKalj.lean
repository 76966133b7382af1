/-
  What is proved here: cons.Same of two constraints.
  What is proved here: the reference's Same of two constraints.
-/
import Derived.Test.YtpgecdhieakilaaGreatDoorEcj
import Derived.Test.YtpgecdhieakilaaGreatDoorHaj
import Derived.Test.YtpgecdhieakilaaGreatDoorKafj
namespace Go.Proofs.YtpgecdhieakilaaGreatDoor
open Go.RowKit Go.Shelf
set_option linter.unusedVariables false
set_option linter.unusedSimpArgs false

set_option maxRecDepth 100000 in
set_option maxHeartbeats 4000000 in
theorem equal110 {B1 B2 : Nat} {W : World} {s1 s2 : Value} {l1 l2 : List Int} (h1 : Si B1 W s1 l1) (h2 : Si B2 W s2 l2) (hz1 : l1.length ≤ 17592186043904) (hz2 : l2.length ≤ 17592186043904) :
    Calls Tryz.prog 110 #[s1, s2] W fun e w' => e = .returned (.bool (decide (l1 = l2))) ∧ Below W.heap.size W w' := by
  obtain ⟨a1, c1, rfl, h1'⟩ := h1
  obtain ⟨a2, c2, rfl, h2'⟩ := h2
  have H1 : Hid (Si B1 W (.slice a1 l1.length c1) l1) := ⟨_, _, rfl, h1'⟩
  have H2 : Hid (Si B2 W (.slice a2 l2.length c2) l2) := ⟨_, _, rfl, h2'⟩
  clear h1' h2'
  obtain ⟨n1, hn1⟩ : ∃ n, l1.length = n := ⟨_, rfl⟩
  obtain ⟨n2, hn2⟩ : ∃ n, l2.length = n := ⟨_, rfl⟩
  rw [hn1] at hz1 H1 ⊢
  rw [hn2] at hz2 H2 ⊢
  have HN : Hid (l1.length = n1 ∧ l2.length = n2) := ⟨hn1, hn2⟩
  clear hn1 hn2
  by_cases hne : n1 = n2
  · subst hne
    go_enter Tryz.func110, Tryz.ntmps110
    go_wp2
    go_loopw [13] (fun i wr => ∃ k : Nat, k ≤ n1 ∧ i = .int .i64 (k : Int) ∧ Hid (l1.take k = l2.take k) ∧ Hid (Below W.heap.size W wr)) (fun i _ => n1 - (intOf i).toNat)
    case atStart => exact ⟨0, Nat.zero_le _, rfl, by simp [Hid], Below.refl _ _⟩
    case round =>
      obtain ⟨k, hk, rfl, HQ, HB⟩ := hrel
      by_cases hlt : k < n1
      · have hlt' : (k : Int) < n1 := by omega
        obtain ⟨x, hx⟩ : ∃ x, l1[k]? = some x := ⟨_, List.getElem?_eq_getElem (by rw [HN.out.1]; exact hlt)⟩
        obtain ⟨y, hy⟩ : ∃ x, l2[k]? = some x := ⟨_, List.getElem?_eq_getElem (by rw [HN.out.2]; exact hlt)⟩
        obtain ⟨b1, o1, rfl, hb1, d1⟩ := H1.out.at hx
        obtain ⟨b2, o2, rfl, hb2, d2⟩ := H2.out.at hy
        have y1 := (HB.out.cell (p := ⟨b1, o1 + k, none⟩) hb1).trans d1
        have y2 := (HB.out.cell (p := ⟨b2, o2 + k, none⟩) hb2).trans d2
        have HS : Hid (l1.take (k + 1) = l2.take (k + 1) ↔ x = y) := take_eq_succ hx hy HQ.out
        clear d1 d2 hx hy
        have hw2 : IntKind.i64.wrap ((k : Int) + 1) = (k : Int) + 1 := by rw [IntKind.wrap_i64]; omega
        by_cases hxy : x = y
        · have HT : Hid _ := HS.out.2 hxy
          subst hxy
          go_wp2
          go_quiet (fail)
          go_wp2
          go_roundw
          case rel => exact ⟨k + 1, by omega, by go_num, HT, below_drewN HB.out _⟩
          case measure => simp [intOf]; omega
        · have HF : Hid (l1 ≠ l2) := fun e => hxy (HS.out.1 (by rw [e]))
          have hd : (x != y) = true := by simpa using hxy
          have hd2 : (x == y) = false := by simpa using hxy
          go_wp2
          go_quiet (fail)
          go_wp2
          go_ret
          exact ⟨by simp [HF.out], below_drewN HB.out _⟩
      · have hlt' : ¬ (k : Int) < n1 := by omega
        obtain rfl : k = n1 := by omega
        have HT : Hid (l1 = l2) := take_eq_all HN.out.1 HN.out.2 HQ.out
        go_wp2
        go_ret
        exact ⟨by simp [HT.out], HB.out⟩
  · have HF : Hid (l1 ≠ l2) := fun e => hne (by rw [← HN.out.1, ← HN.out.2, e])
    have hd : ((n1 : Int) != n2) = true := by simp; omega
    have hd2 : ((n1 : Int) == n2) = false := by simp; omega
    go_enter Tryz.func110, Tryz.ntmps110
    go_wp2
    go_ret
    exact ⟨by simp [HF.out], Below.refl _ _⟩

set_option maxRecDepth 100000 in
set_option maxHeartbeats 4000000 in
theorem sameTerm83 {B1 B2 : Nat} {W : World} {a1 a2 : Option Addr} {c1 c2 : Nat} {l1 l2 : List Int} (v1 v2 : Int) (b1 b2 : Bool) (n1 n2 : Int) (h1 : Si B1 W (.slice a1 l1.length c1) l1) (h2 : Si B2 W (.slice a2 l2.length c2) l2) (hz1 : l1.length ≤ 17592186043904) (hz2 : l2.length ≤ 17592186043904) :
    Calls Tryz.prog 83 #[.agg #[.int .i64 v1, .bool b1, .int .i64 n1, .slice a1 l1.length c1], .agg #[.int .i64 v2, .bool b2, .int .i64 n2, .slice a2 l2.length c2]] W fun e w' => e = .returned (.bool (decide (v1 = v2 ∧ b1 = b2 ∧ n1 = n2 ∧ l1 = l2))) ∧ Below W.heap.size W w' := by
  have hbA : Below W.heap.size W ((W.alloc (Obj.cells #[.int .i64 v1, .bool b1, .int .i64 n1, .slice a1 l1.length c1] 46)).alloc (Obj.cells #[.int .i64 v2, .bool b2, .int .i64 n2, .slice a2 l2.length c2] 46)) := ((Below.refl _ W).alloc (Nat.le_refl _) _).alloc (by simp) _
  have k := equal110 (h1.below hbA) (h2.below hbA) hz1 hz2
  have HBA : Hid _ := hbA
  clear h1 h2 hbA
  obtain ⟨m1, hm1⟩ : ∃ n, l1.length = n := ⟨_, rfl⟩
  obtain ⟨m2, hm2⟩ : ∃ n, l2.length = n := ⟨_, rfl⟩
  obtain ⟨r, hr⟩ : ∃ r, decide (l1 = l2) = r := ⟨_, rfl⟩
  rw [hm1, hm2, hr] at k
  rw [hm1, hm2] at HBA ⊢
  have HR : Hid (decide (l1 = l2) = r) := hr
  clear hm1 hm2 hr hz1 hz2
  by_cases hv : v1 = v2
  rotate_left
  · have hd : (v1 == v2) = false := by simpa using hv
    clear k
    go_enter Tryz.func83, Tryz.ntmps83
    go_wp2
    go_ret
    exact ⟨by simp [hv], HBA.out⟩
  subst hv
  by_cases hb : b1 = b2
  rotate_left
  · clear k
    go_enter Tryz.func83, Tryz.ntmps83
    cases b1 <;> cases b2 <;> first
    | exact absurd rfl hb
    | (go_wp2
       go_ret
       exact ⟨by simp, HBA.out⟩)
  subst hb
  by_cases hn : n1 = n2
  rotate_left
  · have hd : (n1 == n2) = false := by simpa using hn
    clear k
    go_enter Tryz.func83, Tryz.ntmps83
    cases b1 <;>
    · go_wp2
      go_ret
      exact ⟨by simp [hn], HBA.out⟩
  subst hn
  go_enter Tryz.func83, Tryz.ntmps83
  cases b1 <;>
  · go_wp2_with fail
    refine k.mono ?_
    rintro e w1 ⟨rfl, hb1⟩
    have HB1 : Hid (Below W.heap.size W w1) := HBA.out.trans (hb1.mono (by simp; omega))
    clear hb1
    go_wp2
    go_ret
    exact ⟨by rw [← HR.out]; simp, HB1.out⟩

set_option maxRecDepth 100000 in
set_option maxHeartbeats 4000000 in
theorem equalTerms82 {B1 B2 : Nat} {W : World} {a1 a2 : Option Addr} {c1 c2 : Nat} {l1 l2 : List Tm} (h1 : St B1 W (.slice a1 l1.length c1) l1) (h2 : St B2 W (.slice a2 l2.length c2) l2) (hz1 : l1.length ≤ 17592186043904) (hz2 : l2.length ≤ 17592186043904) (hL1 : ∀ t ∈ l1, t.s.length ≤ 17592186043904) (hL2 : ∀ t ∈ l2, t.s.length ≤ 17592186043904) :
    Calls Tryz.prog 82 #[.slice a1 l1.length c1, .slice a2 l2.length c2, .func (.func 83) #[] #[]] W fun e w' => e = .returned (.bool (decide (l1 = l2))) ∧ Below W.heap.size W w' := by
  have H1 := hid h1
  have H2 := hid h2
  have HL1 := hid hL1
  have HL2 := hid hL2
  obtain ⟨n1, hn1⟩ : ∃ n, l1.length = n := ⟨_, rfl⟩
  obtain ⟨n2, hn2⟩ : ∃ n, l2.length = n := ⟨_, rfl⟩
  rw [hn1] at hz1 H1 ⊢
  rw [hn2] at hz2 H2 ⊢
  have HN : Hid (l1.length = n1 ∧ l2.length = n2) := ⟨hn1, hn2⟩
  clear hn1 hn2 h1 h2 hL1 hL2
  by_cases hne : n1 = n2
  rotate_left
  · have HF : Hid (l1 ≠ l2) := fun e => hne (by rw [← HN.out.1, ← HN.out.2, e])
    have hd : ((n1 : Int) != n2) = true := by simp; omega
    have hd2 : ((n1 : Int) == n2) = false := by simp; omega
    go_enter Tryz.func82, Tryz.ntmps82
    go_wp2
    go_ret
    exact ⟨by simp [HF.out], Below.refl _ _⟩
  subst hne
  go_enter Tryz.func82, Tryz.ntmps82
  go_wp2
  go_loopw [17] (fun i wr => ∃ k : Nat, k ≤ n1 ∧ i = .int .i64 (k : Int) ∧ Hid (l1.take k = l2.take k) ∧ Hid (Below W.heap.size W wr)) (fun i _ => n1 - (intOf i).toNat)
  case atStart => exact ⟨0, Nat.zero_le _, rfl, by simp [Hid], Below.refl _ _⟩
  case round =>
    obtain ⟨k, hk, rfl, HQ, HB⟩ := hrel
    by_cases hlt : k < n1
    · have hlt' : (k : Int) < n1 := by omega
      have hw2 : IntKind.i64.wrap ((k : Int) + 1) = (k : Int) + 1 := by rw [IntKind.wrap_i64]; omega
      obtain ⟨x, hx⟩ : ∃ x, l1[k]? = some x := ⟨_, List.getElem?_eq_getElem (by rw [HN.out.1]; exact hlt)⟩
      obtain ⟨y, hy⟩ : ∃ x, l2[k]? = some x := ⟨_, List.getElem?_eq_getElem (by rw [HN.out.2]; exact hlt)⟩
      have HS : Hid (l1.take (k + 1) = l2.take (k + 1) ↔ x = y) := take_eq_succ hx hy HQ.out
      obtain ⟨b1, o1, a3, c3, rfl, hb1, g1, d0, d1, d2, d3⟩ := H1.out.at hx
      obtain ⟨b2, o2, a4, c4, rfl, hb2, g2, e0, e1, e2, e3⟩ := H2.out.at hy
      have d0 := (HB.out.cell (p := ⟨b1, o1 + k * 4, none⟩) hb1).trans d0
      have d1 := (HB.out.cell (p := ⟨b1, o1 + k * 4 + 1, none⟩) hb1).trans d1
      have d2 := (HB.out.cell (p := ⟨b1, o1 + k * 4 + 2, none⟩) hb1).trans d2
      have d3 := (HB.out.cell (p := ⟨b1, o1 + k * 4 + 3, none⟩) hb1).trans d3
      have hbA : Below wr.heap.size wr (wr.alloc (Obj.cells #[.int .i64 x.v, .bool x.set, .int .i64 x.n, .slice a3 x.s.length c3] 46)) := (Below.refl _ wr).alloc (Nat.le_refl _) _
      have hbB : Below wr.heap.size wr ((wr.alloc (Obj.cells #[.int .i64 x.v, .bool x.set, .int .i64 x.n, .slice a3 x.s.length c3] 46)).alloc (Obj.cells #[.int .i64 y.v, .bool y.set, .int .i64 y.n, .slice a4 y.s.length c4] 46)) := hbA.alloc hbA.size _
      have HBB := hid (HB.out.trans (hbB.mono HB.out.size))
      have e0 := ((HB.out.trans (hbA.mono HB.out.size)).cell (p := ⟨b2, o2 + k * 4, none⟩) hb2).trans e0
      have e1 := ((HB.out.trans (hbA.mono HB.out.size)).cell (p := ⟨b2, o2 + k * 4 + 1, none⟩) hb2).trans e1
      have e2 := ((HB.out.trans (hbA.mono HB.out.size)).cell (p := ⟨b2, o2 + k * 4 + 2, none⟩) hb2).trans e2
      have e3 := ((HB.out.trans (hbA.mono HB.out.size)).cell (p := ⟨b2, o2 + k * 4 + 3, none⟩) hb2).trans e3
      have kT := sameTerm83 x.v y.v x.set y.set x.n y.n ((g1.below HB.out).below hbB) ((g2.below HB.out).below hbB) (HL1.out x (List.mem_of_getElem? hx)) (HL2.out y (List.mem_of_getElem? hy))
      obtain ⟨r, hr⟩ : ∃ r, decide (x.v = y.v ∧ x.set = y.set ∧ x.n = y.n ∧ x.s = y.s) = r := ⟨_, rfl⟩
      rw [hr] at kT
      have HR := hid hr
      clear hr hx hy hbA hbB
      go_wp2_with fail
      refine kT.mono ?_
      clear kT
      rintro e w1 ⟨rfl, hb1⟩
      have HB1 := hid (HBB.out.trans (hb1.mono HBB.out.size))
      clear hb1
      cases r with
      | true =>
        have HT : Hid (l1.take (k + 1) = l2.take (k + 1)) := HS.out.2 ((tm_eq x y).1 (of_decide_eq_true HR.out))
        go_wp2
        go_roundw
        case rel => exact ⟨k + 1, by omega, by go_num, HT, HB1⟩
        case measure => simp [intOf]; omega
      | false =>
        have HF : Hid (l1 ≠ l2) := fun e => of_decide_eq_false HR.out ((tm_eq x y).2 (HS.out.1 (by rw [e])))
        go_wp2
        go_ret
        exact ⟨by simp [HF.out], HB1.out⟩
    · have hlt' : ¬ (k : Int) < n1 := by omega
      obtain rfl : k = n1 := by omega
      have HT : Hid (l1 = l2) := take_eq_all HN.out.1 HN.out.2 HQ.out
      go_wp2
      go_ret
      exact ⟨by simp [HT.out], HB.out⟩

instance : DecidableEq Ag := fun a b => by cases a; cases b; simp only [Ag.mk.injEq]; infer_instance
theorem ag_eq (x y : Ag) : (x.arr = y.arr ∧ x.l = y.l) ↔ x = y := by cases x; cases y; simp
/-- The sizes of an argument. -/
def AgZ (g : Ag) : Prop := g.l.length ≤ 17592186043904 ∧ ∀ t ∈ g.l, t.s.length ≤ 17592186043904

set_option maxRecDepth 100000 in
set_option maxHeartbeats 4000000 in
theorem sameArg56 {B1 B2 : Nat} {W : World} {a1 a2 : Option Addr} {c1 c2 : Nat} {l1 l2 : List Tm} (b1 b2 : Bool) (h1 : St B1 W (.slice a1 l1.length c1) l1) (h2 : St B2 W (.slice a2 l2.length c2) l2) (hz1 : l1.length ≤ 17592186043904 ∧ ∀ t ∈ l1, t.s.length ≤ 17592186043904) (hz2 : l2.length ≤ 17592186043904 ∧ ∀ t ∈ l2, t.s.length ≤ 17592186043904) :
    Calls Tryz.prog 56 #[.agg #[.bool b1, .slice a1 l1.length c1], .agg #[.bool b2, .slice a2 l2.length c2]] W fun e w' => e = .returned (.bool (decide (b1 = b2 ∧ l1 = l2))) ∧ Below W.heap.size W w' := by
  have hbA : Below W.heap.size W ((W.alloc (Obj.cells #[.bool b1, .slice a1 l1.length c1] 54)).alloc (Obj.cells #[.bool b2, .slice a2 l2.length c2] 54)) := ((Below.refl _ W).alloc (Nat.le_refl _) _).alloc (by simp) _
  have k := equalTerms82 (h1.below hbA) (h2.below hbA) hz1.1 hz2.1 hz1.2 hz2.2
  have HBA : Hid _ := hbA
  clear h1 h2 hbA
  obtain ⟨m1, hm1⟩ : ∃ n, l1.length = n := ⟨_, rfl⟩
  obtain ⟨m2, hm2⟩ : ∃ n, l2.length = n := ⟨_, rfl⟩
  obtain ⟨r, hr⟩ : ∃ r, decide (l1 = l2) = r := ⟨_, rfl⟩
  rw [hm1, hm2, hr] at k
  rw [hm1, hm2] at HBA ⊢
  have HR : Hid (decide (l1 = l2) = r) := hr
  clear hm1 hm2 hr hz1 hz2
  by_cases hb : b1 = b2
  rotate_left
  · clear k
    go_enter Tryz.func56, Tryz.ntmps56
    cases b1 <;> cases b2 <;> first
    | exact absurd rfl hb
    | (go_wp2
       go_ret
       exact ⟨by simp, HBA.out⟩)
  subst hb
  go_enter Tryz.func56, Tryz.ntmps56
  cases b1 <;>
  · go_wp2_with fail
    refine k.mono ?_
    rintro e w1 ⟨rfl, hb1⟩
    have HB1 : Hid (Below W.heap.size W w1) := HBA.out.trans (hb1.mono (by simp; omega))
    clear hb1
    go_wp2
    go_ret
    exact ⟨by rw [← HR.out]; simp, HB1.out⟩

set_option maxRecDepth 100000 in
set_option maxHeartbeats 4000000 in
theorem equalArgs55 {B1 B2 : Nat} {W : World} {a1 a2 : Option Addr} {c1 c2 : Nat} {l1 l2 : List Ag} (h1 : Sa B1 W (.slice a1 l1.length c1) l1) (h2 : Sa B2 W (.slice a2 l2.length c2) l2) (hz1 : l1.length ≤ 17592186043904) (hz2 : l2.length ≤ 17592186043904) (hL1 : ∀ g ∈ l1, AgZ g) (hL2 : ∀ g ∈ l2, AgZ g) :
    Calls Tryz.prog 55 #[.slice a1 l1.length c1, .slice a2 l2.length c2, .func (.func 56) #[] #[]] W fun e w' => e = .returned (.bool (decide (l1 = l2))) ∧ Below W.heap.size W w' := by
  have H1 := hid h1
  have H2 := hid h2
  have HL1 := hid hL1
  have HL2 := hid hL2
  obtain ⟨n1, hn1⟩ : ∃ n, l1.length = n := ⟨_, rfl⟩
  obtain ⟨n2, hn2⟩ : ∃ n, l2.length = n := ⟨_, rfl⟩
  rw [hn1] at hz1 H1 ⊢
  rw [hn2] at hz2 H2 ⊢
  have HN : Hid (l1.length = n1 ∧ l2.length = n2) := ⟨hn1, hn2⟩
  clear hn1 hn2 h1 h2 hL1 hL2
  by_cases hne : n1 = n2
  rotate_left
  · have HF : Hid (l1 ≠ l2) := fun e => hne (by rw [← HN.out.1, ← HN.out.2, e])
    have hd : ((n1 : Int) != n2) = true := by simp; omega
    have hd2 : ((n1 : Int) == n2) = false := by simp; omega
    go_enter Tryz.func55, Tryz.ntmps55
    go_wp2
    go_ret
    exact ⟨by simp [HF.out], Below.refl _ _⟩
  subst hne
  go_enter Tryz.func55, Tryz.ntmps55
  go_wp2
  go_loopw [17] (fun i wr => ∃ k : Nat, k ≤ n1 ∧ i = .int .i64 (k : Int) ∧ Hid (l1.take k = l2.take k) ∧ Hid (Below W.heap.size W wr)) (fun i _ => n1 - (intOf i).toNat)
  case atStart => exact ⟨0, Nat.zero_le _, rfl, by simp [Hid], Below.refl _ _⟩
  case round =>
    obtain ⟨k, hk, rfl, HQ, HB⟩ := hrel
    by_cases hlt : k < n1
    · have hlt' : (k : Int) < n1 := by omega
      have hw2 : IntKind.i64.wrap ((k : Int) + 1) = (k : Int) + 1 := by rw [IntKind.wrap_i64]; omega
      obtain ⟨x, hx⟩ : ∃ x, l1[k]? = some x := ⟨_, List.getElem?_eq_getElem (by rw [HN.out.1]; exact hlt)⟩
      obtain ⟨y, hy⟩ : ∃ x, l2[k]? = some x := ⟨_, List.getElem?_eq_getElem (by rw [HN.out.2]; exact hlt)⟩
      have HS : Hid (l1.take (k + 1) = l2.take (k + 1) ↔ x = y) := take_eq_succ hx hy HQ.out
      obtain ⟨b1, o1, a3, c3, rfl, hb1, g1, d0, d1⟩ := H1.out.at hx
      obtain ⟨b2, o2, a4, c4, rfl, hb2, g2, e0, e1⟩ := H2.out.at hy
      have d0 := (HB.out.cell (p := ⟨b1, o1 + k * 2, none⟩) hb1).trans d0
      have d1 := (HB.out.cell (p := ⟨b1, o1 + k * 2 + 1, none⟩) hb1).trans d1
      have hbA : Below wr.heap.size wr (wr.alloc (Obj.cells #[.bool x.arr, .slice a3 x.l.length c3] 54)) := (Below.refl _ wr).alloc (Nat.le_refl _) _
      have hbB : Below wr.heap.size wr ((wr.alloc (Obj.cells #[.bool x.arr, .slice a3 x.l.length c3] 54)).alloc (Obj.cells #[.bool y.arr, .slice a4 y.l.length c4] 54)) := hbA.alloc hbA.size _
      have HBB := hid (HB.out.trans (hbB.mono HB.out.size))
      have e0 := ((HB.out.trans (hbA.mono HB.out.size)).cell (p := ⟨b2, o2 + k * 2, none⟩) hb2).trans e0
      have e1 := ((HB.out.trans (hbA.mono HB.out.size)).cell (p := ⟨b2, o2 + k * 2 + 1, none⟩) hb2).trans e1
      have kT := sameArg56 x.arr y.arr ((g1.below HB.out).below hbB) ((g2.below HB.out).below hbB) (HL1.out x (List.mem_of_getElem? hx)) (HL2.out y (List.mem_of_getElem? hy))
      obtain ⟨r, hr⟩ : ∃ r, decide (x.arr = y.arr ∧ x.l = y.l) = r := ⟨_, rfl⟩
      rw [hr] at kT
      have HR := hid hr
      clear hr hx hy hbA hbB
      go_wp2_with fail
      refine kT.mono ?_
      clear kT
      rintro e w1 ⟨rfl, hb1⟩
      have HB1 := hid (HBB.out.trans (hb1.mono HBB.out.size))
      clear hb1
      cases r with
      | true =>
        have HT : Hid (l1.take (k + 1) = l2.take (k + 1)) := HS.out.2 ((ag_eq x y).1 (of_decide_eq_true HR.out))
        go_wp2
        go_roundw
        case rel => exact ⟨k + 1, by omega, by go_num, HT, HB1⟩
        case measure => simp [intOf]; omega
      | false =>
        have HF : Hid (l1 ≠ l2) := fun e => of_decide_eq_false HR.out ((ag_eq x y).2 (HS.out.1 (by rw [e])))
        go_wp2
        go_ret
        exact ⟨by simp [HF.out], HB1.out⟩
    · have hlt' : ¬ (k : Int) < n1 := by omega
      obtain rfl : k = n1 := by omega
      have HT : Hid (l1 = l2) := take_eq_all HN.out.1 HN.out.2 HQ.out
      go_wp2
      go_ret
      exact ⟨by simp [HT.out], HB.out⟩

set_option maxRecDepth 100000 in
set_option maxHeartbeats 4000000 in
theorem same20 {B1 B2 : Nat} {W : World} {a1 a2 : Option Addr} {n1 n2 c1 c2 : Nat} {l1 l2 : List Ag} (nm1 nm2 : List UInt8) (h1 : Sa B1 W (.slice a1 n1 c1) l1) (h2 : Sa B2 W (.slice a2 n2 c2) l2) (hn1 : l1.length = n1) (hn2 : l2.length = n2) (hz1 : n1 ≤ 17592186043904) (hz2 : n2 ≤ 17592186043904) (hL1 : ∀ g ∈ l1, AgZ g) (hL2 : ∀ g ∈ l2, AgZ g) :
    Calls Tryz.prog 20 #[.agg #[.string (bs nm1), .slice a1 n1 c1], .agg #[.string (bs nm2), .slice a2 n2 c2]] W fun e w' => e = .returned (.bool (decide (nm1 = nm2 ∧ l1 = l2))) ∧ Below W.heap.size W w' := by
  have hbA : Below W.heap.size W ((W.alloc (Obj.cells #[.string (bs nm1), .slice a1 n1 c1] 32)).alloc (Obj.cells #[.string (bs nm2), .slice a2 n2 c2] 32)) := ((Below.refl _ W).alloc (Nat.le_refl _) _).alloc (by simp) _
  subst hn1
  subst hn2
  have k := equalArgs55 (h1.below hbA) (h2.below hbA) hz1 hz2 hL1 hL2
  have HBA : Hid _ := hbA
  obtain ⟨m1, hm1⟩ : ∃ n, l1.length = n := ⟨_, rfl⟩
  obtain ⟨m2, hm2⟩ : ∃ n, l2.length = n := ⟨_, rfl⟩
  obtain ⟨r, hr⟩ : ∃ r, decide (l1 = l2) = r := ⟨_, rfl⟩
  rw [hm1, hm2, hr] at k
  rw [hm1, hm2] at HBA ⊢
  have HR : Hid (decide (l1 = l2) = r) := hr
  clear hm1 hm2 hr hz1 hz2 h1 h2 hbA hL1 hL2
  by_cases hb : nm1 = nm2
  rotate_left
  · have he : ((bs nm1).toList == (bs nm2).toList) = false := by rw [bs_toList, bs_toList]; simpa using hb
    obtain ⟨S1, hS1⟩ : ∃ S, bs nm1 = S := ⟨_, rfl⟩
    obtain ⟨S2, hS2⟩ : ∃ S, bs nm2 = S := ⟨_, rfl⟩
    rw [hS1, hS2] at he HBA ⊢
    clear k hS1 hS2
    go_enter Tryz.func20, Tryz.ntmps20
    go_wp2
    go_ret
    exact ⟨by simp [hb], HBA.out⟩
  subst hb
  obtain ⟨S1, hS1⟩ : ∃ S, bs nm1 = S := ⟨_, rfl⟩
  rw [hS1] at k HBA ⊢
  have he : (S1.toList == S1.toList) = true := by simp
  clear hS1
  go_enter Tryz.func20, Tryz.ntmps20
  go_wp2_with fail
  refine k.mono ?_
  rintro e w1 ⟨rfl, hb1⟩
  have HB1 : Hid (Below W.heap.size W w1) := HBA.out.trans (hb1.mono (by simp; omega))
  clear hb1
  go_wp2
  go_ret
  exact ⟨by rw [← HR.out]; simp, HB1.out⟩
end Go.Proofs.YtpgecdhieakilaaGreatDoor

namespace Go.Proofs.YtpgecdhieakilaaGreatDoor
open Go.RowKit Go.Shelf
set_option linter.unusedVariables false
set_option linter.unusedSimpArgs false

set_option maxRecDepth 100000 in
set_option maxHeartbeats 4000000 in
theorem refsame21 {B1 B2 : Nat} {W : World} {a1 a2 : Option Addr} {n1 n2 c1 c2 : Nat} {l1 l2 : List Ag} (nm1 nm2 : List UInt8) (h1 : Sa B1 W (.slice a1 n1 c1) l1) (h2 : Sa B2 W (.slice a2 n2 c2) l2) (hn1 : l1.length = n1) (hn2 : l2.length = n2) (hz1 : n1 ≤ 17592186043904) (hz2 : n2 ≤ 17592186043904) (hL1 : ∀ g ∈ l1, AgZ g) (hL2 : ∀ g ∈ l2, AgZ g) :
    Calls Tryz.prog 21 #[.agg #[.string (bs nm1), .slice a1 n1 c1], .agg #[.string (bs nm2), .slice a2 n2 c2]] W fun e w' => e = .returned (.bool (decide (nm1 = nm2 ∧ l1 = l2))) ∧ Below W.heap.size W w' := by
  have hbA : Below W.heap.size W ((W.alloc (Obj.cells #[.string (bs nm1), .slice a1 n1 c1] 32)).alloc (Obj.cells #[.string (bs nm2), .slice a2 n2 c2] 32)) := ((Below.refl _ W).alloc (Nat.le_refl _) _).alloc (by simp) _
  have HBA : Hid _ := hbA
  have H1 := hid h1
  have H2 := hid h2
  have HN : Hid (l1.length = n1 ∧ l2.length = n2) := ⟨hn1, hn2⟩
  have HL1 := hid hL1
  have HL2 := hid hL2
  clear hbA h1 h2 hn1 hn2 hL1 hL2
  by_cases hb : nm1 = nm2
  rotate_left
  · have he : ((bs nm1).toList == (bs nm2).toList) = false := by rw [bs_toList, bs_toList]; simpa using hb
    obtain ⟨S1, hS1⟩ : ∃ S, bs nm1 = S := ⟨_, rfl⟩
    obtain ⟨S2, hS2⟩ : ∃ S, bs nm2 = S := ⟨_, rfl⟩
    rw [hS1, hS2] at he HBA ⊢
    have hbne : (S1.toList != S2.toList) = true := by rw [bne, he]; rfl
    clear hS1 hS2
    go_enter Tryz.func21, Tryz.ntmps21
    go_wp2
    go_ret
    exact ⟨by simp [hb], HBA.out⟩
  subst hb
  obtain ⟨S1, hS1⟩ : ∃ S, bs nm1 = S := ⟨_, rfl⟩
  rw [hS1] at HBA ⊢
  have he : (S1.toList == S1.toList) = true := by simp
  have hbne : (S1.toList != S1.toList) = false := by simp
  clear hS1
  by_cases hne : n1 = n2
  rotate_left
  · have HF : Hid (l1 ≠ l2) := fun e => hne (by rw [← HN.out.1, ← HN.out.2, e])
    have hd : ((n1 : Int) != n2) = true := by simp; omega
    have hd2 : ((n1 : Int) == n2) = false := by simp; omega
    go_enter Tryz.func21, Tryz.ntmps21
    go_wp2
    go_ret
    exact ⟨by simp [HF.out], HBA.out⟩
  subst hne
  obtain ⟨B0, hB0⟩ : ∃ x, W.heap.size = x := ⟨_, rfl⟩
  obtain ⟨W1, hW1⟩ : ∃ X, (W.alloc (Obj.cells #[.string S1, .slice a1 n1 c1] 32)).alloc (Obj.cells #[.string S1, .slice a2 n1 c2] 32) = X := ⟨_, rfl⟩
  have KA : Hid (Blk W1 B0 #[.string S1, .slice a1 n1 c1] 32) := by rw [Hid, ← hW1, ← hB0]; exact (Blk.new W _ _).alloc _
  have KB : Hid (Blk W1 (B0 + 1) #[.string S1, .slice a2 n1 c2] 32) := by rw [Hid, ← hW1, ← hB0]; exact Blk.new2 W _ _ _
  have HB1 : Hid (Below B0 W W1) := by rw [Hid, ← hW1, ← hB0]; exact HBA.out
  have HW1 : Hid _ := hW1
  have HB0 : Hid (W.heap.size = B0) := hB0
  have HBB : Hid (∀ X, Below W1.heap.size W1 X → Below B0 W X ∧ Blk X B0 #[.string S1, .slice a1 n1 c1] 32 ∧ Blk X (B0 + 1) #[.string S1, .slice a2 n1 c2] 32 ∧ Sa B1 X (.slice a1 n1 c1) l1 ∧ Sa B2 X (.slice a2 n1 c2) l2) := fun X hX => by
    have hb := HB1.out.trans (hX.mono (Nat.le_of_lt KA.out.lt))
    exact ⟨hb, KA.out.below hX, KB.out.below hX, H1.out.below (by rw [HB0.out]; exact hb), H2.out.below (by rw [HB0.out]; exact hb)⟩
  have xa := KA.out.cell 1
  have xb := KB.out.cell 1
  have xa0 := KA.out.cell 0
  have xb0 := KB.out.cell 0
  simp only [List.getElem?_toArray, List.getElem?_cons_succ, List.getElem?_cons_zero] at xa xb xa0 xb0
  clear hW1 hB0 HBA H1 H2
  go_enter Tryz.func21, Tryz.ntmps21
  go_upto_region 1 with (fail)
  rw [HW1.out]
  (try simp only [World.size_alloc])
  rw [HB0.out]
  go_wp2
  go_loopw [5] (fun i wr => ∃ k : Nat, k ≤ n1 ∧ i = .int .i64 (k : Int) ∧ Hid (l1.take k = l2.take k) ∧ Hid (Below W1.heap.size W1 wr)) (fun i _ => n1 - (intOf i).toNat)
  case atStart => exact ⟨0, Nat.zero_le _, rfl, by simp [Hid], Below.refl _ _⟩
  case round =>
    obtain ⟨k, hk, rfl, HQ, HBR⟩ := hrel
    obtain ⟨xbb, xka, xkb, xs1, xs2⟩ := HBB.out _ HBR.out
    have hbA0 := xka.lt
    have hbB0 := xkb.lt
    have xa := xka.cell 1
    have xb := xkb.cell 1
    simp only [List.getElem?_toArray, List.getElem?_cons_succ, List.getElem?_cons_zero] at xa xb
    by_cases hlt : k < n1
    · have hlt' : (k : Int) < n1 := by omega
      have hw2 : IntKind.i64.wrap ((k : Int) + 1) = (k : Int) + 1 := by rw [IntKind.wrap_i64]; omega
      obtain ⟨x, hx⟩ : ∃ x, l1[k]? = some x := ⟨_, List.getElem?_eq_getElem (by rw [HN.out.1]; exact hlt)⟩
      obtain ⟨y, hy⟩ : ∃ x, l2[k]? = some x := ⟨_, List.getElem?_eq_getElem (by rw [HN.out.2]; exact hlt)⟩
      have HS : Hid (l1.take (k + 1) = l2.take (k + 1) ↔ x = y) := take_eq_succ hx hy HQ.out
      obtain ⟨b1, o1, a3, c3, e, hb1, g1, d0, d1⟩ := xs1.at hx
      subst e
      obtain ⟨b2, o2, a4, c4, e, hb2, g2, e0, e1⟩ := xs2.at hy
      subst e
      have hB := Below.drew (Below.refl wr.heap.size wr)
      have kT := sameTerms33 (g1.below hB) (g2.below hB) (HL1.out x (List.mem_of_getElem? hx)).1 (HL2.out y (List.mem_of_getElem? hy)).1 (HL1.out x (List.mem_of_getElem? hx)).2 (HL2.out y (List.mem_of_getElem? hy)).2
      obtain ⟨r, hr⟩ : ∃ r, decide (x.l = y.l) = r := ⟨_, rfl⟩
      have HR := hid hr
      obtain ⟨m1, hm1⟩ : ∃ n, x.l.length = n := ⟨_, rfl⟩
      obtain ⟨m2, hm2⟩ : ∃ n, y.l.length = n := ⟨_, rfl⟩
      obtain ⟨ar1, har1⟩ : ∃ n, x.arr = n := ⟨_, rfl⟩
      obtain ⟨ar2, har2⟩ : ∃ n, y.arr = n := ⟨_, rfl⟩
      rw [hr, hm1, hm2] at kT
      rw [hm1] at d1; rw [hm2] at e1; rw [har1] at d0; rw [har2] at e0
      by_cases hab : ar1 = ar2
      · have HAR : Hid (x.arr = y.arr) := by rw [Hid, har1, har2]; exact hab
        subst hab
        clear hr hm1 hm2 har1 har2 hx hy g1 g2 xs1 xs2 xka xkb xbb
        go_upto_region 6 with (fail)
        refine wp_region_held_drew (S := (fun w' => Below wr.heap.size wr w')) (by kernel_rfl) (hB) (fun hHeld => ?_)
        refine wpAnyH_take (i := 0) (oi := { dst := some 27, op := Go.Op.fieldAddr 32 (Go.Operand.tmp 2) 1, type := 0, pos := "ref.go:352", after := #[], guard := none }) (v := ?_) rfl (by kernel_rfl) (by kernel_rfl) (by kernel_rfl) (fun _ _ _ h => h) (Or.inl ⟨by rfl, ?_⟩) hHeld ?_
        rotate_left
        · intro w hSw; (try dsimp only at hSw); go_simp <;> with_reducible rfl
        try simp only [Act.put, List.setIfInBounds_toArray, List.set_cons_zero, List.set_cons_succ]
        refine wpAnyH_take (i := 1) (oi := { dst := some 28, op := Go.Op.load 30 (Go.Operand.tmp 27), type := 30, pos := "ref.go:352", after := #[{ on := 0, ground := Go.Ground.data }], guard := none }) (v := ?_) rfl (by kernel_rfl) (by kernel_rfl) (by kernel_rfl) (fun _ _ _ h => h) (Or.inl ⟨by rfl, ?_⟩) hHeld ?_
        rotate_left
        · intro w hSw; have xa := (hSw.cell (p := ⟨B0, 1, none⟩) hbA0).trans xa; clear hSw; go_simp <;> with_reducible rfl
        try simp only [Act.put, List.setIfInBounds_toArray, List.set_cons_zero, List.set_cons_succ]
        refine wpAnyH_take (i := 2) (oi := { dst := some 29, op := Go.Op.move (Go.Operand.tmp 5), type := 3, pos := "ref.go:352", after := #[], guard := none }) (v := ?_) rfl (by kernel_rfl) (by kernel_rfl) (by kernel_rfl) (fun _ _ _ h => h) (Or.inl ⟨by rfl, ?_⟩) hHeld ?_
        rotate_left
        · intro w hSw; (try dsimp only at hSw); go_simp <;> with_reducible rfl
        try simp only [Act.put, List.setIfInBounds_toArray, List.set_cons_zero, List.set_cons_succ]
        refine wpAnyH_take (i := 3) (oi := { dst := some 30, op := Go.Op.indexAddr 30 (Go.Operand.tmp 28) (Go.Operand.tmp 29), type := 0, pos := "ref.go:352", after := #[{ on := 1, ground := Go.Ground.data }, { on := 2, ground := Go.Ground.data }], guard := none }) (v := ?_) rfl (by kernel_rfl) (by kernel_rfl) (by kernel_rfl) (fun _ _ _ h => h) (Or.inl ⟨by rfl, ?_⟩) hHeld ?_
        rotate_left
        · intro w hSw; (try dsimp only at hSw); go_simp <;> with_reducible rfl
        try simp only [Act.put, List.setIfInBounds_toArray, List.set_cons_zero, List.set_cons_succ]
        refine wpAnyH_take (i := 4) (oi := { dst := some 31, op := Go.Op.fieldAddr 54 (Go.Operand.tmp 30) 0, type := 0, pos := "ref.go:352", after := #[{ on := 3, ground := Go.Ground.data }], guard := none }) (v := ?_) rfl (by kernel_rfl) (by kernel_rfl) (by kernel_rfl) (fun _ _ _ h => h) (Or.inl ⟨by rfl, ?_⟩) hHeld ?_
        rotate_left
        · intro w hSw; (try dsimp only at hSw); go_simp <;> with_reducible rfl
        try simp only [Act.put, List.setIfInBounds_toArray, List.set_cons_zero, List.set_cons_succ]
        refine wpAnyH_take (i := 5) (oi := { dst := some 32, op := Go.Op.load 4 (Go.Operand.tmp 31), type := 4, pos := "ref.go:352", after := #[{ on := 4, ground := Go.Ground.data }], guard := none }) (v := ?_) rfl (by kernel_rfl) (by kernel_rfl) (by kernel_rfl) (fun _ _ _ h => h) (Or.inl ⟨by rfl, ?_⟩) hHeld ?_
        rotate_left
        · intro w hSw; have y0 := (hSw.cell (p := ⟨b1, o1 + k * 2, none⟩) hb1).trans d0; clear hSw; go_simp <;> with_reducible rfl
        try simp only [Act.put, List.setIfInBounds_toArray, List.set_cons_zero, List.set_cons_succ]
        refine wpAnyH_take (i := 6) (oi := { dst := some 33, op := Go.Op.fieldAddr 32 (Go.Operand.tmp 3) 1, type := 0, pos := "ref.go:352", after := #[], guard := none }) (v := ?_) rfl (by kernel_rfl) (by kernel_rfl) (by kernel_rfl) (fun _ _ _ h => h) (Or.inl ⟨by rfl, ?_⟩) hHeld ?_
        rotate_left
        · intro w hSw; (try dsimp only at hSw); go_simp <;> with_reducible rfl
        try simp only [Act.put, List.setIfInBounds_toArray, List.set_cons_zero, List.set_cons_succ]
        refine wpAnyH_take (i := 7) (oi := { dst := some 34, op := Go.Op.load 30 (Go.Operand.tmp 33), type := 30, pos := "ref.go:352", after := #[{ on := 6, ground := Go.Ground.data }], guard := none }) (v := ?_) rfl (by kernel_rfl) (by kernel_rfl) (by kernel_rfl) (fun _ _ _ h => h) (Or.inl ⟨by rfl, ?_⟩) hHeld ?_
        rotate_left
        · intro w hSw; have xb := (hSw.cell (p := ⟨B0 + 1, 1, none⟩) hbB0).trans xb; clear hSw; go_simp <;> with_reducible rfl
        try simp only [Act.put, List.setIfInBounds_toArray, List.set_cons_zero, List.set_cons_succ]
        refine wpAnyH_take (i := 8) (oi := { dst := some 35, op := Go.Op.move (Go.Operand.tmp 5), type := 3, pos := "ref.go:352", after := #[], guard := none }) (v := ?_) rfl (by kernel_rfl) (by kernel_rfl) (by kernel_rfl) (fun _ _ _ h => h) (Or.inl ⟨by rfl, ?_⟩) hHeld ?_
        rotate_left
        · intro w hSw; (try dsimp only at hSw); go_simp <;> with_reducible rfl
        try simp only [Act.put, List.setIfInBounds_toArray, List.set_cons_zero, List.set_cons_succ]
        refine wpAnyH_take (i := 9) (oi := { dst := some 36, op := Go.Op.indexAddr 30 (Go.Operand.tmp 34) (Go.Operand.tmp 35), type := 0, pos := "ref.go:352", after := #[{ on := 7, ground := Go.Ground.data }, { on := 8, ground := Go.Ground.data }], guard := none }) (v := ?_) rfl (by kernel_rfl) (by kernel_rfl) (by kernel_rfl) (fun _ _ _ h => h) (Or.inl ⟨by rfl, ?_⟩) hHeld ?_
        rotate_left
        · intro w hSw; (try dsimp only at hSw); go_simp <;> with_reducible rfl
        try simp only [Act.put, List.setIfInBounds_toArray, List.set_cons_zero, List.set_cons_succ]
        refine wpAnyH_take (i := 10) (oi := { dst := some 37, op := Go.Op.fieldAddr 54 (Go.Operand.tmp 36) 0, type := 0, pos := "ref.go:352", after := #[{ on := 9, ground := Go.Ground.data }], guard := none }) (v := ?_) rfl (by kernel_rfl) (by kernel_rfl) (by kernel_rfl) (fun _ _ _ h => h) (Or.inl ⟨by rfl, ?_⟩) hHeld ?_
        rotate_left
        · intro w hSw; (try dsimp only at hSw); go_simp <;> with_reducible rfl
        try simp only [Act.put, List.setIfInBounds_toArray, List.set_cons_zero, List.set_cons_succ]
        refine wpAnyH_take (i := 11) (oi := { dst := some 38, op := Go.Op.load 4 (Go.Operand.tmp 37), type := 4, pos := "ref.go:352", after := #[{ on := 10, ground := Go.Ground.data }], guard := none }) (v := ?_) rfl (by kernel_rfl) (by kernel_rfl) (by kernel_rfl) (fun _ _ _ h => h) (Or.inl ⟨by rfl, ?_⟩) hHeld ?_
        rotate_left
        · intro w hSw; have y0 := (hSw.cell (p := ⟨b2, o2 + k * 2, none⟩) hb2).trans e0; clear hSw; go_simp <;> with_reducible rfl
        try simp only [Act.put, List.setIfInBounds_toArray, List.set_cons_zero, List.set_cons_succ]
        refine wpAnyH_take (i := 12) (oi := { dst := some 39, op := Go.Op.binOp Go.BinOp.neq 4 (Go.Operand.tmp 32) (Go.Operand.tmp 38) 4, type := 4, pos := "ref.go:352", after := #[{ on := 5, ground := Go.Ground.data }, { on := 11, ground := Go.Ground.data }], guard := none }) (v := .bool false) rfl (by kernel_rfl) (by kernel_rfl) (by kernel_rfl) (fun _ _ _ h => h) (Or.inl ⟨by rfl, ?_⟩) hHeld ?_
        skip
        · intro w hSw; go_simp <;> first | with_reducible rfl | simp
        try simp only [Act.put, List.setIfInBounds_toArray, List.set_cons_zero, List.set_cons_succ]
        refine wpAnyH_take (i := 13) (oi := { dst := some 40, op := Go.Op.move (Go.Operand.tmp 39), type := 4, pos := "ref.go:352", after := #[{ on := 12, ground := Go.Ground.data }], guard := none }) (v := .bool false) rfl (by kernel_rfl) (by kernel_rfl) (by kernel_rfl) (fun _ _ _ h => h) (Or.inl ⟨by rfl, ?_⟩) hHeld ?_
        skip
        · intro w hSw; (try dsimp only at hSw); go_simp <;> with_reducible rfl
        try simp only [Act.put, List.setIfInBounds_toArray, List.set_cons_zero, List.set_cons_succ]
        refine wpAnyH_take (i := 14) (oi := { dst := some 41, op := Go.Op.fieldAddr 32 (Go.Operand.tmp 2) 1, type := 0, pos := "ref.go:352", after := #[{ on := 13, ground := Go.Ground.guard }], guard := some (13, false) }) (v := ?_) rfl (by kernel_rfl) (by kernel_rfl) (by kernel_rfl) (fun _ _ _ h => h) (Or.inl ⟨by rfl, ?_⟩) hHeld ?_
        rotate_left
        · intro w hSw; (try dsimp only at hSw); go_simp <;> with_reducible rfl
        try simp only [Act.put, List.setIfInBounds_toArray, List.set_cons_zero, List.set_cons_succ]
        refine wpAnyH_take (i := 15) (oi := { dst := some 42, op := Go.Op.load 30 (Go.Operand.tmp 41), type := 30, pos := "ref.go:352", after := #[{ on := 14, ground := Go.Ground.data }, { on := 13, ground := Go.Ground.guard }], guard := some (13, false) }) (v := ?_) rfl (by kernel_rfl) (by kernel_rfl) (by kernel_rfl) (fun _ _ _ h => h) (Or.inl ⟨by rfl, ?_⟩) hHeld ?_
        rotate_left
        · intro w hSw; have xa := (hSw.cell (p := ⟨B0, 1, none⟩) hbA0).trans xa; clear hSw; go_simp <;> with_reducible rfl
        try simp only [Act.put, List.setIfInBounds_toArray, List.set_cons_zero, List.set_cons_succ]
        refine wpAnyH_take (i := 16) (oi := { dst := some 43, op := Go.Op.move (Go.Operand.tmp 5), type := 3, pos := "ref.go:352", after := #[{ on := 13, ground := Go.Ground.guard }], guard := some (13, false) }) (v := ?_) rfl (by kernel_rfl) (by kernel_rfl) (by kernel_rfl) (fun _ _ _ h => h) (Or.inl ⟨by rfl, ?_⟩) hHeld ?_
        rotate_left
        · intro w hSw; (try dsimp only at hSw); go_simp <;> with_reducible rfl
        try simp only [Act.put, List.setIfInBounds_toArray, List.set_cons_zero, List.set_cons_succ]
        refine wpAnyH_take (i := 17) (oi := { dst := some 44, op := Go.Op.indexAddr 30 (Go.Operand.tmp 42) (Go.Operand.tmp 43), type := 0, pos := "ref.go:352", after := #[{ on := 15, ground := Go.Ground.data }, { on := 16, ground := Go.Ground.data }, { on := 13, ground := Go.Ground.guard }], guard := some (13, false) }) (v := ?_) rfl (by kernel_rfl) (by kernel_rfl) (by kernel_rfl) (fun _ _ _ h => h) (Or.inl ⟨by rfl, ?_⟩) hHeld ?_
        rotate_left
        · intro w hSw; (try dsimp only at hSw); go_simp <;> with_reducible rfl
        try simp only [Act.put, List.setIfInBounds_toArray, List.set_cons_zero, List.set_cons_succ]
        refine wpAnyH_take (i := 18) (oi := { dst := some 45, op := Go.Op.fieldAddr 54 (Go.Operand.tmp 44) 1, type := 0, pos := "ref.go:352", after := #[{ on := 17, ground := Go.Ground.data }, { on := 13, ground := Go.Ground.guard }], guard := some (13, false) }) (v := ?_) rfl (by kernel_rfl) (by kernel_rfl) (by kernel_rfl) (fun _ _ _ h => h) (Or.inl ⟨by rfl, ?_⟩) hHeld ?_
        rotate_left
        · intro w hSw; (try dsimp only at hSw); go_simp <;> with_reducible rfl
        try simp only [Act.put, List.setIfInBounds_toArray, List.set_cons_zero, List.set_cons_succ]
        refine wpAnyH_take (i := 19) (oi := { dst := some 46, op := Go.Op.load 52 (Go.Operand.tmp 45), type := 52, pos := "ref.go:352", after := #[{ on := 18, ground := Go.Ground.data }, { on := 13, ground := Go.Ground.guard }], guard := some (13, false) }) (v := ?_) rfl (by kernel_rfl) (by kernel_rfl) (by kernel_rfl) (fun _ _ _ h => h) (Or.inl ⟨by rfl, ?_⟩) hHeld ?_
        rotate_left
        · intro w hSw; have y0 := (hSw.cell (p := ⟨b1, o1 + k * 2 + 1, none⟩) hb1).trans d1; clear hSw; go_simp <;> with_reducible rfl
        try simp only [Act.put, List.setIfInBounds_toArray, List.set_cons_zero, List.set_cons_succ]
        refine wpAnyH_take (i := 20) (oi := { dst := some 47, op := Go.Op.fieldAddr 32 (Go.Operand.tmp 3) 1, type := 0, pos := "ref.go:352", after := #[{ on := 13, ground := Go.Ground.guard }], guard := some (13, false) }) (v := ?_) rfl (by kernel_rfl) (by kernel_rfl) (by kernel_rfl) (fun _ _ _ h => h) (Or.inl ⟨by rfl, ?_⟩) hHeld ?_
        rotate_left
        · intro w hSw; (try dsimp only at hSw); go_simp <;> with_reducible rfl
        try simp only [Act.put, List.setIfInBounds_toArray, List.set_cons_zero, List.set_cons_succ]
        refine wpAnyH_take (i := 21) (oi := { dst := some 48, op := Go.Op.load 30 (Go.Operand.tmp 47), type := 30, pos := "ref.go:352", after := #[{ on := 20, ground := Go.Ground.data }, { on := 13, ground := Go.Ground.guard }], guard := some (13, false) }) (v := ?_) rfl (by kernel_rfl) (by kernel_rfl) (by kernel_rfl) (fun _ _ _ h => h) (Or.inl ⟨by rfl, ?_⟩) hHeld ?_
        rotate_left
        · intro w hSw; have xb := (hSw.cell (p := ⟨B0 + 1, 1, none⟩) hbB0).trans xb; clear hSw; go_simp <;> with_reducible rfl
        try simp only [Act.put, List.setIfInBounds_toArray, List.set_cons_zero, List.set_cons_succ]
        refine wpAnyH_take (i := 22) (oi := { dst := some 49, op := Go.Op.move (Go.Operand.tmp 5), type := 3, pos := "ref.go:352", after := #[{ on := 13, ground := Go.Ground.guard }], guard := some (13, false) }) (v := ?_) rfl (by kernel_rfl) (by kernel_rfl) (by kernel_rfl) (fun _ _ _ h => h) (Or.inl ⟨by rfl, ?_⟩) hHeld ?_
        rotate_left
        · intro w hSw; (try dsimp only at hSw); go_simp <;> with_reducible rfl
        try simp only [Act.put, List.setIfInBounds_toArray, List.set_cons_zero, List.set_cons_succ]
        refine wpAnyH_take (i := 23) (oi := { dst := some 50, op := Go.Op.indexAddr 30 (Go.Operand.tmp 48) (Go.Operand.tmp 49), type := 0, pos := "ref.go:352", after := #[{ on := 21, ground := Go.Ground.data }, { on := 22, ground := Go.Ground.data }, { on := 13, ground := Go.Ground.guard }], guard := some (13, false) }) (v := ?_) rfl (by kernel_rfl) (by kernel_rfl) (by kernel_rfl) (fun _ _ _ h => h) (Or.inl ⟨by rfl, ?_⟩) hHeld ?_
        rotate_left
        · intro w hSw; (try dsimp only at hSw); go_simp <;> with_reducible rfl
        try simp only [Act.put, List.setIfInBounds_toArray, List.set_cons_zero, List.set_cons_succ]
        refine wpAnyH_take (i := 24) (oi := { dst := some 51, op := Go.Op.fieldAddr 54 (Go.Operand.tmp 50) 1, type := 0, pos := "ref.go:352", after := #[{ on := 23, ground := Go.Ground.data }, { on := 13, ground := Go.Ground.guard }], guard := some (13, false) }) (v := ?_) rfl (by kernel_rfl) (by kernel_rfl) (by kernel_rfl) (fun _ _ _ h => h) (Or.inl ⟨by rfl, ?_⟩) hHeld ?_
        rotate_left
        · intro w hSw; (try dsimp only at hSw); go_simp <;> with_reducible rfl
        try simp only [Act.put, List.setIfInBounds_toArray, List.set_cons_zero, List.set_cons_succ]
        refine wpAnyH_take (i := 25) (oi := { dst := some 52, op := Go.Op.load 52 (Go.Operand.tmp 51), type := 52, pos := "ref.go:352", after := #[{ on := 24, ground := Go.Ground.data }, { on := 13, ground := Go.Ground.guard }], guard := some (13, false) }) (v := ?_) rfl (by kernel_rfl) (by kernel_rfl) (by kernel_rfl) (fun _ _ _ h => h) (Or.inl ⟨by rfl, ?_⟩) hHeld ?_
        rotate_left
        · intro w hSw; have y0 := (hSw.cell (p := ⟨b2, o2 + k * 2 + 1, none⟩) hb2).trans e1; clear hSw; go_simp <;> with_reducible rfl
        try simp only [Act.put, List.setIfInBounds_toArray, List.set_cons_zero, List.set_cons_succ]
        refine wpAnyH_ready (rs := [26]) (by kernel_rfl) (by simp) ?_
        refine AllReadyH.cons rfl (fun K hK => ?_) AllReadyH.nil
        go_simp
        refine kT.mono ?_
        clear kT
        rintro e wz ⟨rfl, hbz⟩
        have hBz := hB.trans (hbz.mono hB.size)
        clear hbz
        refine hK.out _ _ (hBz) (fun hHeld2 => ?_)
        clear hK K hHeld
        have hHeld := hHeld2
        clear hHeld2
        try simp only [Act.put, List.setIfInBounds_toArray, List.set_cons_zero, List.set_cons_succ]
        refine wpAnyH_take (i := 27) (oi := { dst := some 54, op := Go.Op.unOp Go.UnOp.not 4 (Go.Operand.tmp 53), type := 4, pos := "ref.go:352", after := #[{ on := 26, ground := Go.Ground.data }, { on := 13, ground := Go.Ground.guard }], guard := some (13, false) }) (v := ?_) rfl (by kernel_rfl) (by kernel_rfl) (by kernel_rfl) (fun _ _ _ h => h) (Or.inl ⟨by rfl, ?_⟩) hHeld ?_
        rotate_left
        · intro w hSw; (try dsimp only at hSw); go_simp <;> with_reducible rfl
        try simp only [Act.put, List.setIfInBounds_toArray, List.set_cons_zero, List.set_cons_succ]
        refine wpAnyH_take (i := 28) (oi := { dst := some 55, op := Go.Op.pick (Go.Operand.tmp 40) (Go.Operand.const (Go.Value.bool true)) (Go.Operand.tmp 54), type := 4, pos := "ref.go:352", after := #[{ on := 13, ground := Go.Ground.data }, { on := 27, ground := Go.Ground.data }], guard := none }) (v := ?_) rfl (by kernel_rfl) (by kernel_rfl) (by kernel_rfl) (fun _ _ _ h => h) (Or.inl ⟨by rfl, ?_⟩) hHeld ?_
        rotate_left
        · intro w hSw; (try dsimp only at hSw); go_simp <;> with_reducible rfl
        try simp only [Act.put, List.setIfInBounds_toArray, List.set_cons_zero, List.set_cons_succ]
        refine wpAnyH_done (by kernel_rfl) ?_ _
        have HBZ := hid (HBR.out.trans (hBz.mono HBR.out.size))
        clear hBz hB
        cases r with
        | true =>
          go_wp2
          go_roundw
          case rel => exact ⟨k + 1, by omega, by go_num, HS.out.2 ((ag_eq x y).1 ⟨HAR.out, of_decide_eq_true HR.out⟩), HBZ⟩
          case measure => simp [intOf]; omega
        | false =>
          have HF : Hid (l1 ≠ l2) := fun e => of_decide_eq_false HR.out ((ag_eq x y).2 (HS.out.1 (by rw [e]))).2
          go_wp2
          go_ret
          exact ⟨by simp [HF.out], by rw [HB0.out]; exact (HBB.out _ HBZ.out).1⟩
      · have HF : Hid (l1 ≠ l2) := fun e => hab (by rw [← har1, ← har2, HS.out.1 (by rw [e])])
        clear hr hm1 hm2 har1 har2 hx hy g1 g2 xs1 xs2 xka xkb xbb kT hB
        cases ar1 <;> cases ar2 <;> first
        | exact absurd rfl hab
        | (go_wp2
           go_quiet (fail)
           go_wp2
           go_ret
           exact ⟨by simp [HF.out], by rw [HB0.out]; exact (HBB.out _ (below_drewN HBR.out _)).1⟩)
    · have hlt' : ¬ (k : Int) < n1 := by omega
      obtain rfl : k = n1 := by omega
      have HT : Hid (l1 = l2) := take_eq_all HN.out.1 HN.out.2 HQ.out
      go_wp2
      go_ret
      exact ⟨by simp [HT.out], by rw [HB0.out]; exact (HBB.out _ HBR.out).1⟩
end Go.Proofs.YtpgecdhieakilaaGreatDoor
