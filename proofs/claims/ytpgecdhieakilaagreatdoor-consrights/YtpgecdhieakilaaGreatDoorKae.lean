/-
  What is proved here: the reference's rightTerm: which terms may stand where a letter stands.
-/
import Derived.Test.YtpgecdhieakilaaGreatDoorHaj
namespace Go.Proofs.YtpgecdhieakilaaGreatDoor
open Go.RowKit Go.Shelf
set_option linter.unusedVariables false
set_option linter.unusedSimpArgs false

set_option maxRecDepth 100000 in
set_option maxHeartbeats 4000000 in
theorem rterm_var73 (a : Option Addr) (n c : Nat) (bs : List Bool) (t : Tm) (sa : Option Addr) (sc : Nat) (W : World) (hb : Sb W (.slice a n c) bs) (hn : bs.length = n) (hv : t.v ≠ -1) :
    Calls Tryz.prog 53 #[.agg #[.int .i64 t.v, .bool t.set, .int .i64 t.n, .slice sa t.s.length sc], .int .u8 73, .slice a n c] W fun e w' => e = .returned (.bool (varB bs false t.v && zeroB t)) ∧ Below W.heap.size W w' := by
  have HZ : Hid (zeroB t = (!t.set && (decide (t.n = 0) && decide (t.s.length = 0)))) := rfl
  have HV : Hid (varB bs false t.v = (decide (0 ≤ t.v) && (match bs[t.v.toNat]? with | some x => x == false | none => false))) := rfl
  obtain ⟨rz, hrz⟩ : ∃ x, zeroB t = x := ⟨_, rfl⟩
  obtain ⟨rv, hrv⟩ : ∃ x, varB bs false t.v = x := ⟨_, rfl⟩
  obtain ⟨tv, htv⟩ : ∃ x, t.v = x := ⟨_, rfl⟩
  obtain ⟨ts, hts⟩ : ∃ x, t.set = x := ⟨_, rfl⟩
  obtain ⟨tn, htn⟩ : ∃ x, t.n = x := ⟨_, rfl⟩
  obtain ⟨sn, hsn⟩ : ∃ x, t.s.length = x := ⟨_, rfl⟩
  rw [hrz, hts, htn, hsn] at HZ
  rw [hrv, htv] at HV
  rw [htv] at hv
  rw [hrz, hrv, htv, hts, htn, hsn]
  clear hrz hrv htv hts htn hsn
  have hd1 : (tv != -1) = true := by simpa using hv
  have hd2 : (tv == -1) = false := by simpa using hv
  have hz : (ts = true ∧ rz = false) ∨ (ts = false ∧ tn ≠ 0 ∧ rz = false) ∨ (ts = false ∧ tn = 0 ∧ sn ≠ 0 ∧ rz = false) ∨ (ts = false ∧ tn = 0 ∧ sn = 0 ∧ rz = true) := by
    have hz1 := HZ.out
    cases ts
    · by_cases h1 : tn = 0
      · by_cases h2 : sn = 0
        · simp [h1, h2] at hz1; exact .inr (.inr (.inr ⟨rfl, h1, h2, hz1⟩))
        · simp [h1, h2] at hz1; exact .inr (.inr (.inl ⟨rfl, h1, h2, hz1⟩))
      · simp [h1] at hz1; exact .inr (.inl ⟨rfl, h1, hz1⟩)
    · simp at hz1; exact .inl ⟨rfl, hz1⟩
  have hx : (tv < 0 ∧ rv = false) ∨ (0 ≤ tv ∧ (n : Int) ≤ tv ∧ rv = false) ∨ (∃ k : Nat, tv = k ∧ k < n ∧ ∃ b off x, a = some ⟨b, off, none⟩ ∧ b < W.heap.size ∧ W.cell? ⟨b, off + k, none⟩ = some (.bool x) ∧ rv = (x == false)) := by
    have hv1 := HV.out
    by_cases h1 : tv < 0
    · rw [decide_eq_false (by omega)] at hv1; exact .inl ⟨h1, hv1⟩
    · rw [decide_eq_true (by omega)] at hv1
      by_cases h2 : tv.toNat < n
      · have hcast : tv = ((tv.toNat : Nat) : Int) := by omega
        have hpos : 0 < bs.length := by omega
        obtain ⟨x, hx⟩ : ∃ x, bs[tv.toNat]? = some x := ⟨_, List.getElem?_eq_getElem (by omega)⟩
        rw [hx] at hv1
        obtain ⟨a', c', e, hb'⟩ := hb
        injection e with e1 e2 e3
        subst e1
        obtain ⟨b, off, e1, e2, e3⟩ := hb' hpos
        exact .inr (.inr ⟨tv.toNat, hcast, h2, b, off, x, e1, e2, e3 _ x hx, by simpa using hv1⟩)
      · rw [List.getElem?_eq_none (by omega)] at hv1
        exact .inr (.inl ⟨by omega, by omega, by simpa using hv1⟩)
  clear HZ HV hb hn
  rcases hz with ⟨rfl, rfl⟩ | ⟨rfl, hn0, rfl⟩ | ⟨rfl, rfl, hs0, rfl⟩ | ⟨rfl, rfl, rfl, rfl⟩
  · rcases hx with ⟨h3, rfl⟩ | ⟨h3, h4, rfl⟩ | ⟨k, rfl, hk, b, off, x, rfl, hb, hc, rfl⟩
    · have h5 : ¬ 0 ≤ tv := by omega
      go_enter Tryz.func53, Tryz.ntmps53
      go_wp2
      go_ret
      exact ⟨rfl, ((Below.refl _ W).alloc (Nat.le_refl _) _).alloc (by simp) _⟩
    · have h5 : ¬ tv < n := by omega
      go_enter Tryz.func53, Tryz.ntmps53
      go_wp2
      go_ret
      exact ⟨rfl, ((Below.refl _ W).alloc (Nat.le_refl _) _).alloc (by simp) _⟩
    · have h5 : (0 : Int) ≤ k := by omega
      have h6 : (k : Int) < n := by omega
      have hcA : ∀ X, Below W.heap.size W X → X.cell? ⟨b, off + k, none⟩ = some (.bool x) := fun X hX => (hX.cell (p := ⟨b, off + k, none⟩) hb).trans hc
      have hc2 := hcA _ (((Below.refl _ W).alloc (Nat.le_refl _) (Obj.cells #[.int .i64 (k : Int), .bool true, .int .i64 tn, .slice sa sn sc] 46)).alloc (by simp) (Obj.cells #[.bool true, .int .i64 tn, .slice sa sn sc] 44))
      cases x <;>
      · go_enter Tryz.func53, Tryz.ntmps53
        go_wp2
        go_ret
        exact ⟨rfl, ((Below.refl _ W).alloc (Nat.le_refl _) _).alloc (by simp) _⟩
  · have hq1 : (tn == 0) = false := by simpa using hn0
    rcases hx with ⟨h3, rfl⟩ | ⟨h3, h4, rfl⟩ | ⟨k, rfl, hk, b, off, x, rfl, hb, hc, rfl⟩
    · have h5 : ¬ 0 ≤ tv := by omega
      go_enter Tryz.func53, Tryz.ntmps53
      go_wp2
      go_ret
      exact ⟨rfl, ((Below.refl _ W).alloc (Nat.le_refl _) _).alloc (by simp) _⟩
    · have h5 : ¬ tv < n := by omega
      go_enter Tryz.func53, Tryz.ntmps53
      go_wp2
      go_ret
      exact ⟨rfl, ((Below.refl _ W).alloc (Nat.le_refl _) _).alloc (by simp) _⟩
    · have h5 : (0 : Int) ≤ k := by omega
      have h6 : (k : Int) < n := by omega
      have hcA : ∀ X, Below W.heap.size W X → X.cell? ⟨b, off + k, none⟩ = some (.bool x) := fun X hX => (hX.cell (p := ⟨b, off + k, none⟩) hb).trans hc
      have hc2 := hcA _ (((Below.refl _ W).alloc (Nat.le_refl _) (Obj.cells #[.int .i64 (k : Int), .bool false, .int .i64 tn, .slice sa sn sc] 46)).alloc (by simp) (Obj.cells #[.bool false, .int .i64 tn, .slice sa sn sc] 44))
      cases x <;>
      · go_enter Tryz.func53, Tryz.ntmps53
        go_wp2
        go_ret
        exact ⟨rfl, ((Below.refl _ W).alloc (Nat.le_refl _) _).alloc (by simp) _⟩
  · have hq2 : ((sn : Int) == 0) = false := by simp; omega
    rcases hx with ⟨h3, rfl⟩ | ⟨h3, h4, rfl⟩ | ⟨k, rfl, hk, b, off, x, rfl, hb, hc, rfl⟩
    · have h5 : ¬ 0 ≤ tv := by omega
      go_enter Tryz.func53, Tryz.ntmps53
      go_wp2
      go_ret
      exact ⟨rfl, ((Below.refl _ W).alloc (Nat.le_refl _) _).alloc (by simp) _⟩
    · have h5 : ¬ tv < n := by omega
      go_enter Tryz.func53, Tryz.ntmps53
      go_wp2
      go_ret
      exact ⟨rfl, ((Below.refl _ W).alloc (Nat.le_refl _) _).alloc (by simp) _⟩
    · have h5 : (0 : Int) ≤ k := by omega
      have h6 : (k : Int) < n := by omega
      have hcA : ∀ X, Below W.heap.size W X → X.cell? ⟨b, off + k, none⟩ = some (.bool x) := fun X hX => (hX.cell (p := ⟨b, off + k, none⟩) hb).trans hc
      have hc2 := hcA _ (((Below.refl _ W).alloc (Nat.le_refl _) (Obj.cells #[.int .i64 (k : Int), .bool false, .int .i64 0, .slice sa sn sc] 46)).alloc (by simp) (Obj.cells #[.bool false, .int .i64 0, .slice sa sn sc] 44))
      cases x <;>
      · go_enter Tryz.func53, Tryz.ntmps53
        go_wp2
        go_ret
        exact ⟨rfl, ((Below.refl _ W).alloc (Nat.le_refl _) _).alloc (by simp) _⟩
  · rcases hx with ⟨h3, rfl⟩ | ⟨h3, h4, rfl⟩ | ⟨k, rfl, hk, b, off, x, rfl, hb, hc, rfl⟩
    · have h5 : ¬ 0 ≤ tv := by omega
      go_enter Tryz.func53, Tryz.ntmps53
      go_wp2
      go_ret
      exact ⟨rfl, ((Below.refl _ W).alloc (Nat.le_refl _) _).alloc (by simp) _⟩
    · have h5 : ¬ tv < n := by omega
      go_enter Tryz.func53, Tryz.ntmps53
      go_wp2
      go_ret
      exact ⟨rfl, ((Below.refl _ W).alloc (Nat.le_refl _) _).alloc (by simp) _⟩
    · have h5 : (0 : Int) ≤ k := by omega
      have h6 : (k : Int) < n := by omega
      have hcA : ∀ X, Below W.heap.size W X → X.cell? ⟨b, off + k, none⟩ = some (.bool x) := fun X hX => (hX.cell (p := ⟨b, off + k, none⟩) hb).trans hc
      have hc2 := hcA _ (((Below.refl _ W).alloc (Nat.le_refl _) (Obj.cells #[.int .i64 (k : Int), .bool false, .int .i64 0, .slice sa 0 sc] 46)).alloc (by simp) (Obj.cells #[.bool false, .int .i64 0, .slice sa 0 sc] 44))
      cases x <;>
      · go_enter Tryz.func53, Tryz.ntmps53
        go_wp2
        go_ret
        exact ⟨rfl, ((Below.refl _ W).alloc (Nat.le_refl _) _).alloc (by simp) _⟩

set_option maxRecDepth 100000 in
set_option maxHeartbeats 4000000 in
theorem rterm_var66 (a : Option Addr) (n c : Nat) (bs : List Bool) (t : Tm) (sa : Option Addr) (sc : Nat) (W : World) (hb : Sb W (.slice a n c) bs) (hn : bs.length = n) (hv : t.v ≠ -1) :
    Calls Tryz.prog 53 #[.agg #[.int .i64 t.v, .bool t.set, .int .i64 t.n, .slice sa t.s.length sc], .int .u8 66, .slice a n c] W fun e w' => e = .returned (.bool (varB bs false t.v && zeroB t)) ∧ Below W.heap.size W w' := by
  have HZ : Hid (zeroB t = (!t.set && (decide (t.n = 0) && decide (t.s.length = 0)))) := rfl
  have HV : Hid (varB bs false t.v = (decide (0 ≤ t.v) && (match bs[t.v.toNat]? with | some x => x == false | none => false))) := rfl
  obtain ⟨rz, hrz⟩ : ∃ x, zeroB t = x := ⟨_, rfl⟩
  obtain ⟨rv, hrv⟩ : ∃ x, varB bs false t.v = x := ⟨_, rfl⟩
  obtain ⟨tv, htv⟩ : ∃ x, t.v = x := ⟨_, rfl⟩
  obtain ⟨ts, hts⟩ : ∃ x, t.set = x := ⟨_, rfl⟩
  obtain ⟨tn, htn⟩ : ∃ x, t.n = x := ⟨_, rfl⟩
  obtain ⟨sn, hsn⟩ : ∃ x, t.s.length = x := ⟨_, rfl⟩
  rw [hrz, hts, htn, hsn] at HZ
  rw [hrv, htv] at HV
  rw [htv] at hv
  rw [hrz, hrv, htv, hts, htn, hsn]
  clear hrz hrv htv hts htn hsn
  have hd1 : (tv != -1) = true := by simpa using hv
  have hd2 : (tv == -1) = false := by simpa using hv
  have hz : (ts = true ∧ rz = false) ∨ (ts = false ∧ tn ≠ 0 ∧ rz = false) ∨ (ts = false ∧ tn = 0 ∧ sn ≠ 0 ∧ rz = false) ∨ (ts = false ∧ tn = 0 ∧ sn = 0 ∧ rz = true) := by
    have hz1 := HZ.out
    cases ts
    · by_cases h1 : tn = 0
      · by_cases h2 : sn = 0
        · simp [h1, h2] at hz1; exact .inr (.inr (.inr ⟨rfl, h1, h2, hz1⟩))
        · simp [h1, h2] at hz1; exact .inr (.inr (.inl ⟨rfl, h1, h2, hz1⟩))
      · simp [h1] at hz1; exact .inr (.inl ⟨rfl, h1, hz1⟩)
    · simp at hz1; exact .inl ⟨rfl, hz1⟩
  have hx : (tv < 0 ∧ rv = false) ∨ (0 ≤ tv ∧ (n : Int) ≤ tv ∧ rv = false) ∨ (∃ k : Nat, tv = k ∧ k < n ∧ ∃ b off x, a = some ⟨b, off, none⟩ ∧ b < W.heap.size ∧ W.cell? ⟨b, off + k, none⟩ = some (.bool x) ∧ rv = (x == false)) := by
    have hv1 := HV.out
    by_cases h1 : tv < 0
    · rw [decide_eq_false (by omega)] at hv1; exact .inl ⟨h1, hv1⟩
    · rw [decide_eq_true (by omega)] at hv1
      by_cases h2 : tv.toNat < n
      · have hcast : tv = ((tv.toNat : Nat) : Int) := by omega
        have hpos : 0 < bs.length := by omega
        obtain ⟨x, hx⟩ : ∃ x, bs[tv.toNat]? = some x := ⟨_, List.getElem?_eq_getElem (by omega)⟩
        rw [hx] at hv1
        obtain ⟨a', c', e, hb'⟩ := hb
        injection e with e1 e2 e3
        subst e1
        obtain ⟨b, off, e1, e2, e3⟩ := hb' hpos
        exact .inr (.inr ⟨tv.toNat, hcast, h2, b, off, x, e1, e2, e3 _ x hx, by simpa using hv1⟩)
      · rw [List.getElem?_eq_none (by omega)] at hv1
        exact .inr (.inl ⟨by omega, by omega, by simpa using hv1⟩)
  clear HZ HV hb hn
  rcases hz with ⟨rfl, rfl⟩ | ⟨rfl, hn0, rfl⟩ | ⟨rfl, rfl, hs0, rfl⟩ | ⟨rfl, rfl, rfl, rfl⟩
  · rcases hx with ⟨h3, rfl⟩ | ⟨h3, h4, rfl⟩ | ⟨k, rfl, hk, b, off, x, rfl, hb, hc, rfl⟩
    · have h5 : ¬ 0 ≤ tv := by omega
      go_enter Tryz.func53, Tryz.ntmps53
      go_wp2
      go_ret
      exact ⟨rfl, ((Below.refl _ W).alloc (Nat.le_refl _) _).alloc (by simp) _⟩
    · have h5 : ¬ tv < n := by omega
      go_enter Tryz.func53, Tryz.ntmps53
      go_wp2
      go_ret
      exact ⟨rfl, ((Below.refl _ W).alloc (Nat.le_refl _) _).alloc (by simp) _⟩
    · have h5 : (0 : Int) ≤ k := by omega
      have h6 : (k : Int) < n := by omega
      have hcA : ∀ X, Below W.heap.size W X → X.cell? ⟨b, off + k, none⟩ = some (.bool x) := fun X hX => (hX.cell (p := ⟨b, off + k, none⟩) hb).trans hc
      have hc2 := hcA _ (((Below.refl _ W).alloc (Nat.le_refl _) (Obj.cells #[.int .i64 (k : Int), .bool true, .int .i64 tn, .slice sa sn sc] 46)).alloc (by simp) (Obj.cells #[.bool true, .int .i64 tn, .slice sa sn sc] 44))
      cases x <;>
      · go_enter Tryz.func53, Tryz.ntmps53
        go_wp2
        go_ret
        exact ⟨rfl, ((Below.refl _ W).alloc (Nat.le_refl _) _).alloc (by simp) _⟩
  · have hq1 : (tn == 0) = false := by simpa using hn0
    rcases hx with ⟨h3, rfl⟩ | ⟨h3, h4, rfl⟩ | ⟨k, rfl, hk, b, off, x, rfl, hb, hc, rfl⟩
    · have h5 : ¬ 0 ≤ tv := by omega
      go_enter Tryz.func53, Tryz.ntmps53
      go_wp2
      go_ret
      exact ⟨rfl, ((Below.refl _ W).alloc (Nat.le_refl _) _).alloc (by simp) _⟩
    · have h5 : ¬ tv < n := by omega
      go_enter Tryz.func53, Tryz.ntmps53
      go_wp2
      go_ret
      exact ⟨rfl, ((Below.refl _ W).alloc (Nat.le_refl _) _).alloc (by simp) _⟩
    · have h5 : (0 : Int) ≤ k := by omega
      have h6 : (k : Int) < n := by omega
      have hcA : ∀ X, Below W.heap.size W X → X.cell? ⟨b, off + k, none⟩ = some (.bool x) := fun X hX => (hX.cell (p := ⟨b, off + k, none⟩) hb).trans hc
      have hc2 := hcA _ (((Below.refl _ W).alloc (Nat.le_refl _) (Obj.cells #[.int .i64 (k : Int), .bool false, .int .i64 tn, .slice sa sn sc] 46)).alloc (by simp) (Obj.cells #[.bool false, .int .i64 tn, .slice sa sn sc] 44))
      cases x <;>
      · go_enter Tryz.func53, Tryz.ntmps53
        go_wp2
        go_ret
        exact ⟨rfl, ((Below.refl _ W).alloc (Nat.le_refl _) _).alloc (by simp) _⟩
  · have hq2 : ((sn : Int) == 0) = false := by simp; omega
    rcases hx with ⟨h3, rfl⟩ | ⟨h3, h4, rfl⟩ | ⟨k, rfl, hk, b, off, x, rfl, hb, hc, rfl⟩
    · have h5 : ¬ 0 ≤ tv := by omega
      go_enter Tryz.func53, Tryz.ntmps53
      go_wp2
      go_ret
      exact ⟨rfl, ((Below.refl _ W).alloc (Nat.le_refl _) _).alloc (by simp) _⟩
    · have h5 : ¬ tv < n := by omega
      go_enter Tryz.func53, Tryz.ntmps53
      go_wp2
      go_ret
      exact ⟨rfl, ((Below.refl _ W).alloc (Nat.le_refl _) _).alloc (by simp) _⟩
    · have h5 : (0 : Int) ≤ k := by omega
      have h6 : (k : Int) < n := by omega
      have hcA : ∀ X, Below W.heap.size W X → X.cell? ⟨b, off + k, none⟩ = some (.bool x) := fun X hX => (hX.cell (p := ⟨b, off + k, none⟩) hb).trans hc
      have hc2 := hcA _ (((Below.refl _ W).alloc (Nat.le_refl _) (Obj.cells #[.int .i64 (k : Int), .bool false, .int .i64 0, .slice sa sn sc] 46)).alloc (by simp) (Obj.cells #[.bool false, .int .i64 0, .slice sa sn sc] 44))
      cases x <;>
      · go_enter Tryz.func53, Tryz.ntmps53
        go_wp2
        go_ret
        exact ⟨rfl, ((Below.refl _ W).alloc (Nat.le_refl _) _).alloc (by simp) _⟩
  · rcases hx with ⟨h3, rfl⟩ | ⟨h3, h4, rfl⟩ | ⟨k, rfl, hk, b, off, x, rfl, hb, hc, rfl⟩
    · have h5 : ¬ 0 ≤ tv := by omega
      go_enter Tryz.func53, Tryz.ntmps53
      go_wp2
      go_ret
      exact ⟨rfl, ((Below.refl _ W).alloc (Nat.le_refl _) _).alloc (by simp) _⟩
    · have h5 : ¬ tv < n := by omega
      go_enter Tryz.func53, Tryz.ntmps53
      go_wp2
      go_ret
      exact ⟨rfl, ((Below.refl _ W).alloc (Nat.le_refl _) _).alloc (by simp) _⟩
    · have h5 : (0 : Int) ≤ k := by omega
      have h6 : (k : Int) < n := by omega
      have hcA : ∀ X, Below W.heap.size W X → X.cell? ⟨b, off + k, none⟩ = some (.bool x) := fun X hX => (hX.cell (p := ⟨b, off + k, none⟩) hb).trans hc
      have hc2 := hcA _ (((Below.refl _ W).alloc (Nat.le_refl _) (Obj.cells #[.int .i64 (k : Int), .bool false, .int .i64 0, .slice sa 0 sc] 46)).alloc (by simp) (Obj.cells #[.bool false, .int .i64 0, .slice sa 0 sc] 44))
      cases x <;>
      · go_enter Tryz.func53, Tryz.ntmps53
        go_wp2
        go_ret
        exact ⟨rfl, ((Below.refl _ W).alloc (Nat.le_refl _) _).alloc (by simp) _⟩

set_option maxRecDepth 100000 in
set_option maxHeartbeats 4000000 in
theorem rterm_var83 (a : Option Addr) (n c : Nat) (bs : List Bool) (t : Tm) (sa : Option Addr) (sc : Nat) (W : World) (hb : Sb W (.slice a n c) bs) (hn : bs.length = n) (hv : t.v ≠ -1) :
    Calls Tryz.prog 53 #[.agg #[.int .i64 t.v, .bool t.set, .int .i64 t.n, .slice sa t.s.length sc], .int .u8 83, .slice a n c] W fun e w' => e = .returned (.bool (varB bs true t.v && zeroB t)) ∧ Below W.heap.size W w' := by
  have HZ : Hid (zeroB t = (!t.set && (decide (t.n = 0) && decide (t.s.length = 0)))) := rfl
  have HV : Hid (varB bs true t.v = (decide (0 ≤ t.v) && (match bs[t.v.toNat]? with | some x => x == true | none => false))) := rfl
  obtain ⟨rz, hrz⟩ : ∃ x, zeroB t = x := ⟨_, rfl⟩
  obtain ⟨rv, hrv⟩ : ∃ x, varB bs true t.v = x := ⟨_, rfl⟩
  obtain ⟨tv, htv⟩ : ∃ x, t.v = x := ⟨_, rfl⟩
  obtain ⟨ts, hts⟩ : ∃ x, t.set = x := ⟨_, rfl⟩
  obtain ⟨tn, htn⟩ : ∃ x, t.n = x := ⟨_, rfl⟩
  obtain ⟨sn, hsn⟩ : ∃ x, t.s.length = x := ⟨_, rfl⟩
  rw [hrz, hts, htn, hsn] at HZ
  rw [hrv, htv] at HV
  rw [htv] at hv
  rw [hrz, hrv, htv, hts, htn, hsn]
  clear hrz hrv htv hts htn hsn
  have hd1 : (tv != -1) = true := by simpa using hv
  have hd2 : (tv == -1) = false := by simpa using hv
  have hz : (ts = true ∧ rz = false) ∨ (ts = false ∧ tn ≠ 0 ∧ rz = false) ∨ (ts = false ∧ tn = 0 ∧ sn ≠ 0 ∧ rz = false) ∨ (ts = false ∧ tn = 0 ∧ sn = 0 ∧ rz = true) := by
    have hz1 := HZ.out
    cases ts
    · by_cases h1 : tn = 0
      · by_cases h2 : sn = 0
        · simp [h1, h2] at hz1; exact .inr (.inr (.inr ⟨rfl, h1, h2, hz1⟩))
        · simp [h1, h2] at hz1; exact .inr (.inr (.inl ⟨rfl, h1, h2, hz1⟩))
      · simp [h1] at hz1; exact .inr (.inl ⟨rfl, h1, hz1⟩)
    · simp at hz1; exact .inl ⟨rfl, hz1⟩
  have hx : (tv < 0 ∧ rv = false) ∨ (0 ≤ tv ∧ (n : Int) ≤ tv ∧ rv = false) ∨ (∃ k : Nat, tv = k ∧ k < n ∧ ∃ b off x, a = some ⟨b, off, none⟩ ∧ b < W.heap.size ∧ W.cell? ⟨b, off + k, none⟩ = some (.bool x) ∧ rv = (x == true)) := by
    have hv1 := HV.out
    by_cases h1 : tv < 0
    · rw [decide_eq_false (by omega)] at hv1; exact .inl ⟨h1, hv1⟩
    · rw [decide_eq_true (by omega)] at hv1
      by_cases h2 : tv.toNat < n
      · have hcast : tv = ((tv.toNat : Nat) : Int) := by omega
        have hpos : 0 < bs.length := by omega
        obtain ⟨x, hx⟩ : ∃ x, bs[tv.toNat]? = some x := ⟨_, List.getElem?_eq_getElem (by omega)⟩
        rw [hx] at hv1
        obtain ⟨a', c', e, hb'⟩ := hb
        injection e with e1 e2 e3
        subst e1
        obtain ⟨b, off, e1, e2, e3⟩ := hb' hpos
        exact .inr (.inr ⟨tv.toNat, hcast, h2, b, off, x, e1, e2, e3 _ x hx, by simpa using hv1⟩)
      · rw [List.getElem?_eq_none (by omega)] at hv1
        exact .inr (.inl ⟨by omega, by omega, by simpa using hv1⟩)
  clear HZ HV hb hn
  rcases hz with ⟨rfl, rfl⟩ | ⟨rfl, hn0, rfl⟩ | ⟨rfl, rfl, hs0, rfl⟩ | ⟨rfl, rfl, rfl, rfl⟩
  · rcases hx with ⟨h3, rfl⟩ | ⟨h3, h4, rfl⟩ | ⟨k, rfl, hk, b, off, x, rfl, hb, hc, rfl⟩
    · have h5 : ¬ 0 ≤ tv := by omega
      go_enter Tryz.func53, Tryz.ntmps53
      go_wp2
      go_ret
      exact ⟨rfl, ((Below.refl _ W).alloc (Nat.le_refl _) _).alloc (by simp) _⟩
    · have h5 : ¬ tv < n := by omega
      go_enter Tryz.func53, Tryz.ntmps53
      go_wp2
      go_ret
      exact ⟨rfl, ((Below.refl _ W).alloc (Nat.le_refl _) _).alloc (by simp) _⟩
    · have h5 : (0 : Int) ≤ k := by omega
      have h6 : (k : Int) < n := by omega
      have hcA : ∀ X, Below W.heap.size W X → X.cell? ⟨b, off + k, none⟩ = some (.bool x) := fun X hX => (hX.cell (p := ⟨b, off + k, none⟩) hb).trans hc
      have hc2 := hcA _ (((Below.refl _ W).alloc (Nat.le_refl _) (Obj.cells #[.int .i64 (k : Int), .bool true, .int .i64 tn, .slice sa sn sc] 46)).alloc (by simp) (Obj.cells #[.bool true, .int .i64 tn, .slice sa sn sc] 44))
      cases x <;>
      · go_enter Tryz.func53, Tryz.ntmps53
        go_wp2
        go_ret
        exact ⟨rfl, ((Below.refl _ W).alloc (Nat.le_refl _) _).alloc (by simp) _⟩
  · have hq1 : (tn == 0) = false := by simpa using hn0
    rcases hx with ⟨h3, rfl⟩ | ⟨h3, h4, rfl⟩ | ⟨k, rfl, hk, b, off, x, rfl, hb, hc, rfl⟩
    · have h5 : ¬ 0 ≤ tv := by omega
      go_enter Tryz.func53, Tryz.ntmps53
      go_wp2
      go_ret
      exact ⟨rfl, ((Below.refl _ W).alloc (Nat.le_refl _) _).alloc (by simp) _⟩
    · have h5 : ¬ tv < n := by omega
      go_enter Tryz.func53, Tryz.ntmps53
      go_wp2
      go_ret
      exact ⟨rfl, ((Below.refl _ W).alloc (Nat.le_refl _) _).alloc (by simp) _⟩
    · have h5 : (0 : Int) ≤ k := by omega
      have h6 : (k : Int) < n := by omega
      have hcA : ∀ X, Below W.heap.size W X → X.cell? ⟨b, off + k, none⟩ = some (.bool x) := fun X hX => (hX.cell (p := ⟨b, off + k, none⟩) hb).trans hc
      have hc2 := hcA _ (((Below.refl _ W).alloc (Nat.le_refl _) (Obj.cells #[.int .i64 (k : Int), .bool false, .int .i64 tn, .slice sa sn sc] 46)).alloc (by simp) (Obj.cells #[.bool false, .int .i64 tn, .slice sa sn sc] 44))
      cases x <;>
      · go_enter Tryz.func53, Tryz.ntmps53
        go_wp2
        go_ret
        exact ⟨rfl, ((Below.refl _ W).alloc (Nat.le_refl _) _).alloc (by simp) _⟩
  · have hq2 : ((sn : Int) == 0) = false := by simp; omega
    rcases hx with ⟨h3, rfl⟩ | ⟨h3, h4, rfl⟩ | ⟨k, rfl, hk, b, off, x, rfl, hb, hc, rfl⟩
    · have h5 : ¬ 0 ≤ tv := by omega
      go_enter Tryz.func53, Tryz.ntmps53
      go_wp2
      go_ret
      exact ⟨rfl, ((Below.refl _ W).alloc (Nat.le_refl _) _).alloc (by simp) _⟩
    · have h5 : ¬ tv < n := by omega
      go_enter Tryz.func53, Tryz.ntmps53
      go_wp2
      go_ret
      exact ⟨rfl, ((Below.refl _ W).alloc (Nat.le_refl _) _).alloc (by simp) _⟩
    · have h5 : (0 : Int) ≤ k := by omega
      have h6 : (k : Int) < n := by omega
      have hcA : ∀ X, Below W.heap.size W X → X.cell? ⟨b, off + k, none⟩ = some (.bool x) := fun X hX => (hX.cell (p := ⟨b, off + k, none⟩) hb).trans hc
      have hc2 := hcA _ (((Below.refl _ W).alloc (Nat.le_refl _) (Obj.cells #[.int .i64 (k : Int), .bool false, .int .i64 0, .slice sa sn sc] 46)).alloc (by simp) (Obj.cells #[.bool false, .int .i64 0, .slice sa sn sc] 44))
      cases x <;>
      · go_enter Tryz.func53, Tryz.ntmps53
        go_wp2
        go_ret
        exact ⟨rfl, ((Below.refl _ W).alloc (Nat.le_refl _) _).alloc (by simp) _⟩
  · rcases hx with ⟨h3, rfl⟩ | ⟨h3, h4, rfl⟩ | ⟨k, rfl, hk, b, off, x, rfl, hb, hc, rfl⟩
    · have h5 : ¬ 0 ≤ tv := by omega
      go_enter Tryz.func53, Tryz.ntmps53
      go_wp2
      go_ret
      exact ⟨rfl, ((Below.refl _ W).alloc (Nat.le_refl _) _).alloc (by simp) _⟩
    · have h5 : ¬ tv < n := by omega
      go_enter Tryz.func53, Tryz.ntmps53
      go_wp2
      go_ret
      exact ⟨rfl, ((Below.refl _ W).alloc (Nat.le_refl _) _).alloc (by simp) _⟩
    · have h5 : (0 : Int) ≤ k := by omega
      have h6 : (k : Int) < n := by omega
      have hcA : ∀ X, Below W.heap.size W X → X.cell? ⟨b, off + k, none⟩ = some (.bool x) := fun X hX => (hX.cell (p := ⟨b, off + k, none⟩) hb).trans hc
      have hc2 := hcA _ (((Below.refl _ W).alloc (Nat.le_refl _) (Obj.cells #[.int .i64 (k : Int), .bool false, .int .i64 0, .slice sa 0 sc] 46)).alloc (by simp) (Obj.cells #[.bool false, .int .i64 0, .slice sa 0 sc] 44))
      cases x <;>
      · go_enter Tryz.func53, Tryz.ntmps53
        go_wp2
        go_ret
        exact ⟨rfl, ((Below.refl _ W).alloc (Nat.le_refl _) _).alloc (by simp) _⟩

set_option maxRecDepth 100000 in
set_option maxHeartbeats 4000000 in
theorem rterm_no105 (a : Option Addr) (n c : Nat) (t : Tm) (sa : Option Addr) (sc : Nat) (W : World) (hv : t.v ≠ -1) :
    Calls Tryz.prog 53 #[.agg #[.int .i64 t.v, .bool t.set, .int .i64 t.n, .slice sa t.s.length sc], .int .u8 105, .slice a n c] W fun e w' => e = .returned (.bool false) ∧ Below W.heap.size W w' := by
  obtain ⟨tv, htv⟩ : ∃ x, t.v = x := ⟨_, rfl⟩
  obtain ⟨ts, hts⟩ : ∃ x, t.set = x := ⟨_, rfl⟩
  obtain ⟨tn, htn⟩ : ∃ x, t.n = x := ⟨_, rfl⟩
  obtain ⟨sn, hsn⟩ : ∃ x, t.s.length = x := ⟨_, rfl⟩
  rw [htv] at hv
  rw [htv, hts, htn, hsn]
  clear htv hts htn hsn
  have hd1 : (tv != -1) = true := by simpa using hv
  have hd2 : (tv == -1) = false := by simpa using hv
  go_enter Tryz.func53, Tryz.ntmps53
  go_wp2
  go_ret
  exact ⟨rfl, ((Below.refl _ W).alloc (Nat.le_refl _) _).alloc (by simp) _⟩

set_option maxRecDepth 100000 in
set_option maxHeartbeats 4000000 in
theorem rterm_no98 (a : Option Addr) (n c : Nat) (t : Tm) (sa : Option Addr) (sc : Nat) (W : World) (hv : t.v ≠ -1) :
    Calls Tryz.prog 53 #[.agg #[.int .i64 t.v, .bool t.set, .int .i64 t.n, .slice sa t.s.length sc], .int .u8 98, .slice a n c] W fun e w' => e = .returned (.bool false) ∧ Below W.heap.size W w' := by
  obtain ⟨tv, htv⟩ : ∃ x, t.v = x := ⟨_, rfl⟩
  obtain ⟨ts, hts⟩ : ∃ x, t.set = x := ⟨_, rfl⟩
  obtain ⟨tn, htn⟩ : ∃ x, t.n = x := ⟨_, rfl⟩
  obtain ⟨sn, hsn⟩ : ∃ x, t.s.length = x := ⟨_, rfl⟩
  rw [htv] at hv
  rw [htv, hts, htn, hsn]
  clear htv hts htn hsn
  have hd1 : (tv != -1) = true := by simpa using hv
  have hd2 : (tv == -1) = false := by simpa using hv
  go_enter Tryz.func53, Tryz.ntmps53
  go_wp2
  go_ret
  exact ⟨rfl, ((Below.refl _ W).alloc (Nat.le_refl _) _).alloc (by simp) _⟩

set_option maxRecDepth 100000 in
set_option maxHeartbeats 4000000 in
theorem rterm_no115 (a : Option Addr) (n c : Nat) (t : Tm) (sa : Option Addr) (sc : Nat) (W : World) (hv : t.v ≠ -1) :
    Calls Tryz.prog 53 #[.agg #[.int .i64 t.v, .bool t.set, .int .i64 t.n, .slice sa t.s.length sc], .int .u8 115, .slice a n c] W fun e w' => e = .returned (.bool false) ∧ Below W.heap.size W w' := by
  obtain ⟨tv, htv⟩ : ∃ x, t.v = x := ⟨_, rfl⟩
  obtain ⟨ts, hts⟩ : ∃ x, t.set = x := ⟨_, rfl⟩
  obtain ⟨tn, htn⟩ : ∃ x, t.n = x := ⟨_, rfl⟩
  obtain ⟨sn, hsn⟩ : ∃ x, t.s.length = x := ⟨_, rfl⟩
  rw [htv] at hv
  rw [htv, hts, htn, hsn]
  clear htv hts htn hsn
  have hd1 : (tv != -1) = true := by simpa using hv
  have hd2 : (tv == -1) = false := by simpa using hv
  go_enter Tryz.func53, Tryz.ntmps53
  go_wp2
  go_ret
  exact ⟨rfl, ((Below.refl _ W).alloc (Nat.le_refl _) _).alloc (by simp) _⟩

set_option maxRecDepth 100000 in
set_option maxHeartbeats 4000000 in
theorem rterm_int105 (a : Option Addr) (n c : Nat) (t : Tm) (sa : Option Addr) (sc : Nat) (W : World) (hv : t.v = -1) :
    Calls Tryz.prog 53 #[.agg #[.int .i64 t.v, .bool t.set, .int .i64 t.n, .slice sa t.s.length sc], .int .u8 105, .slice a n c] W fun e w' => e = .returned (.bool (!t.set && (decide (t.s.length = 0) && (decide ((-1000000000) ≤ t.n) && decide (t.n ≤ 1000000000))))) ∧ Below W.heap.size W w' := by
  rw [hv]
  obtain ⟨ts, hts⟩ : ∃ x, t.set = x := ⟨_, rfl⟩
  obtain ⟨tn, htn⟩ : ∃ x, t.n = x := ⟨_, rfl⟩
  obtain ⟨sn, hsn⟩ : ∃ x, t.s.length = x := ⟨_, rfl⟩
  rw [hts, htn, hsn]
  clear hts htn hsn hv
  cases ts with
  | true =>
    go_enter Tryz.func53, Tryz.ntmps53
    go_wp2
    go_ret
    exact ⟨rfl, ((Below.refl _ W).alloc (Nat.le_refl _) _).alloc (by simp) _⟩
  | false =>
    by_cases h1 : sn = 0
    · subst h1
      by_cases h2 : (-1000000000) ≤ tn
      · by_cases h3 : tn ≤ 1000000000
        · go_enter Tryz.func53, Tryz.ntmps53
          go_wp2
          go_ret
          exact ⟨by simp [h2, h3], ((Below.refl _ W).alloc (Nat.le_refl _) _).alloc (by simp) _⟩
        · go_enter Tryz.func53, Tryz.ntmps53
          go_wp2
          go_ret
          exact ⟨by simp [h2, h3], ((Below.refl _ W).alloc (Nat.le_refl _) _).alloc (by simp) _⟩
      · go_enter Tryz.func53, Tryz.ntmps53
        go_wp2
        go_ret
        exact ⟨by (simp [h2]; try omega), ((Below.refl _ W).alloc (Nat.le_refl _) _).alloc (by simp) _⟩
    · have hq1 : 0 < sn := by omega
      go_enter Tryz.func53, Tryz.ntmps53
      go_wp2
      go_ret
      exact ⟨by simp [h1], ((Below.refl _ W).alloc (Nat.le_refl _) _).alloc (by simp) _⟩

set_option maxRecDepth 100000 in
set_option maxHeartbeats 4000000 in
theorem rterm_int73 (a : Option Addr) (n c : Nat) (t : Tm) (sa : Option Addr) (sc : Nat) (W : World) (hv : t.v = -1) :
    Calls Tryz.prog 53 #[.agg #[.int .i64 t.v, .bool t.set, .int .i64 t.n, .slice sa t.s.length sc], .int .u8 73, .slice a n c] W fun e w' => e = .returned (.bool (!t.set && (decide (t.s.length = 0) && (decide ((-1000000) ≤ t.n) && decide (t.n ≤ 1000000))))) ∧ Below W.heap.size W w' := by
  rw [hv]
  obtain ⟨ts, hts⟩ : ∃ x, t.set = x := ⟨_, rfl⟩
  obtain ⟨tn, htn⟩ : ∃ x, t.n = x := ⟨_, rfl⟩
  obtain ⟨sn, hsn⟩ : ∃ x, t.s.length = x := ⟨_, rfl⟩
  rw [hts, htn, hsn]
  clear hts htn hsn hv
  cases ts with
  | true =>
    go_enter Tryz.func53, Tryz.ntmps53
    go_wp2
    go_ret
    exact ⟨rfl, ((Below.refl _ W).alloc (Nat.le_refl _) _).alloc (by simp) _⟩
  | false =>
    by_cases h1 : sn = 0
    · subst h1
      by_cases h2 : (-1000000) ≤ tn
      · by_cases h3 : tn ≤ 1000000
        · go_enter Tryz.func53, Tryz.ntmps53
          go_wp2
          go_ret
          exact ⟨by simp [h2, h3], ((Below.refl _ W).alloc (Nat.le_refl _) _).alloc (by simp) _⟩
        · go_enter Tryz.func53, Tryz.ntmps53
          go_wp2
          go_ret
          exact ⟨by simp [h2, h3], ((Below.refl _ W).alloc (Nat.le_refl _) _).alloc (by simp) _⟩
      · go_enter Tryz.func53, Tryz.ntmps53
        go_wp2
        go_ret
        exact ⟨by (simp [h2]; try omega), ((Below.refl _ W).alloc (Nat.le_refl _) _).alloc (by simp) _⟩
    · have hq1 : 0 < sn := by omega
      go_enter Tryz.func53, Tryz.ntmps53
      go_wp2
      go_ret
      exact ⟨by simp [h1], ((Below.refl _ W).alloc (Nat.le_refl _) _).alloc (by simp) _⟩

set_option maxRecDepth 100000 in
set_option maxHeartbeats 4000000 in
theorem rterm_int98 (a : Option Addr) (n c : Nat) (t : Tm) (sa : Option Addr) (sc : Nat) (W : World) (hv : t.v = -1) :
    Calls Tryz.prog 53 #[.agg #[.int .i64 t.v, .bool t.set, .int .i64 t.n, .slice sa t.s.length sc], .int .u8 98, .slice a n c] W fun e w' => e = .returned (.bool (!t.set && (decide (t.s.length = 0) && (decide (0 ≤ t.n) && decide (t.n ≤ 1))))) ∧ Below W.heap.size W w' := by
  rw [hv]
  obtain ⟨ts, hts⟩ : ∃ x, t.set = x := ⟨_, rfl⟩
  obtain ⟨tn, htn⟩ : ∃ x, t.n = x := ⟨_, rfl⟩
  obtain ⟨sn, hsn⟩ : ∃ x, t.s.length = x := ⟨_, rfl⟩
  rw [hts, htn, hsn]
  clear hts htn hsn hv
  cases ts with
  | true =>
    go_enter Tryz.func53, Tryz.ntmps53
    go_wp2
    go_ret
    exact ⟨rfl, ((Below.refl _ W).alloc (Nat.le_refl _) _).alloc (by simp) _⟩
  | false =>
    by_cases h1 : sn = 0
    · subst h1
      by_cases h2 : tn = 0
      · subst h2
        go_enter Tryz.func53, Tryz.ntmps53
        go_wp2
        go_ret
        exact ⟨by simp, ((Below.refl _ W).alloc (Nat.le_refl _) _).alloc (by simp) _⟩
      · have hq1 : (tn == 0) = false := by simpa using h2
        by_cases h3 : tn = 1
        · subst h3
          go_enter Tryz.func53, Tryz.ntmps53
          go_wp2
          go_ret
          exact ⟨by simp, ((Below.refl _ W).alloc (Nat.le_refl _) _).alloc (by simp) _⟩
        · have hq2 : (tn == 1) = false := by simpa using h3
          have hE : (decide (0 ≤ tn) && decide (tn ≤ 1)) = false := by
            rw [← Bool.decide_and]; exact decide_eq_false (by omega)
          have HE : Hid _ := hE
          clear hE
          go_enter Tryz.func53, Tryz.ntmps53
          go_wp2
          go_ret
          exact ⟨by simp [HE.out], ((Below.refl _ W).alloc (Nat.le_refl _) _).alloc (by simp) _⟩
    · have hq1 : 0 < sn := by omega
      go_enter Tryz.func53, Tryz.ntmps53
      go_wp2
      go_ret
      exact ⟨by simp [h1], ((Below.refl _ W).alloc (Nat.le_refl _) _).alloc (by simp) _⟩

set_option maxRecDepth 100000 in
set_option maxHeartbeats 4000000 in
theorem rterm_int66 (a : Option Addr) (n c : Nat) (t : Tm) (sa : Option Addr) (sc : Nat) (W : World) (hv : t.v = -1) :
    Calls Tryz.prog 53 #[.agg #[.int .i64 t.v, .bool t.set, .int .i64 t.n, .slice sa t.s.length sc], .int .u8 66, .slice a n c] W fun e w' => e = .returned (.bool (!t.set && (decide (t.s.length = 0) && (decide (0 ≤ t.n) && decide (t.n ≤ 1))))) ∧ Below W.heap.size W w' := by
  rw [hv]
  obtain ⟨ts, hts⟩ : ∃ x, t.set = x := ⟨_, rfl⟩
  obtain ⟨tn, htn⟩ : ∃ x, t.n = x := ⟨_, rfl⟩
  obtain ⟨sn, hsn⟩ : ∃ x, t.s.length = x := ⟨_, rfl⟩
  rw [hts, htn, hsn]
  clear hts htn hsn hv
  cases ts with
  | true =>
    go_enter Tryz.func53, Tryz.ntmps53
    go_wp2
    go_ret
    exact ⟨rfl, ((Below.refl _ W).alloc (Nat.le_refl _) _).alloc (by simp) _⟩
  | false =>
    by_cases h1 : sn = 0
    · subst h1
      by_cases h2 : tn = 0
      · subst h2
        go_enter Tryz.func53, Tryz.ntmps53
        go_wp2
        go_ret
        exact ⟨by simp, ((Below.refl _ W).alloc (Nat.le_refl _) _).alloc (by simp) _⟩
      · have hq1 : (tn == 0) = false := by simpa using h2
        by_cases h3 : tn = 1
        · subst h3
          go_enter Tryz.func53, Tryz.ntmps53
          go_wp2
          go_ret
          exact ⟨by simp, ((Below.refl _ W).alloc (Nat.le_refl _) _).alloc (by simp) _⟩
        · have hq2 : (tn == 1) = false := by simpa using h3
          have hE : (decide (0 ≤ tn) && decide (tn ≤ 1)) = false := by
            rw [← Bool.decide_and]; exact decide_eq_false (by omega)
          have HE : Hid _ := hE
          clear hE
          go_enter Tryz.func53, Tryz.ntmps53
          go_wp2
          go_ret
          exact ⟨by simp [HE.out], ((Below.refl _ W).alloc (Nat.le_refl _) _).alloc (by simp) _⟩
    · have hq1 : 0 < sn := by omega
      go_enter Tryz.func53, Tryz.ntmps53
      go_wp2
      go_ret
      exact ⟨by simp [h1], ((Below.refl _ W).alloc (Nat.le_refl _) _).alloc (by simp) _⟩

set_option maxRecDepth 100000 in
set_option maxHeartbeats 4000000 in
theorem rterm_set115 {B : Nat} (a : Option Addr) (n c : Nat) (t : Tm) (sa : Option Addr) (sc : Nat) (W : World) (hv : t.v = -1) (hs : Si B W (.slice sa t.s.length sc) t.s) :
    Calls Tryz.prog 53 #[.agg #[.int .i64 t.v, .bool t.set, .int .i64 t.n, .slice sa t.s.length sc], .int .u8 115, .slice a n c] W fun e w' => e = .returned (.bool (t.set && (decide (t.n = 0) && isSB t.s))) ∧ Below W.heap.size W w' := by
  rw [hv]
  obtain ⟨sB, hsB⟩ : ∃ x, isSB t.s = x := ⟨_, rfl⟩
  have hIS : ∀ X, Below W.heap.size W X → Calls Tryz.prog 77 #[.slice sa t.s.length sc] X fun e w' => e = .returned (.bool sB) ∧ Below X.heap.size X w' := fun X hX => by rw [← hsB]; exact refset77 (hs.below hX)
  rw [hsB]
  clear hsB hs
  obtain ⟨ts, hts⟩ : ∃ x, t.set = x := ⟨_, rfl⟩
  obtain ⟨tn, htn⟩ : ∃ x, t.n = x := ⟨_, rfl⟩
  obtain ⟨sn, hsn⟩ : ∃ x, t.s.length = x := ⟨_, rfl⟩
  rw [hsn] at hIS
  rw [hts, htn, hsn]
  clear hts htn hsn hv
  have hbA : Below W.heap.size W ((W.alloc (Obj.cells #[.int .i64 (-1), .bool ts, .int .i64 tn, .slice sa sn sc] 46)).alloc (Obj.cells #[.bool ts, .int .i64 tn, .slice sa sn sc] 44)) := ((Below.refl _ W).alloc (Nat.le_refl _) _).alloc (by simp) _
  cases ts with
  | false =>
    clear hIS
    go_enter Tryz.func53, Tryz.ntmps53
    go_wp2
    go_ret
    exact ⟨by simp, hbA⟩
  | true =>
    by_cases h0 : tn = 0
    · subst h0
      have k := hIS _ hbA
      have HBA : Hid _ := hbA
      clear hbA hIS
      go_enter Tryz.func53, Tryz.ntmps53
      go_wp2_with fail
      refine k.mono ?_
      rintro e w1 ⟨rfl, hb1⟩
      have HB1 : Hid (Below W.heap.size W w1) := HBA.out.trans (hb1.mono (by simp; omega))
      clear hb1 k
      go_wp2
      go_ret
      exact ⟨by simp, HB1.out⟩
    · have hq1 : (tn == 0) = false := by simpa using h0
      clear hIS
      go_enter Tryz.func53, Tryz.ntmps53
      go_wp2
      go_ret
      exact ⟨by simp [h0], hbA⟩

set_option maxRecDepth 100000 in
set_option maxHeartbeats 4000000 in
theorem rterm_set83 {B : Nat} (a : Option Addr) (n c : Nat) (t : Tm) (sa : Option Addr) (sc : Nat) (W : World) (hv : t.v = -1) (hs : Si B W (.slice sa t.s.length sc) t.s) :
    Calls Tryz.prog 53 #[.agg #[.int .i64 t.v, .bool t.set, .int .i64 t.n, .slice sa t.s.length sc], .int .u8 83, .slice a n c] W fun e w' => e = .returned (.bool (t.set && (decide (t.n = 0) && isSB t.s))) ∧ Below W.heap.size W w' := by
  rw [hv]
  obtain ⟨sB, hsB⟩ : ∃ x, isSB t.s = x := ⟨_, rfl⟩
  have hIS : ∀ X, Below W.heap.size W X → Calls Tryz.prog 77 #[.slice sa t.s.length sc] X fun e w' => e = .returned (.bool sB) ∧ Below X.heap.size X w' := fun X hX => by rw [← hsB]; exact refset77 (hs.below hX)
  rw [hsB]
  clear hsB hs
  obtain ⟨ts, hts⟩ : ∃ x, t.set = x := ⟨_, rfl⟩
  obtain ⟨tn, htn⟩ : ∃ x, t.n = x := ⟨_, rfl⟩
  obtain ⟨sn, hsn⟩ : ∃ x, t.s.length = x := ⟨_, rfl⟩
  rw [hsn] at hIS
  rw [hts, htn, hsn]
  clear hts htn hsn hv
  have hbA : Below W.heap.size W ((W.alloc (Obj.cells #[.int .i64 (-1), .bool ts, .int .i64 tn, .slice sa sn sc] 46)).alloc (Obj.cells #[.bool ts, .int .i64 tn, .slice sa sn sc] 44)) := ((Below.refl _ W).alloc (Nat.le_refl _) _).alloc (by simp) _
  cases ts with
  | false =>
    clear hIS
    go_enter Tryz.func53, Tryz.ntmps53
    go_wp2
    go_ret
    exact ⟨by simp, hbA⟩
  | true =>
    by_cases h0 : tn = 0
    · subst h0
      have k := hIS _ hbA
      have HBA : Hid _ := hbA
      clear hbA hIS
      go_enter Tryz.func53, Tryz.ntmps53
      go_wp2_with fail
      refine k.mono ?_
      rintro e w1 ⟨rfl, hb1⟩
      have HB1 : Hid (Below W.heap.size W w1) := HBA.out.trans (hb1.mono (by simp; omega))
      clear hb1 k
      go_wp2
      go_ret
      exact ⟨by simp, HB1.out⟩
    · have hq1 : (tn == 0) = false := by simpa using h0
      clear hIS
      go_enter Tryz.func53, Tryz.ntmps53
      go_wp2
      go_ret
      exact ⟨by simp [h0], hbA⟩

/-- A term where a letter stands. -/
theorem rterm_any {B : Nat} {W : World} {a : Option Addr} {n c : Nat} {bs : List Bool} (hb : Sb W (.slice a n c) bs) (hn : bs.length = n) (x : UInt8) (hx : [x] ∈ six) (t : Tm) (sa : Option Addr) (sc : Nat) (hs : Si B W (.slice sa t.s.length sc) t.s) :
    Calls Tryz.prog 53 #[.agg #[.int .i64 t.v, .bool t.set, .int .i64 t.n, .slice sa t.s.length sc], .int .u8 (x.toNat : Int), .slice a n c] W fun e w' => e = .returned (.bool (takesP bs [x] t)) ∧ Below W.heap.size W w' := by
  have hx' : x = 105 ∨ x = 98 ∨ x = 115 ∨ x = 73 ∨ x = 66 ∨ x = 83 := by
    unfold six at hx
    simpa using hx
  by_cases hv : t.v = -1
  · rcases hx' with rfl | rfl | rfl | rfl | rfl | rfl
    · rw [show takesP bs [105] t = (!t.set && (decide (t.s.length = 0) && (decide ((-1000000000) ≤ t.n) && decide (t.n ≤ 1000000000)))) by simp [takesP, takesB, hv]]
      exact rterm_int105 a n c t sa sc W hv
    · rw [show takesP bs [98] t = (!t.set && (decide (t.s.length = 0) && (decide (0 ≤ t.n) && decide (t.n ≤ 1)))) by simp [takesP, takesB, hv]]
      exact rterm_int98 a n c t sa sc W hv
    · rw [show takesP bs [115] t = (t.set && (decide (t.n = 0) && isSB t.s)) by simp [takesP, takesB, hv]]
      exact rterm_set115 a n c t sa sc W hv hs
    · rw [show takesP bs [73] t = (!t.set && (decide (t.s.length = 0) && (decide ((-1000000) ≤ t.n) && decide (t.n ≤ 1000000)))) by simp [takesP, takesB, hv]]
      exact rterm_int73 a n c t sa sc W hv
    · rw [show takesP bs [66] t = (!t.set && (decide (t.s.length = 0) && (decide (0 ≤ t.n) && decide (t.n ≤ 1)))) by simp [takesP, takesB, hv]]
      exact rterm_int66 a n c t sa sc W hv
    · rw [show takesP bs [83] t = (t.set && (decide (t.n = 0) && isSB t.s)) by simp [takesP, takesB, hv]]
      exact rterm_set83 a n c t sa sc W hv hs
  · rcases hx' with rfl | rfl | rfl | rfl | rfl | rfl
    · rw [show takesP bs [105] t = false by simp [takesP, takesB, hv, varB]]
      exact rterm_no105 a n c t sa sc W hv
    · rw [show takesP bs [98] t = false by simp [takesP, takesB, hv, varB]]
      exact rterm_no98 a n c t sa sc W hv
    · rw [show takesP bs [115] t = false by simp [takesP, takesB, hv, varB]]
      exact rterm_no115 a n c t sa sc W hv
    · rw [show takesP bs [73] t = (varB bs false t.v && zeroB t) by simp [takesP, takesB, hv]]
      exact rterm_var73 a n c bs t sa sc W hb hn hv
    · rw [show takesP bs [66] t = (varB bs false t.v && zeroB t) by simp [takesP, takesB, hv]]
      exact rterm_var66 a n c bs t sa sc W hb hn hv
    · rw [show takesP bs [83] t = (varB bs true t.v && zeroB t) by simp [takesP, takesB, hv]]
      exact rterm_var83 a n c bs t sa sc W hb hn hv
end Go.Proofs.YtpgecdhieakilaaGreatDoor
