/-
  What is proved here: takes, of any term.
-/
import Derived.Test.YtaeobgajhieajaaGreatDoorEaj
import Derived.BigQuiet
namespace Go.Proofs.YtaeobgajhieajaaGreatDoor
open Go.RowKit Go.Shelf
set_option linter.unusedVariables false
set_option linter.unusedSimpArgs false

/-- Is a term's value zero? -/
def zeroB (t : Tm) : Bool := !t.set && (decide (t.n = 0) && decide (t.s.length = 0))
/-- Truths in memory. -/
def Sb (W : World) (s : Value) (l : List Bool) : Prop := ∃ a c, s = .slice a l.length c ∧ (0 < l.length → ∃ b off, a = some ⟨b, off, none⟩ ∧ b < W.heap.size ∧ ∀ i x, l[i]? = some x → W.cell? ⟨b, off + i, none⟩ = some (.bool x))
theorem Sb.below {W W' : World} {s : Value} {l : List Bool} (h : Sb W s l) (hb : Below W.heap.size W W') : Sb W' s l := by
  obtain ⟨a, c, e, h⟩ := h
  exact ⟨a, c, e, fun h0 => by obtain ⟨b, off, e1, e2, e3⟩ := h h0; exact ⟨b, off, e1, Nat.lt_of_lt_of_le e2 hb.size, fun i x hx => (hb.cell (p := ⟨b, off + i, none⟩) e2).trans (e3 i x hx)⟩⟩
/-- May a variable stand there? -/
def varB (bs : List Bool) (st : Bool) (v : Int) : Bool := decide (0 ≤ v) && (match bs[v.toNat]? with | some x => x == st | none => false)
def takesB (sB : List Int → Bool) (bs : List Bool) (st : Bool) (lo hi : Int) (t : Tm) : Bool :=
  if t.v = -1 then (if st then t.set && (decide (t.n = 0) && sB t.s) else !t.set && (decide (t.s.length = 0) && (decide (lo ≤ t.n) && decide (t.n ≤ hi))))
  else varB bs st t.v && zeroB t

set_option maxRecDepth 100000 in
set_option maxHeartbeats 4000000 in
theorem takes_var (a : Option Addr) (n c : Nat) (bs : List Bool) (st : Bool) (lo hi : Int) (t : Tm) (sa : Option Addr) (sc : Nat) (W : World) (hb : Sb W (.slice a n c) bs) (hn : bs.length = n) (hv : t.v ≠ -1) :
    Calls Tryz.prog 72 #[.agg #[.slice a n c, .bool st, .int .i64 lo, .int .i64 hi], .agg #[.int .i64 t.v, .bool t.set, .int .i64 t.n, .slice sa t.s.length sc]] W fun e w' => e = .returned (.bool (varB bs st t.v && zeroB t)) ∧ Below W.heap.size W w' := by
  have HZ : Hid (zeroB t = (!t.set && (decide (t.n = 0) && decide (t.s.length = 0)))) := rfl
  have HV : Hid (varB bs st t.v = (decide (0 ≤ t.v) && (match bs[t.v.toNat]? with | some x => x == st | none => false))) := rfl
  obtain ⟨rz, hrz⟩ : ∃ x, zeroB t = x := ⟨_, rfl⟩
  obtain ⟨rv, hrv⟩ : ∃ x, varB bs st t.v = x := ⟨_, rfl⟩
  obtain ⟨tv, htv⟩ : ∃ x, t.v = x := ⟨_, rfl⟩
  obtain ⟨ts, hts⟩ : ∃ x, t.set = x := ⟨_, rfl⟩
  obtain ⟨tn, htn⟩ : ∃ x, t.n = x := ⟨_, rfl⟩
  obtain ⟨sn, hsn⟩ : ∃ x, t.s.length = x := ⟨_, rfl⟩
  rw [hrz, hts, htn, hsn] at HZ
  rw [hrv, htv] at HV
  rw [htv] at hv
  rw [hrz, hrv, htv, hts, htn, hsn]
  clear hrz hrv htv hts htn hsn
  have hd1 : (tv != -1) = true := by simpa using hv
  have hd2 : (tv == -1) = false := by simpa using hv
  have hz : (ts = true ∧ rz = false) ∨ (ts = false ∧ tn ≠ 0 ∧ rz = false) ∨ (ts = false ∧ tn = 0 ∧ sn ≠ 0 ∧ rz = false) ∨ (ts = false ∧ tn = 0 ∧ sn = 0 ∧ rz = true) := by
    have hz1 := HZ.out
    cases ts
    · by_cases h1 : tn = 0
      · by_cases h2 : sn = 0
        · simp [h1, h2] at hz1; exact .inr (.inr (.inr ⟨rfl, h1, h2, hz1⟩))
        · simp [h1, h2] at hz1; exact .inr (.inr (.inl ⟨rfl, h1, h2, hz1⟩))
      · simp [h1] at hz1; exact .inr (.inl ⟨rfl, h1, hz1⟩)
    · simp at hz1; exact .inl ⟨rfl, hz1⟩
  have hx : (tv < 0 ∧ rv = false) ∨ (0 ≤ tv ∧ (n : Int) ≤ tv ∧ rv = false) ∨ (∃ k : Nat, tv = k ∧ k < n ∧ ∃ b off x, a = some ⟨b, off, none⟩ ∧ b < W.heap.size ∧ W.cell? ⟨b, off + k, none⟩ = some (.bool x) ∧ rv = (x == st)) := by
    have hv1 := HV.out
    by_cases h1 : tv < 0
    · rw [decide_eq_false (by omega)] at hv1; exact .inl ⟨h1, hv1⟩
    · rw [decide_eq_true (by omega)] at hv1
      by_cases h2 : tv.toNat < n
      · have hcast : tv = ((tv.toNat : Nat) : Int) := by omega
        have hpos : 0 < bs.length := by omega
        obtain ⟨x, hx⟩ : ∃ x, bs[tv.toNat]? = some x := ⟨_, List.getElem?_eq_getElem (by omega)⟩
        rw [hx] at hv1
        obtain ⟨a', c', e, hb'⟩ := hb
        injection e with e1 e2 e3
        subst e1
        obtain ⟨b, off, e1, e2, e3⟩ := hb' hpos
        exact .inr (.inr ⟨tv.toNat, hcast, h2, b, off, x, e1, e2, e3 _ x hx, by simpa using hv1⟩)
      · rw [List.getElem?_eq_none (by omega)] at hv1
        exact .inr (.inl ⟨by omega, by omega, by simpa using hv1⟩)
  clear HZ HV hb hn
  rcases hz with ⟨rfl, rfl⟩ | ⟨rfl, hn0, rfl⟩ | ⟨rfl, rfl, hs0, rfl⟩ | ⟨rfl, rfl, rfl, rfl⟩
  · rcases hx with ⟨h3, rfl⟩ | ⟨h3, h4, rfl⟩ | ⟨k, rfl, hk, b, off, x, rfl, hb, hc, rfl⟩
    · have h5 : ¬ 0 ≤ tv := by omega
      go_enter Tryz.func72, Tryz.ntmps72
      go_upto_region 3 with (fail)
      go_quiet (fail)
      go_wp2
      go_ret
      exact ⟨rfl, below_drewN (((Below.refl _ W).alloc (Nat.le_refl _) _).alloc (by simp) _) _⟩
    · have h5 : ¬ tv < n := by omega
      go_enter Tryz.func72, Tryz.ntmps72
      go_upto_region 3 with (fail)
      go_quiet (fail)
      go_wp2
      go_ret
      exact ⟨rfl, below_drewN (((Below.refl _ W).alloc (Nat.le_refl _) _).alloc (by simp) _) _⟩
    · have h5 : (0 : Int) ≤ k := by omega
      have h6 : (k : Int) < n := by omega
      cases x <;> cases st <;>
      · go_enter Tryz.func72, Tryz.ntmps72
        go_upto_region 3 with (fail)
        go_quiet (fail)
        go_wp2
        go_ret
        exact ⟨rfl, below_drewN (((Below.refl _ W).alloc (Nat.le_refl _) _).alloc (by simp) _) _⟩
  · have hq1 : (tn == 0) = false := by simpa using hn0
    rcases hx with ⟨h3, rfl⟩ | ⟨h3, h4, rfl⟩ | ⟨k, rfl, hk, b, off, x, rfl, hb, hc, rfl⟩
    · have h5 : ¬ 0 ≤ tv := by omega
      go_enter Tryz.func72, Tryz.ntmps72
      go_upto_region 3 with (fail)
      go_quiet (fail)
      go_wp2
      go_ret
      exact ⟨rfl, below_drewN (((Below.refl _ W).alloc (Nat.le_refl _) _).alloc (by simp) _) _⟩
    · have h5 : ¬ tv < n := by omega
      go_enter Tryz.func72, Tryz.ntmps72
      go_upto_region 3 with (fail)
      go_quiet (fail)
      go_wp2
      go_ret
      exact ⟨rfl, below_drewN (((Below.refl _ W).alloc (Nat.le_refl _) _).alloc (by simp) _) _⟩
    · have h5 : (0 : Int) ≤ k := by omega
      have h6 : (k : Int) < n := by omega
      cases x <;> cases st <;>
      · go_enter Tryz.func72, Tryz.ntmps72
        go_upto_region 3 with (fail)
        go_quiet (fail)
        go_wp2
        go_ret
        exact ⟨rfl, below_drewN (((Below.refl _ W).alloc (Nat.le_refl _) _).alloc (by simp) _) _⟩
  · have hq1 : ((sn : Int) == 0) = false := by simp; omega
    rcases hx with ⟨h3, rfl⟩ | ⟨h3, h4, rfl⟩ | ⟨k, rfl, hk, b, off, x, rfl, hb, hc, rfl⟩
    · have h5 : ¬ 0 ≤ tv := by omega
      go_enter Tryz.func72, Tryz.ntmps72
      go_upto_region 3 with (fail)
      go_quiet (fail)
      go_wp2
      go_ret
      exact ⟨rfl, below_drewN (((Below.refl _ W).alloc (Nat.le_refl _) _).alloc (by simp) _) _⟩
    · have h5 : ¬ tv < n := by omega
      go_enter Tryz.func72, Tryz.ntmps72
      go_upto_region 3 with (fail)
      go_quiet (fail)
      go_wp2
      go_ret
      exact ⟨rfl, below_drewN (((Below.refl _ W).alloc (Nat.le_refl _) _).alloc (by simp) _) _⟩
    · have h5 : (0 : Int) ≤ k := by omega
      have h6 : (k : Int) < n := by omega
      cases x <;> cases st <;>
      · go_enter Tryz.func72, Tryz.ntmps72
        go_upto_region 3 with (fail)
        go_quiet (fail)
        go_wp2
        go_ret
        exact ⟨rfl, below_drewN (((Below.refl _ W).alloc (Nat.le_refl _) _).alloc (by simp) _) _⟩
  · rcases hx with ⟨h3, rfl⟩ | ⟨h3, h4, rfl⟩ | ⟨k, rfl, hk, b, off, x, rfl, hb, hc, rfl⟩
    · have h5 : ¬ 0 ≤ tv := by omega
      go_enter Tryz.func72, Tryz.ntmps72
      go_upto_region 3 with (fail)
      go_quiet (fail)
      go_wp2
      go_ret
      exact ⟨rfl, below_drewN (((Below.refl _ W).alloc (Nat.le_refl _) _).alloc (by simp) _) _⟩
    · have h5 : ¬ tv < n := by omega
      go_enter Tryz.func72, Tryz.ntmps72
      go_upto_region 3 with (fail)
      go_quiet (fail)
      go_wp2
      go_ret
      exact ⟨rfl, below_drewN (((Below.refl _ W).alloc (Nat.le_refl _) _).alloc (by simp) _) _⟩
    · have h5 : (0 : Int) ≤ k := by omega
      have h6 : (k : Int) < n := by omega
      cases x <;> cases st <;>
      · go_enter Tryz.func72, Tryz.ntmps72
        go_upto_region 3 with (fail)
        go_quiet (fail)
        go_wp2
        go_ret
        exact ⟨rfl, below_drewN (((Below.refl _ W).alloc (Nat.le_refl _) _).alloc (by simp) _) _⟩

set_option maxRecDepth 100000 in
set_option maxHeartbeats 4000000 in
theorem takes_set (vs : Value) (lo hi : Int) (t : Tm) (sB : Bool) (sa : Option Addr) (sc : Nat) (W : World) (hv : t.v = -1)
    (hIS : ∀ X, Below W.heap.size W X → Calls Tryz.prog 103 #[.slice sa t.s.length sc] X fun e w' => e = .returned (.bool sB) ∧ Below X.heap.size X w') :
    Calls Tryz.prog 72 #[.agg #[vs, .bool true, .int .i64 lo, .int .i64 hi], .agg #[.int .i64 t.v, .bool t.set, .int .i64 t.n, .slice sa t.s.length sc]] W fun e w' => e = .returned (.bool (t.set && (decide (t.n = 0) && sB))) ∧ Below W.heap.size W w' := by
  rw [hv]
  obtain ⟨ts, hts⟩ : ∃ x, t.set = x := ⟨_, rfl⟩
  obtain ⟨tn, htn⟩ : ∃ x, t.n = x := ⟨_, rfl⟩
  obtain ⟨sn, hsn⟩ : ∃ x, t.s.length = x := ⟨_, rfl⟩
  rw [hsn] at hIS
  rw [hts, htn, hsn]
  clear hts htn hsn hv
  have hbA : Below W.heap.size W ((W.alloc (Obj.cells #[vs, .bool true, .int .i64 lo, .int .i64 hi] 108)).alloc (Obj.cells #[.int .i64 (-1), .bool ts, .int .i64 tn, .slice sa sn sc] 46)) := ((Below.refl _ W).alloc (Nat.le_refl _) _).alloc (by simp) _
  cases ts with
  | false =>
    by_cases h0 : tn = 0
    · subst h0
      by_cases h1 : sn = 0
      · subst h1
        go_enter Tryz.func72, Tryz.ntmps72
        go_wp2
        go_ret
        exact ⟨rfl, ((Below.refl _ W).alloc (Nat.le_refl _) _).alloc (by simp) _⟩
      · have hq1 : ((sn : Int) == 0) = false := by simp; omega
        go_enter Tryz.func72, Tryz.ntmps72
        go_wp2
        go_ret
        exact ⟨rfl, ((Below.refl _ W).alloc (Nat.le_refl _) _).alloc (by simp) _⟩
    · have hq1 : (tn == 0) = false := by simpa using h0
      go_enter Tryz.func72, Tryz.ntmps72
      go_wp2
      go_ret
      exact ⟨rfl, ((Below.refl _ W).alloc (Nat.le_refl _) _).alloc (by simp) _⟩
  | true =>
    by_cases h0 : tn = 0
    · subst h0
      have k := hIS _ hbA
      have HBA : Hid _ := hbA
      clear hbA hIS
      go_enter Tryz.func72, Tryz.ntmps72
      go_wp2_with fail
      refine k.mono ?_
      rintro e w1 ⟨rfl, hb1⟩
      have HB1 : Hid (Below W.heap.size W w1) := HBA.out.trans (hb1.mono (by simp; omega))
      clear hb1 k
      go_wp2
      go_ret
      exact ⟨by simp, HB1.out⟩
    · have hq1 : (tn == 0) = false := by simpa using h0
      clear hIS
      go_enter Tryz.func72, Tryz.ntmps72
      go_wp2
      go_ret
      exact ⟨by simp [h0], hbA⟩

set_option maxRecDepth 100000 in
set_option maxHeartbeats 4000000 in
theorem takes_int (vs : Value) (lo hi : Int) (t : Tm) (sa : Option Addr) (sc : Nat) (W : World) (hv : t.v = -1) :
    Calls Tryz.prog 72 #[.agg #[vs, .bool false, .int .i64 lo, .int .i64 hi], .agg #[.int .i64 t.v, .bool t.set, .int .i64 t.n, .slice sa t.s.length sc]] W fun e w' => e = .returned (.bool (!t.set && (decide (t.s.length = 0) && (decide (lo ≤ t.n) && decide (t.n ≤ hi))))) ∧ Below W.heap.size W w' := by
  rw [hv]
  obtain ⟨ts, hts⟩ : ∃ x, t.set = x := ⟨_, rfl⟩
  obtain ⟨tn, htn⟩ : ∃ x, t.n = x := ⟨_, rfl⟩
  obtain ⟨sn, hsn⟩ : ∃ x, t.s.length = x := ⟨_, rfl⟩
  rw [hts, htn, hsn]
  clear hts htn hsn hv
  cases ts with
  | true =>
    go_enter Tryz.func72, Tryz.ntmps72
    go_wp2
    go_ret
    exact ⟨rfl, ((Below.refl _ W).alloc (Nat.le_refl _) _).alloc (by simp) _⟩
  | false =>
    by_cases h0 : tn = 0
    · subst h0
      by_cases h1 : sn = 0
      · subst h1
        by_cases h2 : lo ≤ 0 <;> by_cases h3 : 0 ≤ hi <;>
        · go_enter Tryz.func72, Tryz.ntmps72
          go_wp2
          go_ret
          exact ⟨by simp [h2, h3], ((Below.refl _ W).alloc (Nat.le_refl _) _).alloc (by simp) _⟩
      · have hq1 : ((sn : Int) == 0) = false := by simp; omega
        go_enter Tryz.func72, Tryz.ntmps72
        go_wp2
        go_ret
        exact ⟨by simp [h1], ((Below.refl _ W).alloc (Nat.le_refl _) _).alloc (by simp) _⟩
    · have hq1 : (tn == 0) = false := by simpa using h0
      by_cases h1 : sn = 0
      · subst h1
        by_cases h2 : lo ≤ tn <;> by_cases h3 : tn ≤ hi <;>
        · go_enter Tryz.func72, Tryz.ntmps72
          go_wp2
          go_ret
          exact ⟨by simp [h2, h3], ((Below.refl _ W).alloc (Nat.le_refl _) _).alloc (by simp) _⟩
      · have hq2 : ((sn : Int) == 0) = false := by simp; omega
        go_enter Tryz.func72, Tryz.ntmps72
        go_wp2
        go_ret
        exact ⟨by simp [h1], ((Below.refl _ W).alloc (Nat.le_refl _) _).alloc (by simp) _⟩
end Go.Proofs.YtaeobgajhieajaaGreatDoor
