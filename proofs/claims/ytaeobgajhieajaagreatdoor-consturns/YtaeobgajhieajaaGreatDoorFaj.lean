/-
  What is proved here: slices.EqualFunc of lists of unlike lengths; slices.ContainsFunc of any arguments; takes of any term.
  What is proved here: takes, of any term.
-/
import Derived.Test.YtaeobgajhieajaaGreatDoorDvj
import Derived.Test.YtaeobgajhieajaaGreatDoorDrj
import Derived.BigQuiet
namespace Go.Proofs.YtaeobgajhieajaaGreatDoor
open Go.RowKit Go.Shelf
set_option linter.unusedVariables false
set_option linter.unusedSimpArgs false

/-- Is each argument as the form says? -/
def eqB (ags : List Ag) (parts : List (List UInt8)) : Bool := decide (ags.length = parts.length) && eqF ags parts ags.length

set_option maxRecDepth 100000 in
set_option maxHeartbeats 4000000 in
theorem equalF_ne {a8 a9 : Option Addr} {n8 c8 n9 c9 : Nat} (hne : n8 ≠ n9) (W : World) :
    Calls Tryz.prog 46 #[.slice a8 n8 c8, .slice a9 n9 c9, .func (.func 47) #[] #[]] W fun e w' => e = .returned (.bool false) ∧ Below W.heap.size W w' := by
  have hd : ((n8 : Int) != n9) = true := by simp; omega
  have hd2 : ((n8 : Int) == n9) = false := by simp; omega
  go_enter Tryz.func46, Tryz.ntmps46
  go_wp2
  go_ret
  exact ⟨rfl, Below.refl _ _⟩
theorem equalG {B0 : Nat} {W : World} {a8 : Option Addr} {c8 : Nat} {ags : List Ag} {a9 : Option Addr} {c9 : Nat} {parts : List (List UInt8)} (h : Sa B0 W (.slice a8 ags.length c8) ags) (hp : Ss W (.slice a9 parts.length c9) parts) (hn : ags.length ≤ 4398046510976) (hl : ∀ g ∈ ags, g.l.length ≤ 4398046510976) :
    Calls Tryz.prog 46 #[.slice a8 ags.length c8, .slice a9 parts.length c9, .func (.func 47) #[] #[]] W fun e w' => e = .returned (.bool (eqB ags parts)) ∧ Below W.heap.size W w' := by
  by_cases he : ags.length = parts.length
  · rw [show eqB ags parts = eqF ags parts ags.length by simp [eqB, he]]
    exact equalF h hp he hn hl
  · rw [show eqB ags parts = false by simp [eqB, he]]
    exact equalF_ne he W
/-- An index, or none. -/
def idxOk : Bool → Int → Prop
  | true, r => 0 ≤ r
  | false, r => r = -1
/-- Is an argument too long? -/
def longB (g : Ag) : Bool := decide (1000 < g.l.length)

set_option maxRecDepth 100000 in
set_option maxHeartbeats 4000000 in
theorem tooLongG (g : Ag) (a : Option Addr) (c : Nat) (W : World) (hl : g.l.length ≤ 4398046510976) : Calls Tryz.prog 49 #[.agg #[.bool g.arr, .slice a g.l.length c]] W fun e w' => e = .returned (.bool (longB g)) ∧ Below W.heap.size W w' := by
  have HE : Hid (longB g = decide (1000 < g.l.length)) := rfl
  obtain ⟨r, hr⟩ : ∃ r, longB g = r := ⟨_, rfl⟩
  obtain ⟨ar, har⟩ : ∃ x, g.arr = x := ⟨_, rfl⟩
  obtain ⟨n, hn⟩ : ∃ n, g.l.length = n := ⟨_, rfl⟩
  rw [hr, hn] at HE
  rw [hn] at hl
  rw [hr, har, hn]
  clear har hn hr
  by_cases h1 : (1000 : Int) < n <;>
  · go_enter Tryz.func49, Tryz.ntmps49
    go_wp2
    go_ret
    exact ⟨by rw [HE.out]; simp [h1]; omega, (Below.refl _ W).alloc (Nat.le_refl _) _⟩

set_option maxRecDepth 100000 in
set_option maxHeartbeats 4000000 in
theorem indexG {B0 : Nat} {W : World} {a8 : Option Addr} {c8 n : Nat} {ags : List Ag} (h : Sa B0 W (.slice a8 n c8) ags) (hlen : ags.length = n) (hn : n ≤ 4398046510976) (hl : ∀ g ∈ ags, g.l.length ≤ 4398046510976) :
    Calls Tryz.prog 69 #[.slice a8 n c8, .func (.func 49) #[] #[]] W fun e w' => (∃ r : Int, e = .returned (.int .i64 r) ∧ idxOk (ags.any longB) r) ∧ Below W.heap.size W w' := by
  have HA : Hid (Sa B0 W (.slice a8 n c8) ags) := h
  have HN : Hid (ags.length = n) := hlen
  have HL : Hid (∀ g ∈ ags, g.l.length ≤ 4398046510976) := hl
  clear h hlen hl
  go_enter Tryz.func69, Tryz.ntmps69
  go_wp2
  go_loopw [8] (fun i wr => ∃ k : Nat, k ≤ n ∧ i = .int .i64 (k : Int) ∧ Hid ((ags.take k).any longB = false) ∧ Hid (Below W.heap.size W wr)) (fun i _ => n - (intOf i).toNat)
  case atStart => exact ⟨0, Nat.zero_le _, rfl, by simp [Hid], Below.refl _ _⟩
  case round =>
    obtain ⟨k, hk, rfl, HQ, HB⟩ := hrel
    by_cases hlt : k < n
    · have hlt' : (k : Int) < n := by omega
      obtain ⟨g, hg⟩ : ∃ g, ags[k]? = some g := ⟨_, List.getElem?_eq_getElem (by rw [HN.out]; exact hlt)⟩
      have HS : Hid ((ags.take (k + 1)).any longB = ((ags.take k).any longB || longB g)) := by
        obtain ⟨hi, rfl⟩ := List.getElem?_eq_some_iff.1 hg
        show (ags.take (k + 1)).any longB = _
        rw [List.take_succ_eq_append_getElem hi, List.any_append]
        simp
      have HMEM : Hid (g ∈ ags) := List.mem_of_getElem? hg
      obtain ⟨b, off, a2, c2, rfl, hb, _, d0, d1⟩ := HA.out.at hg
      have y0 := (HB.out.cell (p := ⟨b, off + k * 2, none⟩) hb).trans d0
      have y1 := (HB.out.cell (p := ⟨b, off + k * 2 + 1, none⟩) hb).trans d1
      have hgl := HL.out g (List.mem_of_getElem? hg)
      have hsh := fun X => tooLongG g a2 c2 X hgl
      obtain ⟨r, hr⟩ : ∃ r, longB g = r := ⟨_, rfl⟩
      rw [hr] at hsh HS
      have HR : Hid (longB g = r) := hr
      clear d0 d1 hg hr
      have hw2 : IntKind.i64.wrap ((k : Int) + 1) = (k : Int) + 1 := by rw [IntKind.wrap_i64]; omega
      go_wp2_with fail
      refine (hsh _).mono ?_
      rintro e w1 ⟨rfl, hb1⟩
      have HB1 : Hid (Below W.heap.size W w1) := HB.out.trans (hb1.mono HB.out.size)
      clear hb1 hsh
      rw [HQ.out] at HS
      cases r with
      | false =>
        go_wp2
        go_roundw
        case rel => exact ⟨k + 1, by omega, by go_num, by rw [HS.out]; rfl, HB1⟩
        case measure => simp [intOf]; omega
      | true =>
        have HF : Hid (ags.any longB = true) := List.any_eq_true.2 ⟨g, HMEM.out, HR.out⟩
        go_wp2
        go_ret
        exact ⟨⟨_, rfl, by rw [HF.out]; exact Int.natCast_nonneg k⟩, HB1.out⟩
    · have hlt' : ¬ (k : Int) < n := by omega
      obtain rfl : k = n := by omega
      have HF : Hid (ags.any longB = false) := by have := HQ.out; rwa [List.take_of_length_le (by rw [HN.out]; exact Nat.le_refl _)] at this
      go_wp2
      go_ret
      exact ⟨⟨_, rfl, by rw [HF.out]; exact rfl⟩, HB.out⟩

set_option maxRecDepth 100000 in
set_option maxHeartbeats 4000000 in
theorem containsG {B0 : Nat} {W : World} {a8 : Option Addr} {c8 n : Nat} {ags : List Ag} (h : Sa B0 W (.slice a8 n c8) ags) (hlen : ags.length = n) (hn : n ≤ 4398046510976) (hl : ∀ g ∈ ags, g.l.length ≤ 4398046510976) :
    Calls Tryz.prog 48 #[.slice a8 n c8, .func (.func 49) #[] #[]] W fun e w' => e = .returned (.bool (ags.any longB)) ∧ Below W.heap.size W w' := by
  have k := indexG h hlen hn hl
  obtain ⟨q, hq⟩ : ∃ q, ags.any longB = q := ⟨_, rfl⟩
  rw [hq] at k ⊢
  clear h hlen hl hq
  go_enter Tryz.func48, Tryz.ntmps48
  go_wp2_with fail
  refine k.mono ?_
  rintro e w1 ⟨⟨r, rfl, hr⟩, hb1⟩
  have HB : Hid _ := hb1
  clear hb1 k
  cases q with
  | true =>
    have h0 : (0 : Int) ≤ r := hr
    clear hr
    go_wp2
    go_ret
    exact ⟨by simp [h0], HB.out⟩
  | false =>
    obtain rfl : r = -1 := hr
    go_wp2
    go_ret
    exact ⟨rfl, HB.out⟩
end Go.Proofs.YtaeobgajhieajaaGreatDoor

namespace Go.Proofs.YtaeobgajhieajaaGreatDoor
open Go.RowKit Go.Shelf
set_option linter.unusedVariables false
set_option linter.unusedSimpArgs false

/-- Is a term's value zero? -/
def zeroB (t : Tm) : Bool := !t.set && (decide (t.n = 0) && decide (t.s.length = 0))
/-- Truths in memory. -/
def Sb (W : World) (s : Value) (l : List Bool) : Prop := ∃ a c, s = .slice a l.length c ∧ (0 < l.length → ∃ b off, a = some ⟨b, off, none⟩ ∧ b < W.heap.size ∧ ∀ i x, l[i]? = some x → W.cell? ⟨b, off + i, none⟩ = some (.bool x))
theorem Sb.below {W W' : World} {s : Value} {l : List Bool} (h : Sb W s l) (hb : Below W.heap.size W W') : Sb W' s l := by
  obtain ⟨a, c, e, h⟩ := h
  exact ⟨a, c, e, fun h0 => by obtain ⟨b, off, e1, e2, e3⟩ := h h0; exact ⟨b, off, e1, Nat.lt_of_lt_of_le e2 hb.size, fun i x hx => (hb.cell (p := ⟨b, off + i, none⟩) e2).trans (e3 i x hx)⟩⟩
/-- May a variable stand there? -/
def varB (bs : List Bool) (st : Bool) (v : Int) : Bool := decide (0 ≤ v) && (match bs[v.toNat]? with | some x => x == st | none => false)
def takesB (sB : List Int → Bool) (bs : List Bool) (st : Bool) (lo hi : Int) (t : Tm) : Bool :=
  if t.v = -1 then (if st then t.set && (decide (t.n = 0) && sB t.s) else !t.set && (decide (t.s.length = 0) && (decide (lo ≤ t.n) && decide (t.n ≤ hi))))
  else varB bs st t.v && zeroB t

set_option maxRecDepth 100000 in
set_option maxHeartbeats 4000000 in
theorem takes_var (a : Option Addr) (n c : Nat) (bs : List Bool) (st : Bool) (lo hi : Int) (t : Tm) (sa : Option Addr) (sc : Nat) (W : World) (hb : Sb W (.slice a n c) bs) (hn : bs.length = n) (hv : t.v ≠ -1) :
    Calls Tryz.prog 72 #[.agg #[.slice a n c, .bool st, .int .i64 lo, .int .i64 hi], .agg #[.int .i64 t.v, .bool t.set, .int .i64 t.n, .slice sa t.s.length sc]] W fun e w' => e = .returned (.bool (varB bs st t.v && zeroB t)) ∧ Below W.heap.size W w' := by
  have HZ : Hid (zeroB t = (!t.set && (decide (t.n = 0) && decide (t.s.length = 0)))) := rfl
  have HV : Hid (varB bs st t.v = (decide (0 ≤ t.v) && (match bs[t.v.toNat]? with | some x => x == st | none => false))) := rfl
  obtain ⟨rz, hrz⟩ : ∃ x, zeroB t = x := ⟨_, rfl⟩
  obtain ⟨rv, hrv⟩ : ∃ x, varB bs st t.v = x := ⟨_, rfl⟩
  obtain ⟨tv, htv⟩ : ∃ x, t.v = x := ⟨_, rfl⟩
  obtain ⟨ts, hts⟩ : ∃ x, t.set = x := ⟨_, rfl⟩
  obtain ⟨tn, htn⟩ : ∃ x, t.n = x := ⟨_, rfl⟩
  obtain ⟨sn, hsn⟩ : ∃ x, t.s.length = x := ⟨_, rfl⟩
  rw [hrz, hts, htn, hsn] at HZ
  rw [hrv, htv] at HV
  rw [htv] at hv
  rw [hrz, hrv, htv, hts, htn, hsn]
  clear hrz hrv htv hts htn hsn
  have hd1 : (tv != -1) = true := by simpa using hv
  have hd2 : (tv == -1) = false := by simpa using hv
  have hz : (ts = true ∧ rz = false) ∨ (ts = false ∧ tn ≠ 0 ∧ rz = false) ∨ (ts = false ∧ tn = 0 ∧ sn ≠ 0 ∧ rz = false) ∨ (ts = false ∧ tn = 0 ∧ sn = 0 ∧ rz = true) := by
    have hz1 := HZ.out
    cases ts
    · by_cases h1 : tn = 0
      · by_cases h2 : sn = 0
        · simp [h1, h2] at hz1; exact .inr (.inr (.inr ⟨rfl, h1, h2, hz1⟩))
        · simp [h1, h2] at hz1; exact .inr (.inr (.inl ⟨rfl, h1, h2, hz1⟩))
      · simp [h1] at hz1; exact .inr (.inl ⟨rfl, h1, hz1⟩)
    · simp at hz1; exact .inl ⟨rfl, hz1⟩
  have hx : (tv < 0 ∧ rv = false) ∨ (0 ≤ tv ∧ (n : Int) ≤ tv ∧ rv = false) ∨ (∃ k : Nat, tv = k ∧ k < n ∧ ∃ b off x, a = some ⟨b, off, none⟩ ∧ b < W.heap.size ∧ W.cell? ⟨b, off + k, none⟩ = some (.bool x) ∧ rv = (x == st)) := by
    have hv1 := HV.out
    by_cases h1 : tv < 0
    · rw [decide_eq_false (by omega)] at hv1; exact .inl ⟨h1, hv1⟩
    · rw [decide_eq_true (by omega)] at hv1
      by_cases h2 : tv.toNat < n
      · have hcast : tv = ((tv.toNat : Nat) : Int) := by omega
        have hpos : 0 < bs.length := by omega
        obtain ⟨x, hx⟩ : ∃ x, bs[tv.toNat]? = some x := ⟨_, List.getElem?_eq_getElem (by omega)⟩
        rw [hx] at hv1
        obtain ⟨a', c', e, hb'⟩ := hb
        injection e with e1 e2 e3
        subst e1
        obtain ⟨b, off, e1, e2, e3⟩ := hb' hpos
        exact .inr (.inr ⟨tv.toNat, hcast, h2, b, off, x, e1, e2, e3 _ x hx, by simpa using hv1⟩)
      · rw [List.getElem?_eq_none (by omega)] at hv1
        exact .inr (.inl ⟨by omega, by omega, by simpa using hv1⟩)
  clear HZ HV hb hn
  rcases hz with ⟨rfl, rfl⟩ | ⟨rfl, hn0, rfl⟩ | ⟨rfl, rfl, hs0, rfl⟩ | ⟨rfl, rfl, rfl, rfl⟩
  · rcases hx with ⟨h3, rfl⟩ | ⟨h3, h4, rfl⟩ | ⟨k, rfl, hk, b, off, x, rfl, hb, hc, rfl⟩
    · have h5 : ¬ 0 ≤ tv := by omega
      go_enter Tryz.func72, Tryz.ntmps72
      go_upto_region 3 with (fail)
      go_quiet (fail)
      go_wp2
      go_ret
      exact ⟨rfl, below_drewN (((Below.refl _ W).alloc (Nat.le_refl _) _).alloc (by simp) _) _⟩
    · have h5 : ¬ tv < n := by omega
      go_enter Tryz.func72, Tryz.ntmps72
      go_upto_region 3 with (fail)
      go_quiet (fail)
      go_wp2
      go_ret
      exact ⟨rfl, below_drewN (((Below.refl _ W).alloc (Nat.le_refl _) _).alloc (by simp) _) _⟩
    · have h5 : (0 : Int) ≤ k := by omega
      have h6 : (k : Int) < n := by omega
      cases x <;> cases st <;>
      · go_enter Tryz.func72, Tryz.ntmps72
        go_upto_region 3 with (fail)
        go_quiet (fail)
        go_wp2
        go_ret
        exact ⟨rfl, below_drewN (((Below.refl _ W).alloc (Nat.le_refl _) _).alloc (by simp) _) _⟩
  · have hq1 : (tn == 0) = false := by simpa using hn0
    rcases hx with ⟨h3, rfl⟩ | ⟨h3, h4, rfl⟩ | ⟨k, rfl, hk, b, off, x, rfl, hb, hc, rfl⟩
    · have h5 : ¬ 0 ≤ tv := by omega
      go_enter Tryz.func72, Tryz.ntmps72
      go_upto_region 3 with (fail)
      go_quiet (fail)
      go_wp2
      go_ret
      exact ⟨rfl, below_drewN (((Below.refl _ W).alloc (Nat.le_refl _) _).alloc (by simp) _) _⟩
    · have h5 : ¬ tv < n := by omega
      go_enter Tryz.func72, Tryz.ntmps72
      go_upto_region 3 with (fail)
      go_quiet (fail)
      go_wp2
      go_ret
      exact ⟨rfl, below_drewN (((Below.refl _ W).alloc (Nat.le_refl _) _).alloc (by simp) _) _⟩
    · have h5 : (0 : Int) ≤ k := by omega
      have h6 : (k : Int) < n := by omega
      cases x <;> cases st <;>
      · go_enter Tryz.func72, Tryz.ntmps72
        go_upto_region 3 with (fail)
        go_quiet (fail)
        go_wp2
        go_ret
        exact ⟨rfl, below_drewN (((Below.refl _ W).alloc (Nat.le_refl _) _).alloc (by simp) _) _⟩
  · have hq1 : ((sn : Int) == 0) = false := by simp; omega
    rcases hx with ⟨h3, rfl⟩ | ⟨h3, h4, rfl⟩ | ⟨k, rfl, hk, b, off, x, rfl, hb, hc, rfl⟩
    · have h5 : ¬ 0 ≤ tv := by omega
      go_enter Tryz.func72, Tryz.ntmps72
      go_upto_region 3 with (fail)
      go_quiet (fail)
      go_wp2
      go_ret
      exact ⟨rfl, below_drewN (((Below.refl _ W).alloc (Nat.le_refl _) _).alloc (by simp) _) _⟩
    · have h5 : ¬ tv < n := by omega
      go_enter Tryz.func72, Tryz.ntmps72
      go_upto_region 3 with (fail)
      go_quiet (fail)
      go_wp2
      go_ret
      exact ⟨rfl, below_drewN (((Below.refl _ W).alloc (Nat.le_refl _) _).alloc (by simp) _) _⟩
    · have h5 : (0 : Int) ≤ k := by omega
      have h6 : (k : Int) < n := by omega
      cases x <;> cases st <;>
      · go_enter Tryz.func72, Tryz.ntmps72
        go_upto_region 3 with (fail)
        go_quiet (fail)
        go_wp2
        go_ret
        exact ⟨rfl, below_drewN (((Below.refl _ W).alloc (Nat.le_refl _) _).alloc (by simp) _) _⟩
  · rcases hx with ⟨h3, rfl⟩ | ⟨h3, h4, rfl⟩ | ⟨k, rfl, hk, b, off, x, rfl, hb, hc, rfl⟩
    · have h5 : ¬ 0 ≤ tv := by omega
      go_enter Tryz.func72, Tryz.ntmps72
      go_upto_region 3 with (fail)
      go_quiet (fail)
      go_wp2
      go_ret
      exact ⟨rfl, below_drewN (((Below.refl _ W).alloc (Nat.le_refl _) _).alloc (by simp) _) _⟩
    · have h5 : ¬ tv < n := by omega
      go_enter Tryz.func72, Tryz.ntmps72
      go_upto_region 3 with (fail)
      go_quiet (fail)
      go_wp2
      go_ret
      exact ⟨rfl, below_drewN (((Below.refl _ W).alloc (Nat.le_refl _) _).alloc (by simp) _) _⟩
    · have h5 : (0 : Int) ≤ k := by omega
      have h6 : (k : Int) < n := by omega
      cases x <;> cases st <;>
      · go_enter Tryz.func72, Tryz.ntmps72
        go_upto_region 3 with (fail)
        go_quiet (fail)
        go_wp2
        go_ret
        exact ⟨rfl, below_drewN (((Below.refl _ W).alloc (Nat.le_refl _) _).alloc (by simp) _) _⟩

set_option maxRecDepth 100000 in
set_option maxHeartbeats 4000000 in
theorem takes_set (vs : Value) (lo hi : Int) (t : Tm) (sB : Bool) (sa : Option Addr) (sc : Nat) (W : World) (hv : t.v = -1)
    (hIS : ∀ X, Below W.heap.size W X → Calls Tryz.prog 103 #[.slice sa t.s.length sc] X fun e w' => e = .returned (.bool sB) ∧ Below X.heap.size X w') :
    Calls Tryz.prog 72 #[.agg #[vs, .bool true, .int .i64 lo, .int .i64 hi], .agg #[.int .i64 t.v, .bool t.set, .int .i64 t.n, .slice sa t.s.length sc]] W fun e w' => e = .returned (.bool (t.set && (decide (t.n = 0) && sB))) ∧ Below W.heap.size W w' := by
  rw [hv]
  obtain ⟨ts, hts⟩ : ∃ x, t.set = x := ⟨_, rfl⟩
  obtain ⟨tn, htn⟩ : ∃ x, t.n = x := ⟨_, rfl⟩
  obtain ⟨sn, hsn⟩ : ∃ x, t.s.length = x := ⟨_, rfl⟩
  rw [hsn] at hIS
  rw [hts, htn, hsn]
  clear hts htn hsn hv
  have hbA : Below W.heap.size W ((W.alloc (Obj.cells #[vs, .bool true, .int .i64 lo, .int .i64 hi] 108)).alloc (Obj.cells #[.int .i64 (-1), .bool ts, .int .i64 tn, .slice sa sn sc] 46)) := ((Below.refl _ W).alloc (Nat.le_refl _) _).alloc (by simp) _
  cases ts with
  | false =>
    by_cases h0 : tn = 0
    · subst h0
      by_cases h1 : sn = 0
      · subst h1
        go_enter Tryz.func72, Tryz.ntmps72
        go_wp2
        go_ret
        exact ⟨rfl, ((Below.refl _ W).alloc (Nat.le_refl _) _).alloc (by simp) _⟩
      · have hq1 : ((sn : Int) == 0) = false := by simp; omega
        go_enter Tryz.func72, Tryz.ntmps72
        go_wp2
        go_ret
        exact ⟨rfl, ((Below.refl _ W).alloc (Nat.le_refl _) _).alloc (by simp) _⟩
    · have hq1 : (tn == 0) = false := by simpa using h0
      go_enter Tryz.func72, Tryz.ntmps72
      go_wp2
      go_ret
      exact ⟨rfl, ((Below.refl _ W).alloc (Nat.le_refl _) _).alloc (by simp) _⟩
  | true =>
    by_cases h0 : tn = 0
    · subst h0
      have k := hIS _ hbA
      have HBA : Hid _ := hbA
      clear hbA hIS
      go_enter Tryz.func72, Tryz.ntmps72
      go_wp2_with fail
      refine k.mono ?_
      rintro e w1 ⟨rfl, hb1⟩
      have HB1 : Hid (Below W.heap.size W w1) := HBA.out.trans (hb1.mono (by simp; omega))
      clear hb1 k
      go_wp2
      go_ret
      exact ⟨by simp, HB1.out⟩
    · have hq1 : (tn == 0) = false := by simpa using h0
      clear hIS
      go_enter Tryz.func72, Tryz.ntmps72
      go_wp2
      go_ret
      exact ⟨by simp [h0], hbA⟩

set_option maxRecDepth 100000 in
set_option maxHeartbeats 4000000 in
theorem takes_int (vs : Value) (lo hi : Int) (t : Tm) (sa : Option Addr) (sc : Nat) (W : World) (hv : t.v = -1) :
    Calls Tryz.prog 72 #[.agg #[vs, .bool false, .int .i64 lo, .int .i64 hi], .agg #[.int .i64 t.v, .bool t.set, .int .i64 t.n, .slice sa t.s.length sc]] W fun e w' => e = .returned (.bool (!t.set && (decide (t.s.length = 0) && (decide (lo ≤ t.n) && decide (t.n ≤ hi))))) ∧ Below W.heap.size W w' := by
  rw [hv]
  obtain ⟨ts, hts⟩ : ∃ x, t.set = x := ⟨_, rfl⟩
  obtain ⟨tn, htn⟩ : ∃ x, t.n = x := ⟨_, rfl⟩
  obtain ⟨sn, hsn⟩ : ∃ x, t.s.length = x := ⟨_, rfl⟩
  rw [hts, htn, hsn]
  clear hts htn hsn hv
  cases ts with
  | true =>
    go_enter Tryz.func72, Tryz.ntmps72
    go_wp2
    go_ret
    exact ⟨rfl, ((Below.refl _ W).alloc (Nat.le_refl _) _).alloc (by simp) _⟩
  | false =>
    by_cases h0 : tn = 0
    · subst h0
      by_cases h1 : sn = 0
      · subst h1
        by_cases h2 : lo ≤ 0 <;> by_cases h3 : 0 ≤ hi <;>
        · go_enter Tryz.func72, Tryz.ntmps72
          go_wp2
          go_ret
          exact ⟨by simp [h2, h3], ((Below.refl _ W).alloc (Nat.le_refl _) _).alloc (by simp) _⟩
      · have hq1 : ((sn : Int) == 0) = false := by simp; omega
        go_enter Tryz.func72, Tryz.ntmps72
        go_wp2
        go_ret
        exact ⟨by simp [h1], ((Below.refl _ W).alloc (Nat.le_refl _) _).alloc (by simp) _⟩
    · have hq1 : (tn == 0) = false := by simpa using h0
      by_cases h1 : sn = 0
      · subst h1
        by_cases h2 : lo ≤ tn <;> by_cases h3 : tn ≤ hi <;>
        · go_enter Tryz.func72, Tryz.ntmps72
          go_wp2
          go_ret
          exact ⟨by simp [h2, h3], ((Below.refl _ W).alloc (Nat.le_refl _) _).alloc (by simp) _⟩
      · have hq2 : ((sn : Int) == 0) = false := by simp; omega
        go_enter Tryz.func72, Tryz.ntmps72
        go_wp2
        go_ret
        exact ⟨by simp [h1], ((Below.refl _ W).alloc (Nat.le_refl _) _).alloc (by simp) _⟩
end Go.Proofs.YtaeobgajhieajaaGreatDoor
