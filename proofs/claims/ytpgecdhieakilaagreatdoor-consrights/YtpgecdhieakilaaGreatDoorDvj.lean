/-
  What is proved here: Right, where what it calls is known.
  What is proved here: slices.EqualFunc of lists of unlike lengths; slices.ContainsFunc of any arguments; takes of any term.
  What is proved here: takes, of any term.
  What is proved here: Right, of the fixed constraint.
  What is proved here: the fixed calls of all statements about constraints.
-/
import Derived.Test.YtpgecdhieakilaaGreatDoorDrj
import Derived.Test.YtpgecdhieakilaaGreatDoorCej
import Derived.BigQuiet
namespace Go.Proofs.YtpgecdhieakilaaGreatDoor
open Go.RowKit Go.Shelf
set_option linter.unusedVariables false
set_option linter.unusedSimpArgs false

def partsF (s : List UInt8) : List (List UInt8) := (Lib.splitB ⟨#[44]⟩ 0 (Lib.countB ⟨s.toArray⟩ ⟨#[44]⟩) ⟨s.toArray⟩).map fun b => b.data.toList
theorem split45 (s : List UInt8) (w : World) (hM : MaxL w) (hs : s.length < 4294967281) :
    Calls Tryz.prog 45 #[.string ⟨s.toArray⟩, .string ⟨#[44]⟩] w fun e w' => ∃ b, e = .returned (.slice (some ⟨b, 0, none⟩) (partsF s).length (partsF s).length) ∧ Ss w' (.slice (some ⟨b, 0, none⟩) (partsF s).length (partsF s).length) (partsF s) ∧ Below w.heap.size w w' := by
  obtain ⟨_, m, hm⟩ := hM
  have hsz : (ByteArray.mk s.toArray).size = s.length := by simp [ByteArray.size]
  have hl : (partsF s).length = Lib.countB ⟨s.toArray⟩ ⟨#[44]⟩ + 1 := by rw [partsF, List.length_map]; exact Lib.splitB_all ⟨#[44]⟩ (Nat.le_refl 1) 0 _ ⟨s.toArray⟩ rfl
  refine (Any.strings_Split Tryz.laysSplit45 (by kernel_rfl) ⟨s.toArray⟩ ⟨#[44]⟩ m w (by omega) hm (Nat.le_refl 1)).mono fun e w' ⟨he, hw⟩ => ?_
  subst hw
  refine ⟨w.heap.size, by rw [he, hl], ⟨_, _, rfl, fun _ => ⟨w.heap.size, rfl, by simp, fun i x hx => ?_⟩⟩, (Below.refl _ w).alloc (Nat.le_refl _) _⟩
  rw [cell_row (World.alloc_heap_new w _)]
  rw [partsF, List.getElem?_map] at hx
  simp only [List.getElem?_toArray, List.getElem?_map]
  cases h : (Lib.splitB ⟨#[44]⟩ 0 (Lib.countB ⟨s.toArray⟩ ⟨#[44]⟩) ⟨s.toArray⟩)[i]? with
  | none => rw [h] at hx; cases hx
  | some b => rw [h] at hx; cases hx; rfl
/-- What Right answers. -/
def rightV (e1 e2 e3 e4 : Bool) : Int := if e1 then (if e2 then 3 else if e3 && e4 then 0 else 50) else 50

set_option maxRecDepth 100000 in
set_option maxHeartbeats 4000000 in
theorem right_walk {W : World} (nm : List UInt8) (a8 : Option Addr) (n8 c8 : Nat) (a9 : Option Addr) (n9 c9 : Nat) (e1 e2 e3 e4 : Bool) (hM : MaxL W) (hF : (findT nm).2 ≠ []) (hF9 : (findT nm).2.length < 4294967281)
    (h46 : ∀ X a n, Below W.heap.size W X → Ss X (.slice a n n) (partsF (findT nm).2) → n = (partsF (findT nm).2).length → Calls Tryz.prog 46 #[.slice a8 n8 c8, .slice a n n, .func (.func 47) #[] #[]] X fun e w' => e = .returned (.bool e1) ∧ Below X.heap.size X w')
    (h48 : e1 = true → ∀ X, Below W.heap.size W X → Calls Tryz.prog 48 #[.slice a8 n8 c8, .func (.func 49) #[] #[]] X fun e w' => e = .returned (.bool e2) ∧ Below X.heap.size X w')
    (h50 : e1 = true → e2 = false → ∀ X a n, Below W.heap.size W X → Ss X (.slice a n n) (partsF (findT nm).2) → n = (partsF (findT nm).2).length → Calls Tryz.prog 50 #[.slice a8 n8 c8, .slice a n n, .slice a9 n9 c9] X fun e w' => e = .returned (.bool e3) ∧ Below X.heap.size X w')
    (h51 : e1 = true → e2 = false → e3 = true → ∀ X, Below W.heap.size W X → Calls Tryz.prog 51 #[.agg #[.string ⟨nm.toArray⟩, .slice a8 n8 c8]] X fun e w' => e = .returned (.bool e4) ∧ Below X.heap.size X w') :
    Calls Tryz.prog 18 #[.agg #[.string ⟨nm.toArray⟩, .slice a8 n8 c8], .slice a9 n9 c9] W fun e w' => e = .returned (.int .i64 (rightV e1 e2 e3 e4)) ∧ Below W.heap.size W w' := by
  obtain ⟨fo, hfo⟩ : ∃ x, (findT nm).2 = x := ⟨_, rfl⟩
  have hbA : Below W.heap.size W (W.alloc (Obj.cells #[.string ⟨nm.toArray⟩, .slice a8 n8 c8] 32)) := (Below.refl _ W).alloc (Nat.le_refl _) _
  have HBA : Hid _ := hbA
  have kF := form_any nm _ (hM.below hbA hM.1)
  rw [hfo] at h46 h50 hF hF9 kF
  have kS := fun X (hX : Below W.heap.size W X) => split45 fo X (hM.below hX hM.1) hF9
  have H46 : Hid _ := h46
  have H48 : Hid _ := h48
  have H50 : Hid _ := h50
  have H51 : Hid _ := h51
  have hne : fo.isEmpty = false := by cases fo with | nil => exact absurd rfl hF | cons _ _ => rfl
  have KS : Hid _ := kS
  have hnew := Blk.new W #[.string ⟨nm.toArray⟩, .slice a8 n8 c8] 32
  have HNEW : Hid _ := hnew
  clear hM h46 h48 h50 h51 hfo hbA hF hF9 kS hnew
  go_enter Tryz.func18, Tryz.ntmps18
  go_wp2_with fail
  refine kF.mono ?_
  clear kF
  rintro e w1 ⟨rfl, hb1⟩
  have HB1 : Hid (Below W.heap.size W w1) := HBA.out.trans (hb1.mono (by simp))
  have HN1 := HNEW.out.below hb1
  have HN1' : Hid _ := HN1
  clear hb1 HN1
  go_wp2_with fail
  refine (KS.out w1 HB1.out).mono ?_
  rintro e w2 ⟨b, rfl, hss, hb2⟩
  have HB2 : Hid (Below W.heap.size W w2) := HB1.out.trans (hb2.mono HB1.out.size)
  have HN2 : Hid _ := HN1'.out.below hb2
  have x1 : w2.cell? ⟨W.heap.size, 1, none⟩ = some (.slice a8 n8 c8) := HN2.out.cell 1
  obtain ⟨np, hnp⟩ : ∃ x, (partsF fo).length = x := ⟨_, rfl⟩
  rw [hnp] at hss ⊢
  have HS2 : Hid (Ss w2 (.slice (some ⟨b, 0, none⟩) np np) (partsF fo)) := hss
  have HNP : Hid (np = (partsF fo).length) := hnp.symm
  clear hb2 hss hnp KS HB1 HNEW HN1'
  go_wp2_with fail
  refine (H46.out w2 _ np HB2.out HS2.out HNP.out).mono ?_
  rintro e w3 ⟨rfl, hb3⟩
  have HB3 : Hid (Below W.heap.size W w3) := HB2.out.trans (hb3.mono HB2.out.size)
  have HN3 : Hid _ := HN2.out.below hb3
  have HS3 : Hid (Ss w3 (.slice (some ⟨b, 0, none⟩) np np) (partsF fo)) := Ss.below HS2.out hb3
  have x1 : w3.cell? ⟨W.heap.size, 1, none⟩ = some (.slice a8 n8 c8) := HN3.out.cell 1
  clear hb3 HN2 HS2 HB2
  cases e1 with
  | false =>
    go_wp2
    go_ret
    exact ⟨rfl, HB3.out⟩
  | true =>
    go_wp2_with fail
    refine (H48.out (by simp) w3 HB3.out).mono ?_
    rintro e w4 ⟨rfl, hb4⟩
    have HB4 : Hid (Below W.heap.size W w4) := HB3.out.trans (hb4.mono HB3.out.size)
    have HN4 : Hid _ := HN3.out.below hb4
    have HS4 : Hid (Ss w4 (.slice (some ⟨b, 0, none⟩) np np) (partsF fo)) := Ss.below HS3.out hb4
    have x1 : w4.cell? ⟨W.heap.size, 1, none⟩ = some (.slice a8 n8 c8) := HN4.out.cell 1
    clear hb4 HN3 HS3 HB3
    cases e2 with
    | true =>
      go_wp2
      go_ret
      exact ⟨rfl, HB4.out⟩
    | false =>
      go_wp2_with fail
      refine (H50.out (by simp) (by simp) w4 _ np HB4.out HS4.out HNP.out).mono ?_
      rintro e w5 ⟨rfl, hb5⟩
      have HB5 : Hid (Below W.heap.size W w5) := HB4.out.trans (hb5.mono HB4.out.size)
      have HN5 : Hid _ := HN4.out.below hb5
      have x0 : w5.cell? ⟨W.heap.size, 0, none⟩ = some (.string ⟨nm.toArray⟩) := HN5.out.cell 0
      have x1 : w5.cell? ⟨W.heap.size, 1, none⟩ = some (.slice a8 n8 c8) := HN5.out.cell 1
      clear hb5 HN4 HS4 HB4
      cases e3 with
      | false =>
        go_wp2
        go_ret
        exact ⟨by cases e4 <;> rfl, HB5.out⟩
      | true =>
        go_wp2_with fail
        refine (H51.out (by simp) (by simp) (by simp) w5 HB5.out).mono ?_
        rintro e w6 ⟨rfl, hb6⟩
        have HB6 : Hid (Below W.heap.size W w6) := HB5.out.trans (hb6.mono HB5.out.size)
        clear hb6
        cases e4 <;>
        · go_wp2
          go_ret
          exact ⟨rfl, HB6.out⟩
end Go.Proofs.YtpgecdhieakilaaGreatDoor

namespace Go.Proofs.YtpgecdhieakilaaGreatDoor
open Go.RowKit Go.Shelf
set_option linter.unusedVariables false
set_option linter.unusedSimpArgs false

/-- Is each argument as the form says? -/
def eqB (ags : List Ag) (parts : List (List UInt8)) : Bool := decide (ags.length = parts.length) && eqF ags parts ags.length

set_option maxRecDepth 100000 in
set_option maxHeartbeats 4000000 in
theorem equalF_ne {a8 a9 : Option Addr} {n8 c8 n9 c9 : Nat} (hne : n8 ≠ n9) (W : World) :
    Calls Tryz.prog 46 #[.slice a8 n8 c8, .slice a9 n9 c9, .func (.func 47) #[] #[]] W fun e w' => e = .returned (.bool false) ∧ Below W.heap.size W w' := by
  have hd : ((n8 : Int) != n9) = true := by simp; omega
  have hd2 : ((n8 : Int) == n9) = false := by simp; omega
  go_enter Tryz.func46, Tryz.ntmps46
  go_wp2
  go_ret
  exact ⟨rfl, Below.refl _ _⟩
theorem equalG {B0 : Nat} {W : World} {a8 : Option Addr} {c8 : Nat} {ags : List Ag} {a9 : Option Addr} {c9 : Nat} {parts : List (List UInt8)} (h : Sa B0 W (.slice a8 ags.length c8) ags) (hp : Ss W (.slice a9 parts.length c9) parts) (hn : ags.length ≤ 4398046510976) (hl : ∀ g ∈ ags, g.l.length ≤ 4398046510976) :
    Calls Tryz.prog 46 #[.slice a8 ags.length c8, .slice a9 parts.length c9, .func (.func 47) #[] #[]] W fun e w' => e = .returned (.bool (eqB ags parts)) ∧ Below W.heap.size W w' := by
  by_cases he : ags.length = parts.length
  · rw [show eqB ags parts = eqF ags parts ags.length by simp [eqB, he]]
    exact equalF h hp he hn hl
  · rw [show eqB ags parts = false by simp [eqB, he]]
    exact equalF_ne he W
/-- An index, or none. -/
def idxOk : Bool → Int → Prop
  | true, r => 0 ≤ r
  | false, r => r = -1
/-- Is an argument too long? -/
def longB (g : Ag) : Bool := decide (1000 < g.l.length)

set_option maxRecDepth 100000 in
set_option maxHeartbeats 4000000 in
theorem tooLongG (g : Ag) (a : Option Addr) (c : Nat) (W : World) (hl : g.l.length ≤ 4398046510976) : Calls Tryz.prog 49 #[.agg #[.bool g.arr, .slice a g.l.length c]] W fun e w' => e = .returned (.bool (longB g)) ∧ Below W.heap.size W w' := by
  have HE : Hid (longB g = decide (1000 < g.l.length)) := rfl
  obtain ⟨r, hr⟩ : ∃ r, longB g = r := ⟨_, rfl⟩
  obtain ⟨ar, har⟩ : ∃ x, g.arr = x := ⟨_, rfl⟩
  obtain ⟨n, hn⟩ : ∃ n, g.l.length = n := ⟨_, rfl⟩
  rw [hr, hn] at HE
  rw [hn] at hl
  rw [hr, har, hn]
  clear har hn hr
  by_cases h1 : (1000 : Int) < n <;>
  · go_enter Tryz.func49, Tryz.ntmps49
    go_wp2
    go_ret
    exact ⟨by rw [HE.out]; simp [h1]; omega, (Below.refl _ W).alloc (Nat.le_refl _) _⟩

set_option maxRecDepth 100000 in
set_option maxHeartbeats 4000000 in
theorem indexG {B0 : Nat} {W : World} {a8 : Option Addr} {c8 n : Nat} {ags : List Ag} (h : Sa B0 W (.slice a8 n c8) ags) (hlen : ags.length = n) (hn : n ≤ 4398046510976) (hl : ∀ g ∈ ags, g.l.length ≤ 4398046510976) :
    Calls Tryz.prog 69 #[.slice a8 n c8, .func (.func 49) #[] #[]] W fun e w' => (∃ r : Int, e = .returned (.int .i64 r) ∧ idxOk (ags.any longB) r) ∧ Below W.heap.size W w' := by
  have HA : Hid (Sa B0 W (.slice a8 n c8) ags) := h
  have HN : Hid (ags.length = n) := hlen
  have HL : Hid (∀ g ∈ ags, g.l.length ≤ 4398046510976) := hl
  clear h hlen hl
  go_enter Tryz.func69, Tryz.ntmps69
  go_wp2
  go_loopw [8] (fun i wr => ∃ k : Nat, k ≤ n ∧ i = .int .i64 (k : Int) ∧ Hid ((ags.take k).any longB = false) ∧ Hid (Below W.heap.size W wr)) (fun i _ => n - (intOf i).toNat)
  case atStart => exact ⟨0, Nat.zero_le _, rfl, by simp [Hid], Below.refl _ _⟩
  case round =>
    obtain ⟨k, hk, rfl, HQ, HB⟩ := hrel
    by_cases hlt : k < n
    · have hlt' : (k : Int) < n := by omega
      obtain ⟨g, hg⟩ : ∃ g, ags[k]? = some g := ⟨_, List.getElem?_eq_getElem (by rw [HN.out]; exact hlt)⟩
      have HS : Hid ((ags.take (k + 1)).any longB = ((ags.take k).any longB || longB g)) := by
        obtain ⟨hi, rfl⟩ := List.getElem?_eq_some_iff.1 hg
        show (ags.take (k + 1)).any longB = _
        rw [List.take_succ_eq_append_getElem hi, List.any_append]
        simp
      have HMEM : Hid (g ∈ ags) := List.mem_of_getElem? hg
      obtain ⟨b, off, a2, c2, rfl, hb, _, d0, d1⟩ := HA.out.at hg
      have y0 := (HB.out.cell (p := ⟨b, off + k * 2, none⟩) hb).trans d0
      have y1 := (HB.out.cell (p := ⟨b, off + k * 2 + 1, none⟩) hb).trans d1
      have hgl := HL.out g (List.mem_of_getElem? hg)
      have hsh := fun X => tooLongG g a2 c2 X hgl
      obtain ⟨r, hr⟩ : ∃ r, longB g = r := ⟨_, rfl⟩
      rw [hr] at hsh HS
      have HR : Hid (longB g = r) := hr
      clear d0 d1 hg hr
      have hw2 : IntKind.i64.wrap ((k : Int) + 1) = (k : Int) + 1 := by rw [IntKind.wrap_i64]; omega
      go_wp2_with fail
      refine (hsh _).mono ?_
      rintro e w1 ⟨rfl, hb1⟩
      have HB1 : Hid (Below W.heap.size W w1) := HB.out.trans (hb1.mono HB.out.size)
      clear hb1 hsh
      rw [HQ.out] at HS
      cases r with
      | false =>
        go_wp2
        go_roundw
        case rel => exact ⟨k + 1, by omega, by go_num, by rw [HS.out]; rfl, HB1⟩
        case measure => simp [intOf]; omega
      | true =>
        have HF : Hid (ags.any longB = true) := List.any_eq_true.2 ⟨g, HMEM.out, HR.out⟩
        go_wp2
        go_ret
        exact ⟨⟨_, rfl, by rw [HF.out]; exact Int.natCast_nonneg k⟩, HB1.out⟩
    · have hlt' : ¬ (k : Int) < n := by omega
      obtain rfl : k = n := by omega
      have HF : Hid (ags.any longB = false) := by have := HQ.out; rwa [List.take_of_length_le (by rw [HN.out]; exact Nat.le_refl _)] at this
      go_wp2
      go_ret
      exact ⟨⟨_, rfl, by rw [HF.out]; exact rfl⟩, HB.out⟩

set_option maxRecDepth 100000 in
set_option maxHeartbeats 4000000 in
theorem containsG {B0 : Nat} {W : World} {a8 : Option Addr} {c8 n : Nat} {ags : List Ag} (h : Sa B0 W (.slice a8 n c8) ags) (hlen : ags.length = n) (hn : n ≤ 4398046510976) (hl : ∀ g ∈ ags, g.l.length ≤ 4398046510976) :
    Calls Tryz.prog 48 #[.slice a8 n c8, .func (.func 49) #[] #[]] W fun e w' => e = .returned (.bool (ags.any longB)) ∧ Below W.heap.size W w' := by
  have k := indexG h hlen hn hl
  obtain ⟨q, hq⟩ : ∃ q, ags.any longB = q := ⟨_, rfl⟩
  rw [hq] at k ⊢
  clear h hlen hl hq
  go_enter Tryz.func48, Tryz.ntmps48
  go_wp2_with fail
  refine k.mono ?_
  rintro e w1 ⟨⟨r, rfl, hr⟩, hb1⟩
  have HB : Hid _ := hb1
  clear hb1 k
  cases q with
  | true =>
    have h0 : (0 : Int) ≤ r := hr
    clear hr
    go_wp2
    go_ret
    exact ⟨by simp [h0], HB.out⟩
  | false =>
    obtain rfl : r = -1 := hr
    go_wp2
    go_ret
    exact ⟨rfl, HB.out⟩
end Go.Proofs.YtpgecdhieakilaaGreatDoor

namespace Go.Proofs.YtpgecdhieakilaaGreatDoor
open Go.RowKit Go.Shelf
set_option linter.unusedVariables false
set_option linter.unusedSimpArgs false

/-- Is a term's value zero? -/
def zeroB (t : Tm) : Bool := !t.set && (decide (t.n = 0) && decide (t.s.length = 0))
/-- Truths in memory. -/
def Sb (W : World) (s : Value) (l : List Bool) : Prop := ∃ a c, s = .slice a l.length c ∧ (0 < l.length → ∃ b off, a = some ⟨b, off, none⟩ ∧ b < W.heap.size ∧ ∀ i x, l[i]? = some x → W.cell? ⟨b, off + i, none⟩ = some (.bool x))
theorem Sb.below {W W' : World} {s : Value} {l : List Bool} (h : Sb W s l) (hb : Below W.heap.size W W') : Sb W' s l := by
  obtain ⟨a, c, e, h⟩ := h
  exact ⟨a, c, e, fun h0 => by obtain ⟨b, off, e1, e2, e3⟩ := h h0; exact ⟨b, off, e1, Nat.lt_of_lt_of_le e2 hb.size, fun i x hx => (hb.cell (p := ⟨b, off + i, none⟩) e2).trans (e3 i x hx)⟩⟩
/-- May a variable stand there? -/
def varB (bs : List Bool) (st : Bool) (v : Int) : Bool := decide (0 ≤ v) && (match bs[v.toNat]? with | some x => x == st | none => false)
def takesB (sB : List Int → Bool) (bs : List Bool) (st : Bool) (lo hi : Int) (t : Tm) : Bool :=
  if t.v = -1 then (if st then t.set && (decide (t.n = 0) && sB t.s) else !t.set && (decide (t.s.length = 0) && (decide (lo ≤ t.n) && decide (t.n ≤ hi))))
  else varB bs st t.v && zeroB t

set_option maxRecDepth 100000 in
set_option maxHeartbeats 4000000 in
theorem takes_var (a : Option Addr) (n c : Nat) (bs : List Bool) (st : Bool) (lo hi : Int) (t : Tm) (sa : Option Addr) (sc : Nat) (W : World) (hb : Sb W (.slice a n c) bs) (hn : bs.length = n) (hv : t.v ≠ -1) :
    Calls Tryz.prog 72 #[.agg #[.slice a n c, .bool st, .int .i64 lo, .int .i64 hi], .agg #[.int .i64 t.v, .bool t.set, .int .i64 t.n, .slice sa t.s.length sc]] W fun e w' => e = .returned (.bool (varB bs st t.v && zeroB t)) ∧ Below W.heap.size W w' := by
  have HZ : Hid (zeroB t = (!t.set && (decide (t.n = 0) && decide (t.s.length = 0)))) := rfl
  have HV : Hid (varB bs st t.v = (decide (0 ≤ t.v) && (match bs[t.v.toNat]? with | some x => x == st | none => false))) := rfl
  obtain ⟨rz, hrz⟩ : ∃ x, zeroB t = x := ⟨_, rfl⟩
  obtain ⟨rv, hrv⟩ : ∃ x, varB bs st t.v = x := ⟨_, rfl⟩
  obtain ⟨tv, htv⟩ : ∃ x, t.v = x := ⟨_, rfl⟩
  obtain ⟨ts, hts⟩ : ∃ x, t.set = x := ⟨_, rfl⟩
  obtain ⟨tn, htn⟩ : ∃ x, t.n = x := ⟨_, rfl⟩
  obtain ⟨sn, hsn⟩ : ∃ x, t.s.length = x := ⟨_, rfl⟩
  rw [hrz, hts, htn, hsn] at HZ
  rw [hrv, htv] at HV
  rw [htv] at hv
  rw [hrz, hrv, htv, hts, htn, hsn]
  clear hrz hrv htv hts htn hsn
  have hd1 : (tv != -1) = true := by simpa using hv
  have hd2 : (tv == -1) = false := by simpa using hv
  have hz : (ts = true ∧ rz = false) ∨ (ts = false ∧ tn ≠ 0 ∧ rz = false) ∨ (ts = false ∧ tn = 0 ∧ sn ≠ 0 ∧ rz = false) ∨ (ts = false ∧ tn = 0 ∧ sn = 0 ∧ rz = true) := by
    have hz1 := HZ.out
    cases ts
    · by_cases h1 : tn = 0
      · by_cases h2 : sn = 0
        · simp [h1, h2] at hz1; exact .inr (.inr (.inr ⟨rfl, h1, h2, hz1⟩))
        · simp [h1, h2] at hz1; exact .inr (.inr (.inl ⟨rfl, h1, h2, hz1⟩))
      · simp [h1] at hz1; exact .inr (.inl ⟨rfl, h1, hz1⟩)
    · simp at hz1; exact .inl ⟨rfl, hz1⟩
  have hx : (tv < 0 ∧ rv = false) ∨ (0 ≤ tv ∧ (n : Int) ≤ tv ∧ rv = false) ∨ (∃ k : Nat, tv = k ∧ k < n ∧ ∃ b off x, a = some ⟨b, off, none⟩ ∧ b < W.heap.size ∧ W.cell? ⟨b, off + k, none⟩ = some (.bool x) ∧ rv = (x == st)) := by
    have hv1 := HV.out
    by_cases h1 : tv < 0
    · rw [decide_eq_false (by omega)] at hv1; exact .inl ⟨h1, hv1⟩
    · rw [decide_eq_true (by omega)] at hv1
      by_cases h2 : tv.toNat < n
      · have hcast : tv = ((tv.toNat : Nat) : Int) := by omega
        have hpos : 0 < bs.length := by omega
        obtain ⟨x, hx⟩ : ∃ x, bs[tv.toNat]? = some x := ⟨_, List.getElem?_eq_getElem (by omega)⟩
        rw [hx] at hv1
        obtain ⟨a', c', e, hb'⟩ := hb
        injection e with e1 e2 e3
        subst e1
        obtain ⟨b, off, e1, e2, e3⟩ := hb' hpos
        exact .inr (.inr ⟨tv.toNat, hcast, h2, b, off, x, e1, e2, e3 _ x hx, by simpa using hv1⟩)
      · rw [List.getElem?_eq_none (by omega)] at hv1
        exact .inr (.inl ⟨by omega, by omega, by simpa using hv1⟩)
  clear HZ HV hb hn
  rcases hz with ⟨rfl, rfl⟩ | ⟨rfl, hn0, rfl⟩ | ⟨rfl, rfl, hs0, rfl⟩ | ⟨rfl, rfl, rfl, rfl⟩
  · rcases hx with ⟨h3, rfl⟩ | ⟨h3, h4, rfl⟩ | ⟨k, rfl, hk, b, off, x, rfl, hb, hc, rfl⟩
    · have h5 : ¬ 0 ≤ tv := by omega
      go_enter Tryz.func72, Tryz.ntmps72
      go_upto_region 3 with (fail)
      go_quiet (fail)
      go_wp2
      go_ret
      exact ⟨rfl, below_drewN (((Below.refl _ W).alloc (Nat.le_refl _) _).alloc (by simp) _) _⟩
    · have h5 : ¬ tv < n := by omega
      go_enter Tryz.func72, Tryz.ntmps72
      go_upto_region 3 with (fail)
      go_quiet (fail)
      go_wp2
      go_ret
      exact ⟨rfl, below_drewN (((Below.refl _ W).alloc (Nat.le_refl _) _).alloc (by simp) _) _⟩
    · have h5 : (0 : Int) ≤ k := by omega
      have h6 : (k : Int) < n := by omega
      cases x <;> cases st <;>
      · go_enter Tryz.func72, Tryz.ntmps72
        go_upto_region 3 with (fail)
        go_quiet (fail)
        go_wp2
        go_ret
        exact ⟨rfl, below_drewN (((Below.refl _ W).alloc (Nat.le_refl _) _).alloc (by simp) _) _⟩
  · have hq1 : (tn == 0) = false := by simpa using hn0
    rcases hx with ⟨h3, rfl⟩ | ⟨h3, h4, rfl⟩ | ⟨k, rfl, hk, b, off, x, rfl, hb, hc, rfl⟩
    · have h5 : ¬ 0 ≤ tv := by omega
      go_enter Tryz.func72, Tryz.ntmps72
      go_upto_region 3 with (fail)
      go_quiet (fail)
      go_wp2
      go_ret
      exact ⟨rfl, below_drewN (((Below.refl _ W).alloc (Nat.le_refl _) _).alloc (by simp) _) _⟩
    · have h5 : ¬ tv < n := by omega
      go_enter Tryz.func72, Tryz.ntmps72
      go_upto_region 3 with (fail)
      go_quiet (fail)
      go_wp2
      go_ret
      exact ⟨rfl, below_drewN (((Below.refl _ W).alloc (Nat.le_refl _) _).alloc (by simp) _) _⟩
    · have h5 : (0 : Int) ≤ k := by omega
      have h6 : (k : Int) < n := by omega
      cases x <;> cases st <;>
      · go_enter Tryz.func72, Tryz.ntmps72
        go_upto_region 3 with (fail)
        go_quiet (fail)
        go_wp2
        go_ret
        exact ⟨rfl, below_drewN (((Below.refl _ W).alloc (Nat.le_refl _) _).alloc (by simp) _) _⟩
  · have hq1 : ((sn : Int) == 0) = false := by simp; omega
    rcases hx with ⟨h3, rfl⟩ | ⟨h3, h4, rfl⟩ | ⟨k, rfl, hk, b, off, x, rfl, hb, hc, rfl⟩
    · have h5 : ¬ 0 ≤ tv := by omega
      go_enter Tryz.func72, Tryz.ntmps72
      go_upto_region 3 with (fail)
      go_quiet (fail)
      go_wp2
      go_ret
      exact ⟨rfl, below_drewN (((Below.refl _ W).alloc (Nat.le_refl _) _).alloc (by simp) _) _⟩
    · have h5 : ¬ tv < n := by omega
      go_enter Tryz.func72, Tryz.ntmps72
      go_upto_region 3 with (fail)
      go_quiet (fail)
      go_wp2
      go_ret
      exact ⟨rfl, below_drewN (((Below.refl _ W).alloc (Nat.le_refl _) _).alloc (by simp) _) _⟩
    · have h5 : (0 : Int) ≤ k := by omega
      have h6 : (k : Int) < n := by omega
      cases x <;> cases st <;>
      · go_enter Tryz.func72, Tryz.ntmps72
        go_upto_region 3 with (fail)
        go_quiet (fail)
        go_wp2
        go_ret
        exact ⟨rfl, below_drewN (((Below.refl _ W).alloc (Nat.le_refl _) _).alloc (by simp) _) _⟩
  · rcases hx with ⟨h3, rfl⟩ | ⟨h3, h4, rfl⟩ | ⟨k, rfl, hk, b, off, x, rfl, hb, hc, rfl⟩
    · have h5 : ¬ 0 ≤ tv := by omega
      go_enter Tryz.func72, Tryz.ntmps72
      go_upto_region 3 with (fail)
      go_quiet (fail)
      go_wp2
      go_ret
      exact ⟨rfl, below_drewN (((Below.refl _ W).alloc (Nat.le_refl _) _).alloc (by simp) _) _⟩
    · have h5 : ¬ tv < n := by omega
      go_enter Tryz.func72, Tryz.ntmps72
      go_upto_region 3 with (fail)
      go_quiet (fail)
      go_wp2
      go_ret
      exact ⟨rfl, below_drewN (((Below.refl _ W).alloc (Nat.le_refl _) _).alloc (by simp) _) _⟩
    · have h5 : (0 : Int) ≤ k := by omega
      have h6 : (k : Int) < n := by omega
      cases x <;> cases st <;>
      · go_enter Tryz.func72, Tryz.ntmps72
        go_upto_region 3 with (fail)
        go_quiet (fail)
        go_wp2
        go_ret
        exact ⟨rfl, below_drewN (((Below.refl _ W).alloc (Nat.le_refl _) _).alloc (by simp) _) _⟩

set_option maxRecDepth 100000 in
set_option maxHeartbeats 4000000 in
theorem takes_set (vs : Value) (lo hi : Int) (t : Tm) (sB : Bool) (sa : Option Addr) (sc : Nat) (W : World) (hv : t.v = -1)
    (hIS : ∀ X, Below W.heap.size W X → Calls Tryz.prog 103 #[.slice sa t.s.length sc] X fun e w' => e = .returned (.bool sB) ∧ Below X.heap.size X w') :
    Calls Tryz.prog 72 #[.agg #[vs, .bool true, .int .i64 lo, .int .i64 hi], .agg #[.int .i64 t.v, .bool t.set, .int .i64 t.n, .slice sa t.s.length sc]] W fun e w' => e = .returned (.bool (t.set && (decide (t.n = 0) && sB))) ∧ Below W.heap.size W w' := by
  rw [hv]
  obtain ⟨ts, hts⟩ : ∃ x, t.set = x := ⟨_, rfl⟩
  obtain ⟨tn, htn⟩ : ∃ x, t.n = x := ⟨_, rfl⟩
  obtain ⟨sn, hsn⟩ : ∃ x, t.s.length = x := ⟨_, rfl⟩
  rw [hsn] at hIS
  rw [hts, htn, hsn]
  clear hts htn hsn hv
  have hbA : Below W.heap.size W ((W.alloc (Obj.cells #[vs, .bool true, .int .i64 lo, .int .i64 hi] 108)).alloc (Obj.cells #[.int .i64 (-1), .bool ts, .int .i64 tn, .slice sa sn sc] 46)) := ((Below.refl _ W).alloc (Nat.le_refl _) _).alloc (by simp) _
  cases ts with
  | false =>
    by_cases h0 : tn = 0
    · subst h0
      by_cases h1 : sn = 0
      · subst h1
        go_enter Tryz.func72, Tryz.ntmps72
        go_wp2
        go_ret
        exact ⟨rfl, ((Below.refl _ W).alloc (Nat.le_refl _) _).alloc (by simp) _⟩
      · have hq1 : ((sn : Int) == 0) = false := by simp; omega
        go_enter Tryz.func72, Tryz.ntmps72
        go_wp2
        go_ret
        exact ⟨rfl, ((Below.refl _ W).alloc (Nat.le_refl _) _).alloc (by simp) _⟩
    · have hq1 : (tn == 0) = false := by simpa using h0
      go_enter Tryz.func72, Tryz.ntmps72
      go_wp2
      go_ret
      exact ⟨rfl, ((Below.refl _ W).alloc (Nat.le_refl _) _).alloc (by simp) _⟩
  | true =>
    by_cases h0 : tn = 0
    · subst h0
      have k := hIS _ hbA
      have HBA : Hid _ := hbA
      clear hbA hIS
      go_enter Tryz.func72, Tryz.ntmps72
      go_wp2_with fail
      refine k.mono ?_
      rintro e w1 ⟨rfl, hb1⟩
      have HB1 : Hid (Below W.heap.size W w1) := HBA.out.trans (hb1.mono (by simp; omega))
      clear hb1 k
      go_wp2
      go_ret
      exact ⟨by simp, HB1.out⟩
    · have hq1 : (tn == 0) = false := by simpa using h0
      clear hIS
      go_enter Tryz.func72, Tryz.ntmps72
      go_wp2
      go_ret
      exact ⟨by simp [h0], hbA⟩

set_option maxRecDepth 100000 in
set_option maxHeartbeats 4000000 in
theorem takes_int (vs : Value) (lo hi : Int) (t : Tm) (sa : Option Addr) (sc : Nat) (W : World) (hv : t.v = -1) :
    Calls Tryz.prog 72 #[.agg #[vs, .bool false, .int .i64 lo, .int .i64 hi], .agg #[.int .i64 t.v, .bool t.set, .int .i64 t.n, .slice sa t.s.length sc]] W fun e w' => e = .returned (.bool (!t.set && (decide (t.s.length = 0) && (decide (lo ≤ t.n) && decide (t.n ≤ hi))))) ∧ Below W.heap.size W w' := by
  rw [hv]
  obtain ⟨ts, hts⟩ : ∃ x, t.set = x := ⟨_, rfl⟩
  obtain ⟨tn, htn⟩ : ∃ x, t.n = x := ⟨_, rfl⟩
  obtain ⟨sn, hsn⟩ : ∃ x, t.s.length = x := ⟨_, rfl⟩
  rw [hts, htn, hsn]
  clear hts htn hsn hv
  cases ts with
  | true =>
    go_enter Tryz.func72, Tryz.ntmps72
    go_wp2
    go_ret
    exact ⟨rfl, ((Below.refl _ W).alloc (Nat.le_refl _) _).alloc (by simp) _⟩
  | false =>
    by_cases h0 : tn = 0
    · subst h0
      by_cases h1 : sn = 0
      · subst h1
        by_cases h2 : lo ≤ 0 <;> by_cases h3 : 0 ≤ hi <;>
        · go_enter Tryz.func72, Tryz.ntmps72
          go_wp2
          go_ret
          exact ⟨by simp [h2, h3], ((Below.refl _ W).alloc (Nat.le_refl _) _).alloc (by simp) _⟩
      · have hq1 : ((sn : Int) == 0) = false := by simp; omega
        go_enter Tryz.func72, Tryz.ntmps72
        go_wp2
        go_ret
        exact ⟨by simp [h1], ((Below.refl _ W).alloc (Nat.le_refl _) _).alloc (by simp) _⟩
    · have hq1 : (tn == 0) = false := by simpa using h0
      by_cases h1 : sn = 0
      · subst h1
        by_cases h2 : lo ≤ tn <;> by_cases h3 : tn ≤ hi <;>
        · go_enter Tryz.func72, Tryz.ntmps72
          go_wp2
          go_ret
          exact ⟨by simp [h2, h3], ((Below.refl _ W).alloc (Nat.le_refl _) _).alloc (by simp) _⟩
      · have hq2 : ((sn : Int) == 0) = false := by simp; omega
        go_enter Tryz.func72, Tryz.ntmps72
        go_wp2
        go_ret
        exact ⟨by simp [h1], ((Below.refl _ W).alloc (Nat.le_refl _) _).alloc (by simp) _⟩
end Go.Proofs.YtpgecdhieakilaaGreatDoor

namespace Go.Proofs.YtpgecdhieakilaaGreatDoor
open Go.RowKit Go.Shelf
set_option linter.unusedVariables false
set_option linter.unusedSimpArgs false

abbrev linN : List UInt8 := [105, 110, 116, 95, 108, 105, 110, 95, 108, 101]
abbrev linA : List Ag := [⟨true, [⟨-1, false, 2, []⟩, ⟨-1, false, -1, []⟩]⟩, ⟨true, [⟨0, false, 0, []⟩, ⟨3, false, 0, []⟩]⟩, ⟨false, [⟨-1, false, 5, []⟩]⟩]
theorem lin_form : (findT linN).2 = [97, 105, 44, 97, 73, 44, 105] := by kernel_rfl
theorem lin_family : (findT linN).1 = [108, 105, 110, 101, 97, 114] := by kernel_rfl
theorem lin_parts : partsF [97, 105, 44, 97, 73, 44, 105] = [[97, 105], [97, 73], [105]] := by kernel_rfl
theorem lin_shaped : eqF linA [[97, 105], [97, 73], [105]] 3 = true := by kernel_rfl
def linTk (r : Bool) : Nat → Tm → Bool
  | 1, t => if t.v = 3 then r else true
  | _, _ => true
theorem lin_taken (r : Bool) : tkL (linTk r) linA 3 = r := by cases r <;> kernel_rfl
def linPv (vs : Value) : Nat → Value
  | 1 => .agg #[vs, .bool false, .int .i64 (-1000000), .int .i64 1000000]
  | _ => .agg #[.slice none 0 0, .bool false, .int .i64 (-1000000000), .int .i64 1000000000]

set_option maxRecDepth 100000 in
set_option maxHeartbeats 4000000 in
theorem right_lin {W : World} {a8 : Option Addr} {c8 : Nat} {a9 : Option Addr} {n9 c9 : Nat} (r : Bool) (hM : MaxL W) (hS : Sa 0 W (.slice a8 3 c8) linA) (hc : 3 ≤ c8)
    (h0 : ∀ X a c, Below W.heap.size W X → Calls Tryz.prog 72 #[.agg #[.slice a9 n9 c9, .bool false, .int .i64 (-1000000), .int .i64 1000000], .agg #[.int .i64 0, .bool false, .int .i64 0, .slice a 0 c]] X fun e w' => e = .returned (.bool true) ∧ Below X.heap.size X w')
    (h3 : ∀ X a c, Below W.heap.size W X → Calls Tryz.prog 72 #[.agg #[.slice a9 n9 c9, .bool false, .int .i64 (-1000000), .int .i64 1000000], .agg #[.int .i64 3, .bool false, .int .i64 0, .slice a 0 c]] X fun e w' => e = .returned (.bool r) ∧ Below X.heap.size X w') :
    Calls Tryz.prog 18 #[.agg #[.string ⟨linN.toArray⟩, .slice a8 3 c8], .slice a9 n9 c9] W fun e w' => e = .returned (.int .i64 (if r then 0 else 50)) ∧ Below W.heap.size W w' := by
  have hp : partsF (findT linN).2 = [[97, 105], [97, 73], [105]] := by rw [lin_form]; exact lin_parts
  refine (right_walk linN a8 3 c8 a9 n9 c9 true false r true hM (by rw [lin_form]; simp) (by rw [lin_form]; simp) ?_ ?_ ?_ ?_).mono fun e w' ⟨he, hb⟩ => ⟨by rw [he]; cases r <;> rfl, hb⟩
  · intro X a n hX hss hn
    rw [hp] at hss hn
    obtain rfl : n = 3 := hn
    have := equalF (parts := [[97, 105], [97, 73], [105]]) (a9 := a) (c9 := 3) (hS.below hX) hss (by simp) (by simp) (by intro g hg; simp at hg; rcases hg with rfl | rfl | rfl <;> simp)
    rw [show (linA.length) = 3 from rfl, lin_shaped] at this
    exact this
  · intro _ X hX
    exact containsF (hS.below hX) rfl (by simp) (by intro g hg; simp at hg; rcases hg with rfl | rfl | rfl <;> simp)
  · intro _ _ X a n hX hss hn
    rw [hp] at hss hn
    obtain rfl : n = 3 := hn
    have := allTaken_any (vs := .slice a9 n9 c9) (linPv (.slice a9 n9 c9)) (linTk r) (hS.below hX) hss rfl rfl (by simp) (by intro g hg; simp at hg; rcases hg with rfl | rfl | rfl <;> simp) ?_ ?_
    · rw [lin_taken] at this
      exact this
    · intro k part Y hk hY
      match k, hk with
      | 0, hk => simp at hk; subst hk; exact place_i a9 n9 c9 Y
      | 1, hk => simp at hk; subst hk; exact place_I a9 n9 c9 Y
      | 2, hk => simp at hk; subst hk; exact place_i a9 n9 c9 Y
    · intro k g t a' c' Y hk ht hsi hY
      have hY' := hX.trans (hY.mono hX.size)
      match k, hk with
      | 0, hk => simp at hk; subst hk; simp at ht; rcases ht with rfl | rfl <;> exact (takes_num _ _ _ _ a' c' Y).mono fun e w' ⟨he, hb⟩ => ⟨by rw [he]; rfl, hb⟩
      | 1, hk =>
        simp at hk; subst hk; simp at ht
        rcases ht with rfl | rfl
        · exact (h0 Y a' c' hY')
        · exact (h3 Y a' c' hY').mono fun e w' ⟨he, hb⟩ => ⟨by rw [he]; rfl, hb⟩
      | 2, hk => simp at hk; subst hk; simp at ht; subst ht; exact (takes_num _ _ _ _ a' c' Y).mono fun e w' ⟨he, hb⟩ => ⟨by rw [he]; rfl, hb⟩
  · intro _ _ _ X hX
    exact fits_lin (m := 2) (hS.below hX) rfl (by simp) (by simp) hc (by intro g hg; simp at hg; rcases hg with rfl | rfl <;> simp)
end Go.Proofs.YtpgecdhieakilaaGreatDoor

namespace Go.Proofs.YtpgecdhieakilaaGreatDoor
open Go.RowKit Go.Shelf
set_option linter.unusedVariables false
set_option linter.unusedSimpArgs false

theorem st_two (w : World) (v1 n1 v2 n2 : Int) : St 0 (w.alloc (Obj.cells #[.int .i64 v1, .bool false, .int .i64 n1, .slice none 0 0, .int .i64 v2, .bool false, .int .i64 n2, .slice none 0 0] 46)) (.slice (some ⟨w.heap.size, 0, none⟩) 2 2) [⟨v1, false, n1, []⟩, ⟨v2, false, n2, []⟩] := by
  have hk := Blk.new w #[.int .i64 v1, .bool false, .int .i64 n1, .slice none 0 0, .int .i64 v2, .bool false, .int .i64 n2, .slice none 0 0] 46
  refine ⟨_, _, rfl, fun _ => ⟨_, 0, [.slice none 0 0, .slice none 0 0], rfl, Nat.zero_le _, by simp, rfl, fun i t sv h1 h2 => ?_⟩⟩
  match i, h1, h2 with
  | 0, h1, h2 =>
    simp at h1 h2; subst h1; subst h2
    refine ⟨⟨none, 0, rfl, fun h => absurd h (by simp)⟩, fun q u hu => ?_⟩
    rw [hk.cell]
    match q, hu with
    | 0, hu => simpa [Tm.cells] using hu
    | 1, hu => simpa [Tm.cells] using hu
    | 2, hu => simpa [Tm.cells] using hu
    | 3, hu => simpa [Tm.cells] using hu
  | 1, h1, h2 =>
    simp at h1 h2; subst h1; subst h2
    refine ⟨⟨none, 0, rfl, fun h => absurd h (by simp)⟩, fun q u hu => ?_⟩
    rw [hk.cell]
    match q, hu with
    | 0, hu => simpa [Tm.cells] using hu
    | 1, hu => simpa [Tm.cells] using hu
    | 2, hu => simpa [Tm.cells] using hu
    | 3, hu => simpa [Tm.cells] using hu
theorem sa_three {w : World} {v1 v2 v3 : Value} {l1 l2 l3 : List Tm} (h1 : St 0 w v1 l1) (h2 : St 0 w v2 l2) (h3 : St 0 w v3 l3) : Sa 0 (w.alloc (Obj.cells #[.bool true, v1, .bool true, v2, .bool false, v3] 54)) (.slice (some ⟨w.heap.size, 0, none⟩) 3 3) [⟨true, l1⟩, ⟨true, l2⟩, ⟨false, l3⟩] := by
  have hk := Blk.new w #[.bool true, v1, .bool true, v2, .bool false, v3] 54
  have hb : Below w.heap.size w (w.alloc (Obj.cells #[.bool true, v1, .bool true, v2, .bool false, v3] 54)) := (Below.refl _ w).alloc (Nat.le_refl _) _
  refine ⟨_, _, rfl, fun _ => ⟨_, 0, [v1, v2, v3], rfl, Nat.zero_le _, by simp, rfl, fun i g sv e1 e2 => ?_⟩⟩
  match i, e1, e2 with
  | 0, e1, e2 => simp at e1 e2; subst e1; subst e2; exact ⟨h1.below hb, hk.cell 0, hk.cell 1⟩
  | 1, e1, e2 => simp at e1 e2; subst e1; subst e2; exact ⟨h2.below hb, hk.cell 2, hk.cell 3⟩
  | 2, e1, e2 => simp at e1 e2; subst e1; subst e2; exact ⟨h3.below hb, hk.cell 4, hk.cell 5⟩
theorem own_two {X : World} {B : Nat} {v : Value} {x y : Int} (h : X.ownsRow B 3 1 v 2 (intv [x, y])) : ∃ g c, v = .slice (some ⟨g, 0, none⟩) 2 c ∧ g < X.heap.size ∧ X.cell? ⟨g, 1, none⟩ = some (.int .i64 y) := by
  rcases h.2 with ⟨e1, e2⟩ | ⟨g, cap, cur, e1, hg, hgb, hn, hm, hs, ht⟩
  · omega
  · refine ⟨g, cap, e1, (Array.getElem?_eq_some_iff.1 hgb).1, ?_⟩
    rw [cell_row hgb]
    have : (intv [x, y])[1]? = some (.int .i64 y) := rfl
    rw [← ht, List.getElem?_take, if_pos (by omega), Array.getElem?_toList] at this
    exact this
theorem lin_sort : sortL [0, 3] = [0, 3] := by
  unfold sortL
  first
  | exact List.mergeSort_of_pairwise (by simp)
  | exact List.mergeSort_of_sorted (by simp)
  | simp [List.mergeSort, List.merge]
theorem lin_vars : Lib.compact (sortL (varsA linA)) = [0, 3] := by
  rw [show varsA linA = [0, 3] from rfl, lin_sort]
  rfl
abbrev lin1 : List Tm := [⟨-1, false, 2, []⟩, ⟨-1, false, -1, []⟩]
abbrev lin2 : List Tm := [⟨0, false, 0, []⟩, ⟨3, false, 0, []⟩]
abbrev lin3 : List Tm := [⟨-1, false, 5, []⟩]
theorem lin_text : cnT linN linA = [105, 110, 116, 95, 108, 105, 110, 95, 108, 101, 40, 91, 50, 44, 32, 45, 49, 93, 44, 32, 91, 120, 48, 44, 32, 120, 51, 93, 44, 32, 53, 41] := by kernel_rfl
/-- What holds through the fixed calls. -/
structure Kw (W X : World) (s : Value) (bc : Nat) : Prop where
  b : Below W.heap.size W X
  m : MaxL X
  a : Sa 0 X s linA
  c : Blk X bc #[.string ⟨linN.toArray⟩, s] 32
theorem Kw.below {W X Y : World} {s : Value} {bc : Nat} (h : Kw W X s bc) (hb : Below X.heap.size X Y) : Kw W Y s bc :=
  ⟨h.b.trans (hb.mono h.b.size), h.m.below hb h.m.1, h.a.below hb, h.c.below hb⟩

set_option maxRecDepth 100000 in
set_option maxHeartbeats 4000000 in
theorem known14 (W : World) (hM : MaxL W) : Calls Tryz.prog 14 #[] W fun e w' => e = .returned (.bool true) ∧ Below W.heap.size W w' := by
  have HM : Hid (MaxL W) := hM
  clear hM
  go_enter Tryz.func14, Tryz.ntmps14
  go_wp2_with fail
  refine (int_any _ 2).mono ?_
  rintro e w1 ⟨rfl, hb1⟩
  have HB1 : Hid (Below W.heap.size W w1) := hb1
  clear hb1
  go_wp2_with fail
  refine (int_any _ (-1)).mono ?_
  rintro e w2 ⟨rfl, hb2⟩
  have HB2 : Hid (Below W.heap.size W w2) := HB1.out.trans (hb2.mono HB1.out.size)
  clear hb2 HB1
  have hbA : Below w2.heap.size w2 (w2.alloc (Obj.cells #[.int .i64 (-1), .bool false, .int .i64 2, .slice none 0 0, .int .i64 (-1), .bool false, .int .i64 (-1), .slice none 0 0] 46)) := (Below.refl _ w2).alloc (Nat.le_refl _) _
  have HBA : Hid _ := hbA
  have kL := list_any (st_two w2 (-1) 2 (-1) (-1)) (by simp) (by intro t ht; simp at ht; rcases ht with rfl | rfl <;> simp)
  clear hbA
  go_wp2_with fail
  refine kL.mono ?_
  clear kL
  rintro e w3 ⟨v3, rfl, hs3, hb3⟩
  have HB3 : Hid (Below W.heap.size W w3) := HB2.out.trans ((HBA.out.trans (hb3.mono (by simp))).mono HB2.out.size)
  have HS3 : Hid (St 0 w3 v3 lin1) := hs3.lower (Nat.zero_le _)
  clear hb3 hs3 HB2 HBA
  go_wp2_with fail
  refine (var_any _ 0).mono ?_
  rintro e w4 ⟨rfl, hb4⟩
  have HB4 : Hid (Below W.heap.size W w4) := HB3.out.trans (hb4.mono HB3.out.size)
  have HS4 : Hid (St 0 w4 v3 lin1) := St.below HS3.out hb4
  clear hb4 HB3 HS3
  go_wp2_with fail
  refine (var_any _ 3).mono ?_
  rintro e w5 ⟨rfl, hb5⟩
  have HB5 : Hid (Below W.heap.size W w5) := HB4.out.trans (hb5.mono HB4.out.size)
  have HS5 : Hid (St 0 w5 v3 lin1) := St.below HS4.out hb5
  clear hb5 HB4 HS4
  have hbA : Below w5.heap.size w5 (w5.alloc (Obj.cells #[.int .i64 0, .bool false, .int .i64 0, .slice none 0 0, .int .i64 3, .bool false, .int .i64 0, .slice none 0 0] 46)) := (Below.refl _ w5).alloc (Nat.le_refl _) _
  have HBA : Hid _ := hbA
  have kL := list_any (st_two w5 0 0 3 0) (by simp) (by intro t ht; simp at ht; rcases ht with rfl | rfl <;> simp)
  clear hbA
  go_wp2_with fail
  refine kL.mono ?_
  clear kL
  rintro e w6 ⟨v6, rfl, hs6, hb6⟩
  have HBC : Hid _ := HBA.out.trans (hb6.mono (by simp))
  have HB6 : Hid (Below W.heap.size W w6) := HB5.out.trans (HBC.out.mono HB5.out.size)
  have HS6 : Hid (St 0 w6 v3 lin1) := St.below HS5.out HBC.out
  have HT6 : Hid (St 0 w6 v6 lin2) := hs6.lower (Nat.zero_le _)
  clear hb6 hs6 HB5 HBA HS5 HBC
  go_wp2_with fail
  refine (int_any _ 5).mono ?_
  rintro e w7 ⟨rfl, hb7⟩
  have HB7 : Hid (Below W.heap.size W w7) := HB6.out.trans (hb7.mono HB6.out.size)
  have HS7 : Hid (St 0 w7 v3 lin1) := St.below HS6.out hb7
  have HT7 : Hid (St 0 w7 v6 lin2) := St.below HT6.out hb7
  clear hb7 HB6 HS6 HT6
  have kO := one_any (W := w7) (B := 0) (sv := .slice none 0 0) ⟨-1, false, 5, []⟩ ⟨none, 0, rfl, fun h => absurd h (by simp)⟩ (by simp)
  go_wp2_with fail
  refine kO.mono ?_
  clear kO
  rintro e w8 ⟨v8, rfl, hs8, hb8⟩
  have HB8 : Hid (Below W.heap.size W w8) := HB7.out.trans (hb8.mono HB7.out.size)
  have HS8 : Hid (St 0 w8 v3 lin1) := St.below HS7.out hb8
  have HT8 : Hid (St 0 w8 v6 lin2) := St.below HT7.out hb8
  have HU8 : Hid (St 0 w8 v8 lin3) := hs8.lower (Nat.zero_le _)
  clear hb8 hs8 HB7 HS7 HT7
  obtain ⟨p3, c3, e3, hr3⟩ := HS8.out
  obtain ⟨p6, c6, e6, hr6⟩ := HT8.out
  obtain ⟨p8, c8, e8, hr8⟩ := HU8.out
  subst e3; subst e6; subst e8
  clear hr3 hr6 hr8
  have hsa := sa_three HS8.out HT8.out HU8.out
  obtain ⟨wa, hwa⟩ : ∃ X, w8.alloc (Obj.cells #[.bool true, .slice p3 2 c3, .bool true, .slice p6 2 c6, .bool false, .slice p8 1 c8] 54) = X := ⟨_, rfl⟩
  have hba : Below w8.heap.size w8 wa := by rw [← hwa]; exact (Below.refl _ w8).alloc (Nat.le_refl _) _
  have hsa' : Sa 0 wa (.slice (some ⟨w8.heap.size, 0, none⟩) 3 3) linA := by rw [← hwa]; exact hsa
  have hsz : wa.heap.size = w8.heap.size + 1 := by rw [← hwa]; simp
  have hbB : Below wa.heap.size wa (wa.alloc (Obj.cells #[.string ⟨linN.toArray⟩, .slice (some ⟨w8.heap.size, 0, none⟩) 3 3] 32)) := (Below.refl _ wa).alloc (Nat.le_refl _) _
  have hBW := HB8.out.trans ((hba.trans (hbB.mono (by omega))).mono HB8.out.size)
  have HK : Hid (Kw W (wa.alloc (Obj.cells #[.string ⟨linN.toArray⟩, .slice (some ⟨w8.heap.size, 0, none⟩) 3 3] 32)) (.slice (some ⟨w8.heap.size, 0, none⟩) 3 3) (w8.heap.size + 1)) := ⟨hBW, HM.out.below hBW HM.out.1, hsa'.below hbB, by rw [← hsz]; exact Blk.new wa _ _⟩
  have HWA : Hid _ := hwa
  clear hsa hsa' hba hbB hBW hwa hsz HS8 HT8 HU8 HB8
  go_upto_region 2 with (fail)
  rw [HWA.out]
  obtain ⟨X1, hX1⟩ : ∃ X, wa.alloc (Obj.cells #[.string ⟨linN.toArray⟩, .slice (some ⟨w8.heap.size, 0, none⟩) 3 3] 32) = X := ⟨_, rfl⟩
  rw [hX1] at HK ⊢
  clear HWA hX1
  obtain ⟨g8, hg8⟩ : ∃ x, w8.heap.size = x := ⟨_, rfl⟩
  rw [hg8] at HK ⊢
  clear hg8
  have x0 : X1.cell? ⟨g8 + 1, 0, none⟩ = some (.string ⟨linN.toArray⟩) := HK.out.c.cell 0
  have x1 : X1.cell? ⟨g8 + 1, 1, none⟩ = some (.slice (some ⟨g8, 0, none⟩) 3 3) := HK.out.c.cell 1
  have kV := vars_any ⟨linN.toArray⟩ HK.out.a (by simp) (by intro g hg; simp at hg; rcases hg with rfl | rfl | rfl <;> simp) (by rw [show (varsA linA).length = 2 from rfl]; omega) (by rw [lin_vars]; exact Nat.le_refl 2)
  go_wp2_with fail
  refine kV.mono ?_
  clear kV
  rintro e X2 ⟨v, rfl, hown, hb2⟩
  rw [lin_vars] at hown
  obtain ⟨gv, cv, rfl, hgv, hcv⟩ := own_two hown
  have HK2 : Hid (Kw W X2 (.slice (some ⟨g8, 0, none⟩) 3 3) (g8 + 1)) := Kw.below HK.out hb2
  have HV2 : Hid (gv < X2.heap.size ∧ X2.cell? ⟨gv, 1, none⟩ = some (.int .i64 3)) := ⟨hgv, hcv⟩
  clear hb2 hown hgv hcv HK x0 x1
  go_upto_region 3 with (fail)
  have x0 : X2.cell? ⟨g8 + 1, 0, none⟩ = some (.string ⟨linN.toArray⟩) := HK2.out.c.cell 0
  have x1 : X2.cell? ⟨g8 + 1, 1, none⟩ = some (.slice (some ⟨g8, 0, none⟩) 3 3) := HK2.out.c.cell 1
  have kT := text_any linN HK2.out.a (by simp) (by simp) (by simp) (by intro g hg; simp at hg; rcases hg with rfl | rfl | rfl <;> simp) (by intro g hg t ht; simp at hg; rcases hg with rfl | rfl | rfl <;> simp at ht <;> rcases ht with rfl | rfl <;> simp [Tm.small])
  rw [lin_text] at kT
  go_wp2_with fail
  refine kT.mono ?_
  clear kT
  rintro e X3 ⟨rfl, hb⟩
  have HK3 : Hid (Kw W X3 (.slice (some ⟨g8, 0, none⟩) 3 3) (g8 + 1)) := Kw.below HK2.out hb
  have HV3 : Hid (gv < X3.heap.size ∧ X3.cell? ⟨gv, 1, none⟩ = some (.int .i64 3)) := ⟨Nat.lt_of_lt_of_le HV2.out.1 hb.size, (hb.cell (p := ⟨gv, 1, none⟩) HV2.out.1).trans HV2.out.2⟩
  clear hb HK2 HV2 x0 x1
  have x0 : X3.cell? ⟨g8 + 1, 0, none⟩ = some (.string ⟨linN.toArray⟩) := HK3.out.c.cell 0
  have x1 : X3.cell? ⟨g8 + 1, 1, none⟩ = some (.slice (some ⟨g8, 0, none⟩) 3 3) := HK3.out.c.cell 1
  have kF := form_any linN X3 HK3.out.m
  rw [lin_form] at kF
  go_wp2_with fail
  refine kF.mono ?_
  clear kF
  rintro e X4 ⟨rfl, hb⟩
  have HK4 : Hid (Kw W X4 (.slice (some ⟨g8, 0, none⟩) 3 3) (g8 + 1)) := Kw.below HK3.out hb
  have HV4 : Hid (gv < X4.heap.size ∧ X4.cell? ⟨gv, 1, none⟩ = some (.int .i64 3)) := ⟨Nat.lt_of_lt_of_le HV3.out.1 hb.size, (hb.cell (p := ⟨gv, 1, none⟩) HV3.out.1).trans HV3.out.2⟩
  clear hb HK3 HV3 x0 x1
  have x0 : X4.cell? ⟨g8 + 1, 0, none⟩ = some (.string ⟨linN.toArray⟩) := HK4.out.c.cell 0
  have x1 : X4.cell? ⟨g8 + 1, 1, none⟩ = some (.slice (some ⟨g8, 0, none⟩) 3 3) := HK4.out.c.cell 1
  have kF := family_any linN X4 HK4.out.m
  rw [lin_family] at kF
  go_wp2_with fail
  refine kF.mono ?_
  clear kF
  rintro e X5 ⟨rfl, hb⟩
  have HK5 : Hid (Kw W X5 (.slice (some ⟨g8, 0, none⟩) 3 3) (g8 + 1)) := Kw.below HK4.out hb
  have HV5 : Hid (gv < X5.heap.size ∧ X5.cell? ⟨gv, 1, none⟩ = some (.int .i64 3)) := ⟨Nat.lt_of_lt_of_le HV4.out.1 hb.size, (hb.cell (p := ⟨gv, 1, none⟩) HV4.out.1).trans HV4.out.2⟩
  clear hb HK4 HV4 x0 x1
  have x0 : X5.cell? ⟨g8 + 1, 0, none⟩ = some (.string ⟨linN.toArray⟩) := HK5.out.c.cell 0
  have x1 : X5.cell? ⟨g8 + 1, 1, none⟩ = some (.slice (some ⟨g8, 0, none⟩) 3 3) := HK5.out.c.cell 1
  have hv5 := HV5.out.2
  have hbA : Below X5.heap.size X5 (X5.alloc (Obj.cells #[.bool false, .bool false] 4)) := (Below.refl _ X5).alloc (Nat.le_refl _) _
  have hKA := Kw.below HK5.out hbA
  have hnew := Blk.new X5 #[.bool false, .bool false] 4
  have kR := right_lin (a9 := some ⟨X5.heap.size, 0, none⟩) (n9 := 2) (c9 := 2) false hKA.m hKA.a (Nat.le_refl 3)
    (fun X a c hX => (takes_var_in X5.heap.size 2 2 false false (-1000000) 1000000 0 (by omega) a c X (by have := hX.size; simp at this; omega) ((hX.cell (p := ⟨X5.heap.size, 0, none⟩) (by simp)).trans (hnew.cell 0))).mono fun e w' ⟨he, hb⟩ => ⟨by rw [he]; rfl, hb⟩)
    (fun X a c hX => takes_var_out _ 2 2 false _ _ 3 (by omega) (by omega) a c X)
  have HBA : Hid _ := hbA
  clear hbA hKA hnew
  go_wp2_with fail
  refine kR.mono ?_
  clear kR
  rintro e X6 ⟨rfl, hb0⟩
  have hb : Below X5.heap.size X5 X6 := HBA.out.trans (hb0.mono (by simp))
  clear hb0 HBA
  have HK6 : Hid (Kw W X6 (.slice (some ⟨g8, 0, none⟩) 3 3) (g8 + 1)) := Kw.below HK5.out hb
  have HV6 : Hid (gv < X6.heap.size ∧ X6.cell? ⟨gv, 1, none⟩ = some (.int .i64 3)) := ⟨Nat.lt_of_lt_of_le HV5.out.1 hb.size, (hb.cell (p := ⟨gv, 1, none⟩) HV5.out.1).trans HV5.out.2⟩
  clear hb HK5 HV5 x0 x1
  clear hv5
  have x0 : X6.cell? ⟨g8 + 1, 0, none⟩ = some (.string ⟨linN.toArray⟩) := HK6.out.c.cell 0
  have x1 : X6.cell? ⟨g8 + 1, 1, none⟩ = some (.slice (some ⟨g8, 0, none⟩) 3 3) := HK6.out.c.cell 1
  have hbA : Below X6.heap.size X6 (X6.alloc (Obj.cells #[.bool false, .bool true, .bool true, .bool false] 4)) := (Below.refl _ X6).alloc (Nat.le_refl _) _
  have hKA := Kw.below HK6.out hbA
  have hnew := Blk.new X6 #[.bool false, .bool true, .bool true, .bool false] 4
  have kR := right_lin (a9 := some ⟨X6.heap.size, 0, none⟩) (n9 := 4) (c9 := 4) true hKA.m hKA.a (Nat.le_refl 3)
    (fun X a c hX => (takes_var_in X6.heap.size 4 4 false false (-1000000) 1000000 0 (by omega) a c X (by have := hX.size; simp at this; omega) ((hX.cell (p := ⟨X6.heap.size, 0, none⟩) (by simp)).trans (hnew.cell 0))).mono fun e w' ⟨he, hb⟩ => ⟨by rw [he]; rfl, hb⟩)
    (fun X a c hX => (takes_var_in X6.heap.size 4 4 false false (-1000000) 1000000 3 (by omega) a c X (by have := hX.size; simp at this; omega) ((hX.cell (p := ⟨X6.heap.size, 3, none⟩) (by simp)).trans (hnew.cell 3))).mono fun e w' ⟨he, hb⟩ => ⟨by rw [he]; rfl, hb⟩)
  have HBA : Hid _ := hbA
  clear hbA hKA hnew
  go_wp2_with fail
  refine kR.mono ?_
  clear kR
  rintro e X7 ⟨rfl, hb0⟩
  have hb : Below X6.heap.size X6 X7 := HBA.out.trans (hb0.mono (by simp))
  clear hb0 HBA
  have HB9 : Hid (Below W.heap.size W X7) := (Kw.below HK6.out hb).b
  clear hb x0 x1 HK6 HV6
  go_wp2
  go_ret
  exact ⟨rfl, HB9.out⟩
end Go.Proofs.YtpgecdhieakilaaGreatDoor
