/-
  What is proved here: a term's value, as the program and the reference tell it.
  What is proved here: bounded, isNumber, isSet, isValue, isKind, wrongEnds and lex.Word of package out.
  What is proved here: slices.IndexFunc and slices.ContainsFunc of ranges, of terms and of outputs.
  What is proved here: product, wrongTerm, rightShape and wrong of package out; outputs in memory.
-/
import Derived.Test.YtdnhhmnllhlbbaaGreatDoorCEb
import Derived.Test.YtdnhhmnllhlbbaaGreatDoorCGa
import Derived.Test.YtdnhhmnllhlbbaaGreatDoorXLbj
import Derived.BigQuiet
namespace Go.Proofs.YtdnhhmnllhlbbaaGreatDoor
open Go.RowKit Go.Shelf
set_option linter.unusedVariables false
set_option linter.unusedSimpArgs false

theorem Sv.at {W : World} {a : Option Addr} {n c : Nat} {l : List Vl} (h : Sv W (.slice a n c) l) {i : Nat} {v : Vl} (hv : l[i]? = some v) : ∃ b off a' c', a = some ⟨b, off, none⟩ ∧ b < W.heap.size ∧ Si 0 W (.slice a' v.s.length c') v.s ∧ W.cell? ⟨b, off + i * 3, none⟩ = some (.bool v.set) ∧ W.cell? ⟨b, off + i * 3 + 1, none⟩ = some (.int .i64 v.n) ∧ W.cell? ⟨b, off + i * 3 + 2, none⟩ = some (.slice a' v.s.length c') := by
  obtain ⟨a0, c0, e, h⟩ := h
  injection e with ea en ec
  subst ea
  have hi : i < l.length := (List.getElem?_eq_some_iff.1 hv).1
  obtain ⟨b, off, e1, e2, e3⟩ := h (by omega)
  obtain ⟨sv, h1, h2, h3, h4⟩ := e3 i v hv
  obtain ⟨a', c', rfl, h1'⟩ := h1
  exact ⟨b, off, a', c', e1, e2, ⟨a', c', rfl, h1'⟩, h2, h3, h4⟩
theorem Blk.new2 (w : World) (o : Obj) (cs : Array Value) (ty : TypeId) : Blk ((w.alloc o).alloc (.cells cs ty)) (w.heap.size + 1) cs ty := by
  have := Blk.new (w.alloc o) cs ty
  rw [World.size_alloc] at this
  exact this

end Go.Proofs.YtdnhhmnllhlbbaaGreatDoor


namespace Go.Proofs.YtdnhhmnllhlbbaaGreatDoor
open Go.RowKit Go.Shelf
set_option linter.unusedVariables false
set_option linter.unusedSimpArgs false

def bndB (n : Int) : Bool := decide (-1000000 ≤ n) && decide (n ≤ 1000000)

set_option maxRecDepth 100000 in
set_option maxHeartbeats 4000000 in
theorem bnd78 (n : Int) (W : World) : Calls Tryz.prog 78 #[.int .i64 n] W fun e w' => e = .returned (.bool (bndB n)) ∧ w' = W := by
  go_enter Tryz.func78, Tryz.ntmps78
  go_wp2
  all_goals (go_ret; refine ⟨?_, rfl⟩; show Ending.returned (Value.bool _) = _; congr 2; rw [Bool.eq_iff_iff]; simp [bndB]; try omega)
def isNum (s : Bool) (m : Nat) (n lo hi : Int) : Bool := !s && (decide (m = 0) && (decide (lo ≤ n) && decide (n ≤ hi)))

set_option maxRecDepth 100000 in
set_option maxHeartbeats 4000000 in
theorem num55 (s : Bool) (n : Int) (a : Option Addr) (m c : Nat) (lo hi : Int) (W : World) : Calls Tryz.prog 55 #[.agg #[.bool s, .int .i64 n, .slice a m c], .int .i64 lo, .int .i64 hi] W fun e w' => e = .returned (.bool (isNum s m n lo hi)) ∧ Below W.heap.size W w' := by
  have hb := (Below.refl _ W).alloc (Nat.le_refl _) (Obj.cells #[.bool s, .int .i64 n, .slice a m c] 36)
  cases s with
  | true =>
    go_enter Tryz.func55, Tryz.ntmps55
    go_wp2
    go_ret
    exact ⟨rfl, hb⟩
  | false =>
    by_cases h0 : m = 0
    · subst h0
      by_cases h1 : lo ≤ n
      · by_cases h2 : n ≤ hi
        · go_enter Tryz.func55, Tryz.ntmps55
          go_wp2
          go_ret
          exact ⟨by simp [isNum, h1, h2], hb⟩
        · go_enter Tryz.func55, Tryz.ntmps55
          go_wp2
          go_ret
          exact ⟨by simp [isNum, h1, h2], hb⟩
      · go_enter Tryz.func55, Tryz.ntmps55
        go_wp2
        go_ret
        exact ⟨by rw [isNum, decide_eq_false (by omega : ¬ lo ≤ n)]; rfl, hb⟩
    · have h0' : ((m : Int) == 0) = false := by simp <;> omega
      go_enter Tryz.func55, Tryz.ntmps55
      go_wp2
      go_ret
      exact ⟨by simp [isNum, h0], hb⟩
/-- What is wrong of a set at one place. -/
def badAt (l : List Int) (i : Nat) : Bool := match l[i]? with
  | some x => !bndB x || (decide (0 < i) && match l[i - 1]? with
    | some y => decide (x ≤ y)
    | none => false)
  | none => false
def setOk (l : List Int) : Bool := (List.range l.length).all (fun i => !badAt l i) && decide (l.length ≤ 64)
theorem setOk_bad {l : List Int} {i : Nat} (h : badAt l i = true) (hi : i < l.length) : setOk l = false := by
  have : (List.range l.length).all (fun i => !badAt l i) = false := by
    rw [List.all_eq_false]; exact ⟨i, List.mem_range.2 hi, by simp [h]⟩
  rw [setOk, this]; rfl
theorem setOk_all {l : List Int} (h : ∀ i, i < l.length → badAt l i = false) : setOk l = decide (l.length ≤ 64) := by
  have : (List.range l.length).all (fun i => !badAt l i) = true := by
    rw [List.all_eq_true]; intro i hi; simp [h i (List.mem_range.1 hi)]
  rw [setOk, this]; rfl

set_option maxRecDepth 100000 in
set_option maxHeartbeats 4000000 in
theorem set56 {B : Nat} {W : World} {s : Value} {l : List Int} (h : Si B W s l) (hz : l.length ≤ 17592186043904) :
    Calls Tryz.prog 56 #[s] W fun e w' => e = .returned (.bool (setOk l)) ∧ w' = W := by
  obtain ⟨a1, c1, rfl, h1'⟩ := h
  have H1 : Hid (Si B W (.slice a1 l.length c1) l) := ⟨_, _, rfl, h1'⟩
  clear h1'
  obtain ⟨n, hn⟩ : ∃ n, l.length = n := ⟨_, rfl⟩
  rw [hn] at hz H1 ⊢
  have HN : Hid (l.length = n) := hn
  clear hn
  go_enter Tryz.func56, Tryz.ntmps56
  go_wp2
  go_loopw [7] (fun i wr => ∃ k : Nat, k ≤ n ∧ i = .int .i64 (k : Int) ∧ wr = W ∧ Hid (∀ j, j < k → badAt l j = false)) (fun i _ => n - (intOf i).toNat)
  case atStart => exact ⟨0, Nat.zero_le _, rfl, rfl, fun j hj => absurd hj (Nat.not_lt_zero _)⟩
  case round =>
    obtain ⟨k, hk, rfl, rfl, HQ⟩ := hrel
    by_cases hlt : k < n
    · have hlt' : (k : Int) < (n : Int) := by omega
      obtain ⟨x, hx⟩ : ∃ x, l[k]? = some x := ⟨_, List.getElem?_eq_getElem (by rw [HN.out]; exact hlt)⟩
      obtain ⟨b, off, rfl, hb, hcx⟩ := H1.out.at hx
      have hwk : IntKind.i64.wrap ((k : Int) + 1) = (k : Int) + 1 := by rw [IntKind.wrap_i64]; omega
      have hk1 : ((k + 1 : Nat) : Int) = (k : Int) + 1 := by omega
      have HBF : Hid (badAt l k = true → setOk l = false) := fun e => setOk_bad e (by rw [HN.out]; exact hlt)
      have kb := bnd78 x
      cases hbx : bndB x with
      | false =>
        rw [hbx] at kb
        have HE : Hid (setOk l = false) := HBF.out (by unfold badAt; rw [hx]; simp [hbx])
        clear hx hbx
        go_wp2_with fail
        refine (kb _).mono ?_
        rintro e w' ⟨rfl, rfl⟩
        go_wp2
        go_ret
        exact ⟨by rw [HE.out]; rfl, rfl⟩
      | true =>
        rw [hbx] at kb
        rcases Nat.eq_zero_or_pos k with rfl | hpos
        · have hcx0 : wr.cell? ⟨b, off, none⟩ = some (.int .i64 x) := hcx
          have HK : Hid (∀ j, j < 0 + 1 → badAt l j = false) := fun j hj => by obtain rfl : j = 0 := (by omega); unfold badAt; rw [hx]; simp [hbx]
          clear hx hbx
          go_wp2_with fail
          refine (kb _).mono ?_
          rintro e w' ⟨rfl, rfl⟩
          go_wp2
          go_roundw
          case rel => exact ⟨0 + 1, by omega, by go_num, trivial, HK⟩
          case measure => simp [intOf] <;> omega
        · have hpos' : (0 : Int) < (k : Int) := by omega
          obtain ⟨y, hy⟩ : ∃ x, l[k - 1]? = some x := ⟨_, List.getElem?_eq_getElem (by rw [HN.out]; omega)⟩
          obtain ⟨b2, off2, hh, hb2, hcy⟩ := H1.out.at hy
          obtain ⟨rfl, rfl⟩ : b = b2 ∧ off = off2 := by simpa using hh
          clear hh
          obtain ⟨p, hp⟩ : ∃ p, k - 1 = p := ⟨_, rfl⟩
          rw [hp] at hcy
          have hwp : IntKind.i64.wrap ((k : Int) - 1) = (p : Int) := by rw [IntKind.wrap_i64]; omega
          have hpn : (p : Int) < (n : Int) := by omega
          have HPK : Hid (k = p + 1) := by rw [Hid]; omega
          by_cases hxy : x ≤ y
          · have HE : Hid (setOk l = false) := HBF.out (by unfold badAt; rw [hx, hy]; simp [hxy, hpos])
            clear hx hbx hy hp
            go_wp2_with fail
            refine (kb _).mono ?_
            rintro e w' ⟨rfl, rfl⟩
            go_wp2
            go_ret
            exact ⟨by rw [HE.out]; rfl, rfl⟩
          · have HK : Hid (∀ j, j < k + 1 → badAt l j = false) := fun j hj => by
              rcases Nat.lt_succ_iff_lt_or_eq.1 hj with q | rfl
              · exact HQ.out j q
              · unfold badAt; rw [hx, hy]; simp [hbx, hxy] <;> omega
            clear hx hbx hy hp
            go_wp2_with fail
            refine (kb _).mono ?_
            rintro e w' ⟨rfl, rfl⟩
            go_wp2
            go_roundw
            case rel => exact ⟨k + 1, by omega, by go_num, trivial, HK⟩
            case measure => simp [intOf] <;> omega
    · obtain rfl : k = n := by omega
      have HE : Hid (setOk l = decide (k ≤ 64)) := by rw [Hid, setOk_all (fun i hi => HQ.out i (by rw [← HN.out]; exact hi)), HN.out]
      by_cases h64 : k ≤ 64
      · have h64' : (k : Int) ≤ 64 := by omega
        go_wp2
        go_ret
        exact ⟨by rw [HE.out]; simp [h64], rfl⟩
      · have h64' : ¬ (k : Int) ≤ 64 := by omega
        go_wp2
        go_ret
        exact ⟨by rw [HE.out]; simp [h64], rfl⟩

/-- Is it a value of a kind? -/
def isVal (s : Bool) (n : Int) (l : List Int) (k : Int) : Bool := if k = 1 then isNum s l.length n 0 1 else if k = 2 then isNum s l.length n (-1000000) 1000000 else if k = 3 then s && (decide (n = 0) && setOk l) else false

set_option maxRecDepth 100000 in
set_option maxHeartbeats 4000000 in
theorem val31 {B : Nat} {W : World} {sv : Value} {l : List Int} (s : Bool) (n k : Int) (h : Si B W sv l) (hz : l.length ≤ 17592186043904) :
    Calls Tryz.prog 31 #[.agg #[.bool s, .int .i64 n, sv], .int .i64 k] W fun e w' => e = .returned (.bool (isVal s n l k)) ∧ Below W.heap.size W w' := by
  obtain ⟨a1, c1, rfl, h1'⟩ := h
  have H1 : Hid (Si B W (.slice a1 l.length c1) l) := ⟨_, _, rfl, h1'⟩
  clear h1'
  obtain ⟨W0, hW0⟩ : ∃ Q, W.alloc (Obj.cells #[.bool s, .int .i64 n, .slice a1 l.length c1] 36) = Q := ⟨_, rfl⟩
  have hb0 : Below W.heap.size W W0 := by rw [← hW0]; exact (Below.refl _ W).alloc (Nat.le_refl _) _
  have HBX : Hid (Blk W0 W.heap.size #[.bool s, .int .i64 n, .slice a1 l.length c1] 36) := by rw [← hW0]; exact Blk.new _ _ _
  have HW0 : Hid _ := hW0
  have HV : Hid (∀ r, isVal s n l k = r → isVal s n l k = r) := fun r h => h
  have k56 := set56 (H1.out.below hb0) hz
  obtain ⟨m, hm⟩ : ∃ m, l.length = m := ⟨_, rfl⟩
  obtain ⟨r, hr⟩ : ∃ r, isVal s n l k = r := ⟨_, rfl⟩
  have HR : Hid (isVal s n l k = r) := hr
  rw [hr]
  have HM : Hid (l.length = m) := hm
  obtain ⟨so, hso⟩ : ∃ r, setOk l = r := ⟨_, rfl⟩
  have HSO : Hid (setOk l = so) := hso
  rw [hso] at k56
  rw [hm] at k56 hW0 HW0 HBX ⊢
  clear hW0 hr hm hso H1 HV
  have z0 := HBX.out.cell 0
  have z1 := HBX.out.cell 1
  have z2 := HBX.out.cell 2
  simp at z0 z1 z2
  by_cases h1 : k = 1
  · subst h1
    have kn := num55 s n a1 m c1 0 1 W0
    obtain ⟨q, hq⟩ : ∃ q, isNum s m n 0 1 = q := ⟨_, rfl⟩
    have HE : Hid (r = q) := by rw [Hid, ← HR.out, isVal, if_pos rfl, HM.out, hq]
    rw [hq] at kn
    clear hq
    go_enter Tryz.func31, Tryz.ntmps31
    go_upto_region 1 with (fail)
    rw [HW0.out]
    go_wp2_with fail
    refine kn.mono ?_
    rintro e w1 ⟨rfl, hb1⟩
    go_wp2
    go_ret
    exact ⟨by rw [HE.out]; rfl, hb0.trans (hb1.mono hb0.size)⟩
  · have h1' : (k == 1) = false := by simpa using h1
    by_cases h2 : k = 2
    · subst h2
      have kn := num55 s n a1 m c1 (-1000000) 1000000 W0
      obtain ⟨q, hq⟩ : ∃ q, isNum s m n (-1000000) 1000000 = q := ⟨_, rfl⟩
      have HE : Hid (r = q) := by rw [Hid, ← HR.out, isVal, if_neg (by decide), if_pos rfl, HM.out, hq]
      rw [hq] at kn
      clear hq
      go_enter Tryz.func31, Tryz.ntmps31
      go_upto_region 1 with (fail)
      rw [HW0.out]
      go_wp2_with fail
      refine kn.mono ?_
      rintro e w1 ⟨rfl, hb1⟩
      go_wp2
      go_ret
      exact ⟨by rw [HE.out]; rfl, hb0.trans (hb1.mono hb0.size)⟩
    · have h2' : (k == 2) = false := by simpa using h2
      by_cases h3 : k = 3
      · subst h3
        have HE : Hid (r = (s && (decide (n = 0) && so))) := by rw [Hid, ← HR.out, isVal, if_neg (by decide), if_neg (by decide), if_pos rfl, HSO.out]
        cases s with
        | false =>
          go_enter Tryz.func31, Tryz.ntmps31
          go_upto_region 1 with (fail)
          rw [HW0.out]
          go_wp2
          go_ret
          exact ⟨by rw [HE.out]; rfl, hb0⟩
        | true =>
          by_cases hn : n = 0
          · subst hn
            go_enter Tryz.func31, Tryz.ntmps31
            go_upto_region 1 with (fail)
            rw [HW0.out]
            go_wp2_with fail
            refine k56.mono ?_
            rintro e w1 ⟨rfl, hb1⟩
            go_wp2
            go_ret
            exact ⟨by rw [HE.out]; rfl, by first | exact hb0 | (rw [hb1]; exact hb0)⟩
          · have hn' : (n == 0) = false := by simpa using hn
            have HE2 : Hid (r = false) := by rw [Hid, HE.out]; simp [hn]
            go_enter Tryz.func31, Tryz.ntmps31
            go_upto_region 1 with (fail)
            rw [HW0.out]
            go_wp2
            go_ret
            exact ⟨by rw [HE2.out]; rfl, hb0⟩
      · have h3' : (k == 3) = false := by simpa using h3
        have HE : Hid (r = false) := by rw [Hid, ← HR.out, isVal, if_neg h1, if_neg h2, if_neg h3]
        go_enter Tryz.func31, Tryz.ntmps31
        go_upto_region 1 with (fail)
        rw [HW0.out]
        go_wp2
        go_ret
        exact ⟨by rw [HE.out]; rfl, hb0⟩
def kindB (k : Int) : Bool := decide (k = 1) || decide (k = 2) || decide (k = 3)

set_option maxRecDepth 100000 in
set_option maxHeartbeats 4000000 in
theorem kind61 (k : Int) (W : World) : Calls Tryz.prog 61 #[.int .i64 k] W fun e w' => e = .returned (.bool (kindB k)) ∧ w' = W := by
  go_enter Tryz.func61, Tryz.ntmps61
  go_wp2
  all_goals (go_ret; refine ⟨?_, rfl⟩; show Ending.returned (Value.bool _) = _; first | (simp_all [kindB]; done) | (congr 2; done) | (congr 2; simp_all [kindB]))

set_option maxRecDepth 100000 in
set_option maxHeartbeats 4000000 in
theorem ends82 (lo hi : Int) (W : World) : Calls Tryz.prog 82 #[.agg #[.int .i64 lo, .int .i64 hi]] W fun e w' => e = .returned (.bool (!bndB lo || !bndB hi)) ∧ Below W.heap.size W w' := by
  have hb := (Below.refl _ W).alloc (Nat.le_refl _) (Obj.cells #[.int .i64 lo, .int .i64 hi] 84)
  have k1 := bnd78 lo
  have k2 := bnd78 hi
  obtain ⟨p, hp⟩ : ∃ p, bndB lo = p := ⟨_, rfl⟩
  obtain ⟨q, hq⟩ : ∃ p, bndB hi = p := ⟨_, rfl⟩
  rw [hp] at k1 ⊢
  rw [hq] at k2 ⊢
  clear hp hq
  cases p
  · go_enter Tryz.func82, Tryz.ntmps82
    go_wp2_with fail
    refine (k1 _).mono ?_
    rintro e w1 ⟨rfl, rfl⟩
    go_wp2
    go_ret
    exact ⟨rfl, hb⟩
  · cases q
    all_goals
      go_enter Tryz.func82, Tryz.ntmps82
      go_wp2_with fail
      refine (k1 _).mono ?_
      rintro e w1 ⟨rfl, rfl⟩
      go_wp2_with fail
      refine (k2 _).mono ?_
      rintro e w1 ⟨rfl, rfl⟩
      go_wp2
      go_ret
      exact ⟨rfl, hb⟩
end Go.Proofs.YtdnhhmnllhlbbaaGreatDoor

namespace Go.Proofs.YtdnhhmnllhlbbaaGreatDoor
open Go.RowKit Go.Shelf
set_option linter.unusedVariables false
set_option linter.unusedSimpArgs false
def anyB (p : Nat → Bool) (n : Nat) : Bool := (List.range n).any p

/-- What a walk over such elements wants of them: their cells, and what the function says of them. -/
def ElR (W : World) (a : Option Addr) (n : Nat) (p : Nat → Bool) : Prop := ∀ k, k < n → ∃ b off c0 c1, a = some ⟨b, off, none⟩ ∧ b < W.heap.size ∧ W.cell? ⟨b, off + k * 2, none⟩ = some c0 ∧ W.cell? ⟨b, off + k * 2 + 1, none⟩ = some c1 ∧ ∀ X, Below W.heap.size W X → Calls Tryz.prog 82 #[.agg #[c0, c1]] X fun e w' => e = .returned (.bool (p k)) ∧ Below X.heap.size X w'

set_option maxRecDepth 100000 in
set_option maxHeartbeats 4000000 in
theorem idxR {W : World} {a : Option Addr} {n c : Nat} {p : Nat → Bool} (h : ElR W a n p) (hn : n ≤ 17592186043904) :
    Calls Tryz.prog 102 #[.slice a n c, .func (.func 82) #[] #[]] W fun e w' => (∃ i : Int, e = .returned (.int .i64 i) ∧ (0 ≤ i ∧ anyB p n = true ∨ i = -1 ∧ anyB p n = false)) ∧ Below W.heap.size W w' := by
  have HE : Hid (ElR W a n p) := h
  clear h
  go_enter Tryz.func102, Tryz.ntmps102
  go_wp2
  go_loopw [8] (fun i wr => ∃ k : Nat, k ≤ n ∧ i = .int .i64 (k : Int) ∧ Hid (∀ j, j < k → p j = false) ∧ Hid (Below W.heap.size W wr)) (fun i _ => n - (intOf i).toNat)
  case atStart => exact ⟨0, Nat.zero_le _, rfl, fun j hj => absurd hj (Nat.not_lt_zero _), Below.refl _ _⟩
  case round =>
    obtain ⟨k, hk, rfl, HQ, HB⟩ := hrel
    by_cases hlt : k < n
    · have hlt' : (k : Int) < n := by omega
      obtain ⟨b, off, c0, c1, rfl, hb, d0, d1, hc⟩ := HE.out k hlt
      have y0 := (HB.out.cell (p := ⟨b, off + k * 2, none⟩) hb).trans d0
      have y1 := (HB.out.cell (p := ⟨b, off + k * 2 + 1, none⟩) hb).trans d1
      have kc := hc _ HB.out
      clear hc d0 d1
      have hw2 : IntKind.i64.wrap ((k : Int) + 1) = (k : Int) + 1 := by rw [IntKind.wrap_i64]; omega
      cases hp : p k with
      | false =>
        have HK : Hid (∀ j, j < k + 1 → p j = false) := fun j hj => by
          rcases Nat.lt_succ_iff_lt_or_eq.1 hj with q | rfl
          · exact HQ.out j q
          · exact hp
        rw [hp] at kc
        clear hp
        go_wp2_with fail
        refine kc.mono ?_
        rintro e w1 ⟨rfl, hb1⟩
        have HB1 : Hid (Below W.heap.size W w1) := HB.out.trans (hb1.mono HB.out.size)
        clear hb1 kc y0 y1
        go_wp2
        go_roundw
        case rel => exact ⟨k + 1, by omega, by go_num, HK, HB1⟩
        case measure => simp [intOf] <;> omega
      | true =>
        have HA : Hid (anyB p n = true) := by rw [Hid, anyB, List.any_eq_true]; exact ⟨k, List.mem_range.2 hlt, hp⟩
        rw [hp] at kc
        clear hp
        go_wp2_with fail
        refine kc.mono ?_
        rintro e w1 ⟨rfl, hb1⟩
        go_wp2
        go_ret
        exact ⟨⟨_, rfl, .inl ⟨by omega, HA.out⟩⟩, HB.out.trans (hb1.mono HB.out.size)⟩
    · have hlt' : ¬ (k : Int) < n := by omega
      obtain rfl : k = n := by omega
      have HA : Hid (anyB p k = false) := by rw [Hid, anyB, List.any_eq_false]; intro j hj; simp [HQ.out j (List.mem_range.1 hj)]
      go_wp2
      go_ret
      exact ⟨⟨_, rfl, .inr ⟨rfl, HA.out⟩⟩, HB.out⟩

set_option maxRecDepth 100000 in
set_option maxHeartbeats 4000000 in
theorem hasR {W : World} {a : Option Addr} {n c : Nat} {p : Nat → Bool} (h : ElR W a n p) (hn : n ≤ 17592186043904) :
    Calls Tryz.prog 81 #[.slice a n c, .func (.func 82) #[] #[]] W fun e w' => e = .returned (.bool (anyB p n)) ∧ Below W.heap.size W w' := by
  have k := idxR (c := c) h hn
  obtain ⟨r, hr⟩ : ∃ r, anyB p n = r := ⟨_, rfl⟩
  rw [hr] at k ⊢
  clear h hr
  go_enter Tryz.func81, Tryz.ntmps81
  go_wp2_with fail
  refine k.mono ?_
  rintro e w1 ⟨⟨i, rfl, hi⟩, hb1⟩
  clear k
  rcases hi with ⟨h0, rfl⟩ | ⟨rfl, rfl⟩
  · go_wp2
    go_ret
    exact ⟨rfl, hb1⟩
  · go_wp2
    go_ret
    exact ⟨rfl, hb1⟩

/-- What a walk over such elements wants of them: their cells, and what the function says of them. -/
def ElT (W : World) (a : Option Addr) (n : Nat) (q : Option Addr) (p : Nat → Bool) : Prop := ∀ k, k < n → ∃ b off c0 c1 c2 c3, a = some ⟨b, off, none⟩ ∧ b < W.heap.size ∧ W.cell? ⟨b, off + k * 4, none⟩ = some c0 ∧ W.cell? ⟨b, off + k * 4 + 1, none⟩ = some c1 ∧ W.cell? ⟨b, off + k * 4 + 2, none⟩ = some c2 ∧ W.cell? ⟨b, off + k * 4 + 3, none⟩ = some c3 ∧ ∀ X, Below W.heap.size W X → Calls Tryz.prog 85 #[.agg #[c0, c1, c2, c3], .pointer q] X fun e w' => e = .returned (.bool (p k)) ∧ Below X.heap.size X w'

set_option maxRecDepth 100000 in
set_option maxHeartbeats 4000000 in
theorem idxT {W : World} {a : Option Addr} {n c : Nat} {q : Option Addr} {p : Nat → Bool} (h : ElT W a n q p) (hn : n ≤ 17592186043904) :
    Calls Tryz.prog 84 #[.slice a n c, .func (.func 85) #[] #[.pointer q]] W fun e w' => (∃ i : Int, e = .returned (.int .i64 i) ∧ (0 ≤ i ∧ anyB p n = true ∨ i = -1 ∧ anyB p n = false)) ∧ Below W.heap.size W w' := by
  have HE : Hid (ElT W a n q p) := h
  clear h
  go_enter Tryz.func84, Tryz.ntmps84
  go_wp2
  go_loopw [8] (fun i wr => ∃ k : Nat, k ≤ n ∧ i = .int .i64 (k : Int) ∧ Hid (∀ j, j < k → p j = false) ∧ Hid (Below W.heap.size W wr)) (fun i _ => n - (intOf i).toNat)
  case atStart => exact ⟨0, Nat.zero_le _, rfl, fun j hj => absurd hj (Nat.not_lt_zero _), Below.refl _ _⟩
  case round =>
    obtain ⟨k, hk, rfl, HQ, HB⟩ := hrel
    by_cases hlt : k < n
    · have hlt' : (k : Int) < n := by omega
      obtain ⟨b, off, c0, c1, c2, c3, rfl, hb, d0, d1, d2, d3, hc⟩ := HE.out k hlt
      have y0 := (HB.out.cell (p := ⟨b, off + k * 4, none⟩) hb).trans d0
      have y1 := (HB.out.cell (p := ⟨b, off + k * 4 + 1, none⟩) hb).trans d1
      have y2 := (HB.out.cell (p := ⟨b, off + k * 4 + 2, none⟩) hb).trans d2
      have y3 := (HB.out.cell (p := ⟨b, off + k * 4 + 3, none⟩) hb).trans d3
      have kc := hc _ HB.out
      clear hc d0 d1 d2 d3
      have hw2 : IntKind.i64.wrap ((k : Int) + 1) = (k : Int) + 1 := by rw [IntKind.wrap_i64]; omega
      cases hp : p k with
      | false =>
        have HK : Hid (∀ j, j < k + 1 → p j = false) := fun j hj => by
          rcases Nat.lt_succ_iff_lt_or_eq.1 hj with q | rfl
          · exact HQ.out j q
          · exact hp
        rw [hp] at kc
        clear hp
        go_wp2_with fail
        refine kc.mono ?_
        rintro e w1 ⟨rfl, hb1⟩
        have HB1 : Hid (Below W.heap.size W w1) := HB.out.trans (hb1.mono HB.out.size)
        clear hb1 kc y0 y1 y2 y3
        go_wp2
        go_roundw
        case rel => exact ⟨k + 1, by omega, by go_num, HK, HB1⟩
        case measure => simp [intOf] <;> omega
      | true =>
        have HA : Hid (anyB p n = true) := by rw [Hid, anyB, List.any_eq_true]; exact ⟨k, List.mem_range.2 hlt, hp⟩
        rw [hp] at kc
        clear hp
        go_wp2_with fail
        refine kc.mono ?_
        rintro e w1 ⟨rfl, hb1⟩
        go_wp2
        go_ret
        exact ⟨⟨_, rfl, .inl ⟨by omega, HA.out⟩⟩, HB.out.trans (hb1.mono HB.out.size)⟩
    · have hlt' : ¬ (k : Int) < n := by omega
      obtain rfl : k = n := by omega
      have HA : Hid (anyB p k = false) := by rw [Hid, anyB, List.any_eq_false]; intro j hj; simp [HQ.out j (List.mem_range.1 hj)]
      go_wp2
      go_ret
      exact ⟨⟨_, rfl, .inr ⟨rfl, HA.out⟩⟩, HB.out⟩

set_option maxRecDepth 100000 in
set_option maxHeartbeats 4000000 in
theorem hasT {W : World} {a : Option Addr} {n c : Nat} {q : Option Addr} {p : Nat → Bool} (h : ElT W a n q p) (hn : n ≤ 17592186043904) :
    Calls Tryz.prog 63 #[.slice a n c, .func (.func 85) #[] #[.pointer q]] W fun e w' => e = .returned (.bool (anyB p n)) ∧ Below W.heap.size W w' := by
  have k := idxT (c := c) h hn
  obtain ⟨r, hr⟩ : ∃ r, anyB p n = r := ⟨_, rfl⟩
  rw [hr] at k ⊢
  clear h hr
  go_enter Tryz.func63, Tryz.ntmps63
  go_wp2_with fail
  refine k.mono ?_
  rintro e w1 ⟨⟨i, rfl, hi⟩, hb1⟩
  clear k
  rcases hi with ⟨h0, rfl⟩ | ⟨rfl, rfl⟩
  · go_wp2
    go_ret
    exact ⟨rfl, hb1⟩
  · go_wp2
    go_ret
    exact ⟨rfl, hb1⟩

/-- What a walk over such elements wants of them: their cells, and what the function says of them. -/
def ElO (W : World) (a : Option Addr) (n : Nat) (p : Nat → Bool) : Prop := ∀ k, k < n → ∃ b off c0 c1 c2 c3 c4, a = some ⟨b, off, none⟩ ∧ b < W.heap.size ∧ W.cell? ⟨b, off + k * 5, none⟩ = some c0 ∧ W.cell? ⟨b, off + k * 5 + 1, none⟩ = some c1 ∧ W.cell? ⟨b, off + k * 5 + 2, none⟩ = some c2 ∧ W.cell? ⟨b, off + k * 5 + 3, none⟩ = some c3 ∧ W.cell? ⟨b, off + k * 5 + 4, none⟩ = some c4 ∧ ∀ X, Below W.heap.size W X → Calls Tryz.prog 37 #[.agg #[c0, c1, c2, c3, c4]] X fun e w' => e = .returned (.bool (p k)) ∧ Below X.heap.size X w'

set_option maxRecDepth 100000 in
set_option maxHeartbeats 4000000 in
theorem idxO {W : World} {a : Option Addr} {n c : Nat} {p : Nat → Bool} (h : ElO W a n p) (hn : n ≤ 17592186043904) :
    Calls Tryz.prog 59 #[.slice a n c, .func (.func 37) #[] #[]] W fun e w' => (∃ i : Int, e = .returned (.int .i64 i) ∧ (0 ≤ i ∧ anyB p n = true ∨ i = -1 ∧ anyB p n = false)) ∧ Below W.heap.size W w' := by
  have HE : Hid (ElO W a n p) := h
  clear h
  go_enter Tryz.func59, Tryz.ntmps59
  go_wp2
  go_loopw [8] (fun i wr => ∃ k : Nat, k ≤ n ∧ i = .int .i64 (k : Int) ∧ Hid (∀ j, j < k → p j = false) ∧ Hid (Below W.heap.size W wr)) (fun i _ => n - (intOf i).toNat)
  case atStart => exact ⟨0, Nat.zero_le _, rfl, fun j hj => absurd hj (Nat.not_lt_zero _), Below.refl _ _⟩
  case round =>
    obtain ⟨k, hk, rfl, HQ, HB⟩ := hrel
    by_cases hlt : k < n
    · have hlt' : (k : Int) < n := by omega
      obtain ⟨b, off, c0, c1, c2, c3, c4, rfl, hb, d0, d1, d2, d3, d4, hc⟩ := HE.out k hlt
      have y0 := (HB.out.cell (p := ⟨b, off + k * 5, none⟩) hb).trans d0
      have y1 := (HB.out.cell (p := ⟨b, off + k * 5 + 1, none⟩) hb).trans d1
      have y2 := (HB.out.cell (p := ⟨b, off + k * 5 + 2, none⟩) hb).trans d2
      have y3 := (HB.out.cell (p := ⟨b, off + k * 5 + 3, none⟩) hb).trans d3
      have y4 := (HB.out.cell (p := ⟨b, off + k * 5 + 4, none⟩) hb).trans d4
      have kc := hc _ HB.out
      clear hc d0 d1 d2 d3 d4
      have hw2 : IntKind.i64.wrap ((k : Int) + 1) = (k : Int) + 1 := by rw [IntKind.wrap_i64]; omega
      cases hp : p k with
      | false =>
        have HK : Hid (∀ j, j < k + 1 → p j = false) := fun j hj => by
          rcases Nat.lt_succ_iff_lt_or_eq.1 hj with q | rfl
          · exact HQ.out j q
          · exact hp
        rw [hp] at kc
        clear hp
        go_wp2_with fail
        refine kc.mono ?_
        rintro e w1 ⟨rfl, hb1⟩
        have HB1 : Hid (Below W.heap.size W w1) := HB.out.trans (hb1.mono HB.out.size)
        clear hb1 kc y0 y1 y2 y3 y4
        go_wp2
        go_roundw
        case rel => exact ⟨k + 1, by omega, by go_num, HK, HB1⟩
        case measure => simp [intOf] <;> omega
      | true =>
        have HA : Hid (anyB p n = true) := by rw [Hid, anyB, List.any_eq_true]; exact ⟨k, List.mem_range.2 hlt, hp⟩
        rw [hp] at kc
        clear hp
        go_wp2_with fail
        refine kc.mono ?_
        rintro e w1 ⟨rfl, hb1⟩
        go_wp2
        go_ret
        exact ⟨⟨_, rfl, .inl ⟨by omega, HA.out⟩⟩, HB.out.trans (hb1.mono HB.out.size)⟩
    · have hlt' : ¬ (k : Int) < n := by omega
      obtain rfl : k = n := by omega
      have HA : Hid (anyB p k = false) := by rw [Hid, anyB, List.any_eq_false]; intro j hj; simp [HQ.out j (List.mem_range.1 hj)]
      go_wp2
      go_ret
      exact ⟨⟨_, rfl, .inr ⟨rfl, HA.out⟩⟩, HB.out⟩

set_option maxRecDepth 100000 in
set_option maxHeartbeats 4000000 in
theorem hasO {W : World} {a : Option Addr} {n c : Nat} {p : Nat → Bool} (h : ElO W a n p) (hn : n ≤ 17592186043904) :
    Calls Tryz.prog 36 #[.slice a n c, .func (.func 37) #[] #[]] W fun e w' => e = .returned (.bool (anyB p n)) ∧ Below W.heap.size W w' := by
  have k := idxO (c := c) h hn
  obtain ⟨r, hr⟩ : ∃ r, anyB p n = r := ⟨_, rfl⟩
  rw [hr] at k ⊢
  clear h hr
  go_enter Tryz.func36, Tryz.ntmps36
  go_wp2_with fail
  refine k.mono ?_
  rintro e w1 ⟨⟨i, rfl, hi⟩, hb1⟩
  clear k
  rcases hi with ⟨h0, rfl⟩ | ⟨rfl, rfl⟩
  · go_wp2
    go_ret
    exact ⟨rfl, hb1⟩
  · go_wp2
    go_ret
    exact ⟨rfl, hb1⟩
end Go.Proofs.YtdnhhmnllhlbbaaGreatDoor

namespace Go.Proofs.YtdnhhmnllhlbbaaGreatDoor
open Go.RowKit Go.Shelf
set_option linter.unusedVariables false
set_option linter.unusedSimpArgs false

/-- A slice of ranges in memory. -/
def Rgs (W : World) (s : Value) (l : List (Int × Int)) : Prop := ∃ a c, s = .slice a l.length c ∧ (0 < l.length → ∃ b off, a = some ⟨b, off, none⟩ ∧ b < W.heap.size ∧ ∀ i x, l[i]? = some x → W.cell? ⟨b, off + i * 2, none⟩ = some (.int .i64 x.1) ∧ W.cell? ⟨b, off + i * 2 + 1, none⟩ = some (.int .i64 x.2))
theorem Rgs.below {W W' : World} {s : Value} {l : List (Int × Int)} (h : Rgs W s l) (hb : Below W.heap.size W W') : Rgs W' s l := by
  obtain ⟨a, c, e, h⟩ := h
  refine ⟨a, c, e, fun h0 => ?_⟩
  obtain ⟨b, off, e1, e2, e3⟩ := h h0
  exact ⟨b, off, e1, Nat.lt_of_lt_of_le e2 hb.size, fun i x hx => ⟨(hb.cell (p := ⟨b, off + i * 2, none⟩) e2).trans (e3 i x hx).1, (hb.cell (p := ⟨b, off + i * 2 + 1, none⟩) e2).trans (e3 i x hx).2⟩⟩
theorem Rgs.at {W : World} {a : Option Addr} {n c : Nat} {l : List (Int × Int)} (h : Rgs W (.slice a n c) l) {i : Nat} {x : Int × Int} (hx : l[i]? = some x) : ∃ b off, a = some ⟨b, off, none⟩ ∧ b < W.heap.size ∧ W.cell? ⟨b, off + i * 2, none⟩ = some (.int .i64 x.1) ∧ W.cell? ⟨b, off + i * 2 + 1, none⟩ = some (.int .i64 x.2) := by
  obtain ⟨a', c', e, h⟩ := h
  injection e with e1 e2 e3
  obtain ⟨b, off, f1, f2, f3⟩ := h (Nat.lt_of_le_of_lt (Nat.zero_le _) (List.getElem?_eq_some_iff.1 hx).1)
  exact ⟨b, off, e1.trans f1, f2, f3 i x hx⟩
/-- The sizes multiplied, at most so many. -/
def prodM : List (Int × Int) → Int → Int → Int
  | [], _, acc => acc
  | (lo, hi) :: r, most, acc => if hi < lo then 0 else prodM r most (min most (acc * (hi - lo + 1)))
theorem prodM_step {l : List (Int × Int)} {k : Nat} {x : Int × Int} (hx : l[k]? = some x) (most acc : Int) : prodM (l.drop k) most acc = if x.2 < x.1 then 0 else prodM (l.drop (k + 1)) most (min most (acc * (x.2 - x.1 + 1))) := by
  have hk := (List.getElem?_eq_some_iff.1 hx).1
  rw [List.drop_eq_getElem_cons hk, (List.getElem?_eq_some_iff.1 hx).2]
  rfl

set_option maxRecDepth 100000 in
set_option maxHeartbeats 4000000 in
theorem prod83 {W : World} {a : Option Addr} {n c : Nat} {l : List (Int × Int)} (h : Rgs W (.slice a n c) l) (hlen : l.length = n) (hn : n ≤ 1000) (hb : ∀ x ∈ l, -1000000 ≤ x.1 ∧ x.1 ≤ 1000000 ∧ -1000000 ≤ x.2 ∧ x.2 ≤ 1000000) (most : Int) (hm0 : 1 ≤ most) (hm1 : most ≤ 4000000000) :
    Calls Tryz.prog 83 #[.slice a n c, .int .i64 most] W fun e w' => e = .returned (.int .i64 (prodM l most 1)) ∧ Below W.heap.size W w' := by
  have HA : Hid (Rgs W (.slice a n c) l) := h
  have HN : Hid (l.length = n) := hlen
  have HL : Hid (∀ x ∈ l, -1000000 ≤ x.1 ∧ x.1 ≤ 1000000 ∧ -1000000 ≤ x.2 ∧ x.2 ≤ 1000000) := hb
  obtain ⟨r, hr⟩ : ∃ r, prodM l most 1 = r := ⟨_, rfl⟩
  have HR : Hid (prodM (l.drop 0) most 1 = r) := hr
  rw [hr]
  clear h hlen hb hr
  go_enter Tryz.func83, Tryz.ntmps83
  go_wp2
  go_loopw [5, 10] (fun acc i wr => ∃ (k : Nat) (x : Int), k ≤ n ∧ i = .int .i64 (k : Int) ∧ acc = .int .i64 x ∧ 0 ≤ x ∧ x ≤ most ∧ Hid (prodM (l.drop k) most x = r) ∧ Hid (Below W.heap.size W wr)) (fun _ i _ => n - (intOf i).toNat)
  case atStart => exact ⟨0, 1, Nat.zero_le _, rfl, rfl, by omega, hm0, HR, Below.refl _ _⟩
  case round =>
    obtain ⟨k, x, hk, rfl, rfl, hx0, hx1, HQ, HB⟩ := hrel
    by_cases hlt : k < n
    · have hlt' : (k : Int) < n := by omega
      obtain ⟨⟨lo, hi⟩, hg⟩ : ∃ g, l[k]? = some g := ⟨_, List.getElem?_eq_getElem (by rw [HN.out]; exact hlt)⟩
      obtain ⟨b, off, rfl, hb, d0, d1⟩ := HA.out.at hg
      have y0 := (HB.out.cell (p := ⟨b, off + k * 2, none⟩) hb).trans d0
      have y1 := (HB.out.cell (p := ⟨b, off + k * 2 + 1, none⟩) hb).trans d1
      simp only at y0 y1
      have hq := prodM_step hg most x
      simp only at hq
      have hbd := HL.out _ (List.mem_of_getElem? hg)
      simp only at hbd
      have hw2 : IntKind.i64.wrap ((k : Int) + 1) = (k : Int) + 1 := by rw [IntKind.wrap_i64]; omega
      have hbn := (Below.refl wr.heap.size wr).alloc (Nat.le_refl _) (Obj.cells #[.int .i64 lo, .int .i64 hi] 84)
      have HB1 : Hid (Below W.heap.size W (wr.alloc (Obj.cells #[.int .i64 lo, .int .i64 hi] 84))) := HB.out.trans (hbn.mono HB.out.size)
      by_cases hlh : hi < lo
      · have HE : Hid (r = 0) := by rw [Hid, ← HQ.out, hq, if_pos hlh]
        clear d0 d1 hg hq hbn
        go_wp2
        go_ret
        exact ⟨by rw [HE.out]; rfl, HB1.out⟩
      · obtain ⟨s, hs⟩ : ∃ s, hi - lo + 1 = s := ⟨_, rfl⟩
        obtain ⟨y, hy⟩ : ∃ y, x * s = y := ⟨_, rfl⟩
        have hs0 : 1 ≤ s := by omega
        have hs1 : s ≤ 2000001 := by omega
        have hy0 : 0 ≤ y := by rw [← hy]; exact Int.mul_nonneg hx0 (by omega)
        have hy1 : y ≤ 8800000000000000 := by
          rw [← hy]
          calc x * s ≤ 4000000000 * s := Int.mul_le_mul_of_nonneg_right (by omega) (by omega)
            _ ≤ 8800000000000000 := by omega
        have HE : Hid (prodM (l.drop (k + 1)) most (min most y) = r) := by rw [Hid, ← HQ.out, hq, if_neg hlh, hs, hy]
        have hw3 : IntKind.i64.wrap (hi - lo) = hi - lo := by rw [IntKind.wrap_i64]; omega
        have hw4 : IntKind.i64.wrap (hi - lo + 1) = s := by rw [IntKind.wrap_i64]; omega
        have hw5 : IntKind.i64.wrap (x * s) = y := by rw [hy, IntKind.wrap_i64]; omega
        have HMN : Hid (0 ≤ min most y ∧ min most y ≤ most) := by rw [Hid]; omega
        clear d0 d1 hg hq hbn hs hy
        go_wp2
        go_roundw
        case rel => exact ⟨k + 1, min most y, by omega, by go_num, rfl, HMN.out.1, HMN.out.2, HE, HB1⟩
        case measure => simp [intOf] <;> omega
    · obtain rfl : k = n := by omega
      have HE : Hid (r = x) := by rw [Hid, ← HQ.out, List.drop_of_length_le (by rw [HN.out]; exact Nat.le_refl _)]; rfl
      go_wp2
      go_ret
      exact ⟨by rw [HE.out]; rfl, HB.out⟩
end Go.Proofs.YtdnhhmnllhlbbaaGreatDoor
