/-
  What is proved here: a domain has one set just where it is fixed (mathematics only).
-/
import Derived.Test.YtacnhkaibcjjgaaGreatDoorUg
namespace Go.Proofs.YtacnhkaibcjjgaaGreatDoor
open Go.RowKit Go.Shelf
set_option linter.unusedVariables false
set_option linter.unusedSimpArgs false

theorem ch_pos : ∀ r i, i ≤ r → 1 ≤ ch r i
  | 0, i, h => by
    obtain rfl : i = 0 := by omega
    decide
  | r + 1, i, h => by
    rw [ch]
    split
    · exact ch_pos r 0 (Nat.zero_le _)
    · have h1 := ch_pos r (i - 1) (by omega)
      have h2 := ch_nonneg r i
      omega
theorem ch_two {r i : Nat} (h0 : 0 < i) (h : i < r) : 2 ≤ ch r i := by
  match r, h with
  | r + 1, h =>
    rw [ch, if_neg (by omega)]
    have h1 := ch_pos r (i - 1) (by omega)
    have h2 := ch_pos r i (by omega)
    omega
theorem sm_ge1 {f : Nat → Int} (hf : ∀ i, 0 ≤ f i) {i n : Nat} (h : i < n) : f i ≤ sm f n := by
  have h1 := sm_mono hf (i + 1) (n - (i + 1))
  rw [show i + 1 + (n - (i + 1)) = n by omega] at h1
  have h2 : sm f (i + 1) = sm f i + f i := rfl
  have h3 := sm_nonneg (f := f) i fun j _ => hf j
  omega
theorem sm_ge2 {f : Nat → Int} (hf : ∀ i, 0 ≤ f i) {i j n : Nat} (hij : i < j) (h : j < n) : f i + f j ≤ sm f n := by
  have h1 := sm_mono hf (j + 1) (n - (j + 1))
  rw [show j + 1 + (n - (j + 1)) = n by omega] at h1
  have h2 : sm f (j + 1) = sm f j + f j := rfl
  have h3 := sm_ge1 hf hij
  omega
theorem NS_two {r n : Nat} {least most : Int} (h1 : (n : Int) ≤ least) (h2 : least ≤ most) (h3 : most ≤ (n : Int) + r) (h4 : least < (n : Int) + r) (h5 : (n : Int) < most) : 2 ≤ NS r n least most := by
  unfold NS
  obtain ⟨a, ha⟩ : ∃ a : Nat, least = (n : Int) + a := ⟨(least - n).toNat, by omega⟩
  obtain ⟨b, hb⟩ : ∃ b : Nat, most = (n : Int) + b := ⟨(most - n).toNat, by omega⟩
  subst ha hb
  have hf := nsf_nonneg r n ((n : Int) + a) ((n : Int) + b)
  have ea : nsf r n ((n : Int) + a) ((n : Int) + b) a = ch r a := by unfold nsf; rw [if_pos (by omega)]
  have eb : nsf r n ((n : Int) + a) ((n : Int) + b) b = ch r b := by unfold nsf; rw [if_pos (by omega)]
  by_cases hab : a = b
  · subst hab
    have := sm_ge1 hf (i := a) (n := r + 1) (by omega)
    have h2 := ch_two (r := r) (i := a) (by omega) (by omega)
    omega
  · have := sm_ge2 hf (i := a) (j := b) (n := r + 1) (by omega) (by omega)
    have p1 := ch_pos r a (by omega)
    have p2 := ch_pos r b (by omega)
    omega
theorem NS_one (L : List Int) : NSd (TD L L L.length L.length) = 1 := by
  unfold NSd NS
  simp only [TD, Nat.sub_self]
  show sm (nsf 0 L.length L.length L.length) 1 = 1
  have : sm (nsf 0 L.length L.length L.length) 1 = 0 + nsf 0 L.length L.length L.length 0 := rfl
  rw [this]
  unfold nsf
  rw [if_pos (by omega)]
  rfl
theorem td_empty {L : List Int} (h : IsSet L) : emptyD (TD L L L.length L.length) = false := by
  have hr : RightD (TD L L L.length L.length) := ⟨rfl, rfl, h, h, sub_refl _, .inr ⟨Int.le_refl _, Int.le_refl _, Int.le_refl _⟩⟩
  unfold emptyD
  rw [show rightD (TD L L L.length L.length) = true from decide_eq_true hr]
  simp [TD]
/-- Where Count tells 1, and only there, Fixed tells the set. -/
theorem fixed_one (d : SD) : (countD d = 1 ∧ fixB d = true ∧ Uq d (takenD d).lo) ∨ (countD d ≠ 1 ∧ fixB d = false) := by
  cases he : emptyD d
  · obtain ⟨hr, h1, h2, h3⟩ := empty_no he
    have hs := right_sub hr
    have l1 := hr.2.2.1
    have l2 := hr.2.2.2.1
    have e : takenD d = tightD d.lo d.up d.least d.most := by unfold takenD; rw [if_pos hr]
    rcases tight_cases2 d.least d.most l1 l2 hs with ⟨e', a⟩ | ⟨e', a, b⟩ | ⟨e', a, b, c⟩ | ⟨e', a, b, c, f⟩
    · omega
    · rw [e'] at e
      refine .inl ⟨by rw [count_NS, e, NS_one]; rfl, ?_, ?_⟩
      · unfold fixB; rw [e, td_empty l2]; simp [TD]
      · rw [e]; exact ⟨hr, by show d.least = d.up.length; omega, by show d.most = d.up.length; omega, l2, hs, fun _ h => h, .inl rfl⟩
    · rw [e'] at e
      refine .inl ⟨by rw [count_NS, e, NS_one]; rfl, ?_, ?_⟩
      · unfold fixB; rw [e, td_empty l1]; simp [TD]
      · rw [e]; exact ⟨hr, by show d.least = d.lo.length; omega, by show d.most = d.lo.length; omega, l1, fun _ h => h, hs, .inr rfl⟩
    · refine .inr ⟨?_, ?_⟩
      · rw [count_right hr]
        have h9 : 2 ≤ NSd d := by
          unfold NSd
          exact NS_two h2 h1 (by omega) (by omega) (by omega)
        omega
      · unfold fixB
        have hlo : (takenD d).lo = d.lo := by rw [e, e']; rfl
        have hup : (takenD d).up = d.up := by rw [e, e']; rfl
        have : decide (d.lo.length < d.up.length) = true := by simpa using b
        rw [hlo, hup, this]; simp
  · refine .inr ⟨by rw [count_empty he]; decide, ?_⟩
    unfold fixB
    rw [(empty_yes he).1, empty_none]; rfl
end Go.Proofs.YtacnhkaibcjjgaaGreatDoor
