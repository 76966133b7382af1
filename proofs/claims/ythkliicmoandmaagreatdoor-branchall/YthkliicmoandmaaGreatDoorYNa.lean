/-
  What is proved here: the mathematics of domains of sets: which sets are in them, and how many.
-/
import Derived.Test.YthkliicmoandmaaGreatDoorYCaj
import Derived.Test.YthkliicmoandmaaGreatDoorYSdj
namespace Go.Proofs.YthkliicmoandmaaGreatDoor.St
open Go.RowKit Go.Shelf
set_option linter.unusedVariables false
set_option linter.unusedSimpArgs false

theorem subB_iff (a b : List Int) : subB a b = true ↔ ∀ x ∈ a, x ∈ b := by
  unfold subB lessL
  rw [decide_eq_true_iff, List.length_eq_zero_iff, List.filter_eq_nil_iff]
  simp
theorem pw_sub : ∀ (b a : List Int), a.Pairwise (· < ·) → b.Pairwise (· < ·) → (∀ x ∈ a, x ∈ b) → a.Sublist b
  | [], a, _, _, h => by
    cases a with
    | nil => exact List.Sublist.slnil
    | cons x a => exact absurd (h x List.mem_cons_self) (by simp)
  | y :: b, [], _, _, _ => List.nil_sublist _
  | y :: b, x :: a, ha, hb, h => by
    rw [List.pairwise_cons] at ha hb
    rcases List.mem_cons.1 (h x List.mem_cons_self) with e | e
    · subst e
      refine (pw_sub b a ha.2 hb.2 fun z hz => ?_).cons_cons x
      rcases List.mem_cons.1 (h z (List.mem_cons_of_mem _ hz)) with e2 | e2
      · have := ha.1 z hz; omega
      · exact e2
    · refine (pw_sub b (x :: a) (List.pairwise_cons.2 ha) hb.2 fun z hz => ?_).cons y
      have hxy := hb.1 x e
      rcases List.mem_cons.1 (h z hz) with e2 | e2
      · rcases List.mem_cons.1 hz with e3 | e3
        · omega
        · have := ha.1 z e3; omega
      · exact e2
theorem set_sub {a b : List Int} (ha : IsSet a) (hb : IsSet b) (h : ∀ x ∈ a, x ∈ b) : a.Sublist b := pw_sub b a (set_pw ha) (set_pw hb) h
theorem set_sub_len {a b : List Int} (ha : IsSet a) (hb : IsSet b) (h : ∀ x ∈ a, x ∈ b) : a.length ≤ b.length := (set_sub ha hb h).length_le
theorem set_sub_eq {a b : List Int} (ha : IsSet a) (hb : IsSet b) (h : ∀ x ∈ a, x ∈ b) (hl : b.length ≤ a.length) : a = b := (set_sub ha hb h).eq_of_length_le hl
theorem set_ext {a b : List Int} (ha : IsSet a) (hb : IsSet b) (h : ∀ x, x ∈ a ↔ x ∈ b) : a = b :=
  set_sub_eq ha hb (fun x hx => (h x).1 hx) (set_sub_len hb ha fun x hx => (h x).2 hx)

/-- A set is among those of a domain: bounds and sizes alone. -/
def InD (d : SD) (l : List Int) : Prop := (∀ x ∈ d.lo, x ∈ l) ∧ (∀ x ∈ l, x ∈ d.up) ∧ d.least ≤ l.length ∧ (l.length : Int) ≤ d.most
def TD (lo up : List Int) (least most : Int) : SD := ⟨true, 0, lo, up, least, most⟩
theorem none_right : RightD noneD := ⟨rfl, rfl, isSet_nil, isSet_nil, rfl, .inl ⟨rfl, rfl, rfl⟩⟩
theorem none_in (l : List Int) : ¬ InD noneD l := by
  rintro ⟨_, _, h1, h2⟩
  simp only [noneD] at h1 h2
  omega
theorem tight_cases {lo up : List Int} (least most : Int) (h1 : IsSet lo) (h2 : IsSet up) (hs : ∀ x ∈ lo, x ∈ up) :
    (tightD lo up least most = noneD ∧ min most up.length < max least lo.length) ∨
    (tightD lo up least most = TD up up up.length up.length ∧ max least lo.length = up.length ∧ (up.length : Int) ≤ most) ∨
    (tightD lo up least most = TD lo lo lo.length lo.length ∧ min most up.length = lo.length ∧ least ≤ lo.length ∧ lo.length < up.length) ∨
    (tightD lo up least most = TD lo up (max least lo.length) (min most up.length) ∧ max least lo.length ≤ min most up.length ∧ lo.length < up.length) := by
  have hl := set_sub_len h1 h2 hs
  unfold tightD
  dsimp only
  by_cases a : min most (up.length : Int) < max least (lo.length : Int)
  · rw [if_pos a]; exact .inl ⟨rfl, a⟩
  · rw [if_neg a]
    by_cases b : max least (lo.length : Int) = (up.length : Int)
    · have c : min most (up.length : Int) = (up.length : Int) := by omega
      simp only [b, c, if_true]
      exact .inr (.inl ⟨by unfold TD; congr 1 <;> omega, trivial, by omega⟩)
    · simp only [if_neg b]
      by_cases c : min most (up.length : Int) = (lo.length : Int)
      · simp only [c, if_true]
        exact .inr (.inr (.inl ⟨by unfold TD; congr 1 <;> omega, trivial, by omega, by omega⟩))
      · simp only [if_neg c]
        exact .inr (.inr (.inr ⟨by unfold TD; congr 1 <;> omega, by omega, by omega⟩))
theorem sub_refl (a : List Int) : subB a a = true := (subB_iff a a).2 fun _ h => h
theorem tight_right {lo up : List Int} (least most : Int) (h1 : IsSet lo) (h2 : IsSet up) (hs : ∀ x ∈ lo, x ∈ up) : RightD (tightD lo up least most) := by
  rcases tight_cases least most h1 h2 hs with ⟨e, a⟩ | ⟨e, a, b⟩ | ⟨e, a, b, c⟩ | ⟨e, a, b⟩ <;> rw [e]
  · exact none_right
  · exact ⟨rfl, rfl, h2, h2, sub_refl _, .inr ⟨Int.le_refl _, Int.le_refl _, Int.le_refl _⟩⟩
  · exact ⟨rfl, rfl, h1, h1, sub_refl _, .inr ⟨Int.le_refl _, Int.le_refl _, Int.le_refl _⟩⟩
  · exact ⟨rfl, rfl, h1, h2, (subB_iff _ _).2 hs, .inr ⟨by simp only [TD]; omega, by simp only [TD]; omega, by simp only [TD]; omega⟩⟩
theorem tight_in {lo up : List Int} (least most : Int) (h1 : IsSet lo) (h2 : IsSet up) (hs : ∀ x ∈ lo, x ∈ up) {l : List Int} (hl : IsSet l) :
    InD (tightD lo up least most) l ↔ InD (TD lo up least most) l := by
  constructor
  · intro h
    rcases tight_cases least most h1 h2 hs with ⟨e, a⟩ | ⟨e, a, b⟩ | ⟨e, a, b, c⟩ | ⟨e, a, b⟩ <;> rw [e] at h
    · exact absurd h (none_in l)
    · obtain ⟨p, q, r, s⟩ := h
      simp only [TD] at p q r s ⊢
      exact ⟨fun x hx => p x (hs x hx), q, show least ≤ _ by omega, show _ ≤ most by omega⟩
    · obtain ⟨p, q, r, s⟩ := h
      simp only [TD] at p q r s ⊢
      exact ⟨p, fun x hx => hs x (q x hx), show least ≤ _ by omega, show _ ≤ most by omega⟩
    · obtain ⟨p, q, r, s⟩ := h
      simp only [TD] at p q r s ⊢
      exact ⟨p, q, show least ≤ _ by omega, show _ ≤ most by omega⟩
  · rintro ⟨p, q, r, s⟩
    simp only [TD] at p q r s
    have u1 := set_sub_len h1 hl p
    have u2 := set_sub_len hl h2 q
    rcases tight_cases least most h1 h2 hs with ⟨e, a⟩ | ⟨e, a, b⟩ | ⟨e, a, b, c⟩ | ⟨e, a, b⟩ <;> rw [e]
    · omega
    · have : l = up := set_sub_eq hl h2 q (by omega)
      subst this
      exact ⟨fun x h => h, fun x h => h, Int.le_refl _, Int.le_refl _⟩
    · have : lo = l := set_sub_eq h1 hl p (by omega)
      subst this
      exact ⟨fun x h => h, fun x h => h, Int.le_refl _, Int.le_refl _⟩
    · exact ⟨p, q, show max least (lo.length : Int) ≤ _ by omega, show _ ≤ min most (up.length : Int) by omega⟩
theorem right_sub {d : SD} (h : RightD d) : ∀ x ∈ d.lo, x ∈ d.up := (subB_iff _ _).1 h.2.2.2.2.1
/-- What is known of a domain as it is taken. -/
theorem taken_right (d : SD) : RightD (takenD d) := by
  unfold takenD
  split
  · rename_i h; exact tight_right _ _ h.2.2.1 h.2.2.2.1 (right_sub h)
  · exact none_right
/-- sets.Has. -/
def hasD (d : SD) (l : List Int) : Bool := rightD d && subB (tkS d.lo) (tkS l) && subB (tkS l) (tkS d.up) && decide (d.least ≤ (tkS l).length) && decide (((tkS l).length : Int) ≤ d.most)
theorem has_iff (d : SD) (l : List Int) : hasD d l = true ↔ RightD d ∧ InD d (tkS l) := by
  unfold hasD rightD InD
  simp only [Bool.and_eq_true, decide_eq_true_iff, subB_iff]
  constructor
  · rintro ⟨⟨⟨⟨h, a⟩, b⟩, c⟩, e⟩
    rw [tkS_yes h.2.2.1] at a
    rw [tkS_yes h.2.2.2.1] at b
    exact ⟨h, a, b, c, e⟩
  · rintro ⟨h, a, b, c, e⟩
    rw [tkS_yes h.2.2.1, tkS_yes h.2.2.2.1]
    exact ⟨⟨⟨⟨h, a⟩, b⟩, c⟩, e⟩
theorem taken_in (d : SD) (l : List Int) : hasD d l = true ↔ InD (takenD d) (tkS l) := by
  rw [has_iff]
  unfold takenD
  split
  · rename_i h
    rw [tight_in _ _ h.2.2.1 h.2.2.2.1 (right_sub h) (tkS_set l)]
    exact ⟨fun x => x.2, fun x => ⟨h, x⟩⟩
  · rename_i h
    exact ⟨fun x => absurd x.1 h, fun x => absurd x (none_in _)⟩
theorem join_mem (a b : List Int) (x : Int) : x ∈ joinL a b ↔ x ∈ a ∨ x ∈ b := by
  unfold joinL sortL
  rw [(List.mergeSort_perm _ _).mem_iff, List.mem_append]
  unfold lessL
  rw [List.mem_filter]
  by_cases h : x ∈ a <;> simp [h]
theorem less_mem (a b : List Int) (x : Int) : x ∈ lessL a b ↔ x ∈ a ∧ ¬ x ∈ b := by
  unfold lessL; rw [List.mem_filter]; simp
theorem join_pw {a b : List Int} (ha : IsSet a) (hb : IsSet b) : (joinL a b).Pairwise (· < ·) := by
  have hp : (joinL a b).Perm (a ++ lessL b a) := List.mergeSort_perm _ _
  have nd : (joinL a b).Nodup := by
    rw [hp.nodup_iff, List.nodup_append]
    refine ⟨(set_pw ha).imp (by omega), ((set_pw hb).filter _).imp (by omega), fun x hx y hy => ?_⟩
    have := ((less_mem b a y).1 hy).2
    intro e; subst e; exact this hx
  have h2 := (sort_pw (a ++ lessL b a)).and nd
  exact h2.imp (by omega)
theorem join_one_set {a : List Int} {v : Int} {u : List Int} (ha : IsSet a) (hu : IsSet u) (hs : ∀ x ∈ a, x ∈ u) (hv : v ∈ u) : IsSet (joinL a [v]) ∧ (∀ x ∈ joinL a [v], x ∈ u) := by
  have hsub : ∀ x ∈ joinL a [v], x ∈ u := fun x hx => by
    rcases (join_mem _ _ _).1 hx with h | h
    · exact hs x h
    · rw [List.mem_singleton.1 h]; exact hv
  have hb : IsSet [v] := set_of (by simp) (fun x hx => by rw [List.mem_singleton.1 hx]; exact set_mem hu v hv) (by simp)
  have hp := join_pw ha hb
  exact ⟨set_of (Nat.le_trans (pw_sub u _ hp (set_pw hu) hsub).length_le hu.1) (fun x hx => set_mem hu x (hsub x hx)) hp, hsub⟩
theorem tkS_one {v : Int} {u : List Int} (hu : IsSet u) (hv : v ∈ u) : tkS [v] = [v] := tkS_yes (set_of (by simp) (fun x hx => by rw [List.mem_singleton.1 hx]; exact set_mem hu v hv) (by simp))
theorem tkS_one_mem {v x : Int} (h : x ∈ tkS [v]) : x = v := by
  unfold tkS at h
  split at h
  · exact List.mem_singleton.1 h
  · simp at h
theorem mem_tkS_one {v : Int} {u : List Int} (hu : IsSet u) (hv : v ∈ u) : v ∈ tkS [v] := by rw [tkS_one hu hv]; exact List.mem_singleton.2 rfl
/-- sets.Must and sets.Not. -/
def mustD (d : SD) (v : Int) : SD := if (takenD d).up.contains v then tightD (joinL (takenD d).lo (tkS [v])) (takenD d).up (takenD d).least (takenD d).most else noneD
def notD (d : SD) (v : Int) : SD := if (takenD d).lo.contains v then noneD else tightD (takenD d).lo (lessL (takenD d).up (tkS [v])) (takenD d).least (takenD d).most
theorem less_one_set {u : List Int} (hu : IsSet u) (m : List Int) : IsSet (lessL u m) := set_filter hu _
theorem not_sub {d : SD} {v : Int} (hr : RightD d) (hv : ¬ v ∈ d.lo) : ∀ x ∈ d.lo, x ∈ lessL d.up (tkS [v]) := fun x hx => (less_mem _ _ _).2 ⟨right_sub hr x hx, fun h => hv (by rw [← tkS_one_mem h]; exact hx)⟩
theorem must_right (d : SD) (v : Int) : RightD (mustD d v) := by
  unfold mustD
  split
  · rename_i h
    have hR := taken_right d
    have hv : v ∈ (takenD d).up := by simpa using h
    rw [tkS_one hR.2.2.2.1 hv]
    have hj := join_one_set hR.2.2.1 hR.2.2.2.1 (right_sub hR) hv
    exact tight_right _ _ hj.1 hR.2.2.2.1 hj.2
  · exact none_right
theorem not_right (d : SD) (v : Int) : RightD (notD d v) := by
  unfold notD
  split
  · exact none_right
  · rename_i h
    have hR := taken_right d
    exact tight_right _ _ hR.2.2.1 (less_one_set hR.2.2.2.1 _) (not_sub hR (by simpa using h))
theorem must_has (d : SD) (v : Int) (l : List Int) : hasD (mustD d v) l = true ↔ hasD d l = true ∧ v ∈ tkS l := by
  rw [has_iff, taken_in d l]
  have hR := taken_right d
  refine ⟨fun ⟨_, h⟩ => ?_, fun ⟨h, hv⟩ => ⟨must_right d v, ?_⟩⟩
  · unfold mustD at h
    split at h
    · rename_i hc
      have hv : v ∈ (takenD d).up := by simpa using hc
      rw [tkS_one hR.2.2.2.1 hv] at h
      have hj := join_one_set hR.2.2.1 hR.2.2.2.1 (right_sub hR) hv
      rw [tight_in _ _ hj.1 hR.2.2.2.1 hj.2 (tkS_set l)] at h
      obtain ⟨p, q, r, s⟩ := h
      exact ⟨⟨fun x hx => p x ((join_mem _ _ _).2 (.inl hx)), q, r, s⟩, p v ((join_mem _ _ _).2 (.inr (List.mem_singleton.2 rfl)))⟩
    · exact absurd h (none_in _)
  · have hu : v ∈ (takenD d).up := h.2.1 v hv
    unfold mustD
    rw [if_pos (by simpa using hu), tkS_one hR.2.2.2.1 hu]
    have hj := join_one_set hR.2.2.1 hR.2.2.2.1 (right_sub hR) hu
    rw [tight_in _ _ hj.1 hR.2.2.2.1 hj.2 (tkS_set l)]
    refine ⟨fun x hx => ?_, h.2.1, h.2.2.1, h.2.2.2⟩
    rcases (join_mem _ _ _).1 hx with h3 | h3
    · exact h.1 x h3
    · rw [List.mem_singleton.1 h3]; exact hv
theorem not_has (d : SD) (v : Int) (l : List Int) : hasD (notD d v) l = true ↔ hasD d l = true ∧ ¬ v ∈ tkS l := by
  rw [has_iff, taken_in d l]
  have hR := taken_right d
  refine ⟨fun ⟨_, h⟩ => ?_, fun ⟨h, hv⟩ => ⟨not_right d v, ?_⟩⟩
  · unfold notD at h
    split at h
    · exact absurd h (none_in _)
    · rename_i hc
      have hv : ¬ v ∈ (takenD d).lo := by simpa using hc
      rw [tight_in _ _ hR.2.2.1 (less_one_set hR.2.2.2.1 _) (not_sub hR hv) (tkS_set l)] at h
      obtain ⟨p, q, r, s⟩ := h
      refine ⟨⟨p, fun x hx => ((less_mem _ _ _).1 (q x hx)).1, r, s⟩, fun hl => ?_⟩
      have := (less_mem _ _ _).1 (q v hl)
      exact this.2 (mem_tkS_one hR.2.2.2.1 this.1)
  · have hc : ¬ v ∈ (takenD d).lo := fun hh => hv (h.1 v hh)
    unfold notD
    rw [if_neg (by simpa using hc)]
    rw [tight_in _ _ hR.2.2.1 (less_one_set hR.2.2.2.1 _) (not_sub hR hc) (tkS_set l)]
    exact ⟨h.1, fun x hx => (less_mem _ _ _).2 ⟨h.2.1 x hx, fun h3 => hv (by rw [← tkS_one_mem h3]; exact hx)⟩, h.2.2.1, h.2.2.2⟩

/-- The sum of the first numbers of a row. -/
def sm (f : Nat → Int) : Nat → Int
  | 0 => 0
  | n + 1 => sm f n + f n
theorem sm_congr {f g : Nat → Int} : ∀ n, (∀ i, i < n → f i = g i) → sm f n = sm g n
  | 0, _ => rfl
  | n + 1, h => by unfold sm; rw [sm_congr n fun i hi => h i (by omega), h n (by omega)]
theorem sm_add (f g : Nat → Int) : ∀ n, sm (fun i => f i + g i) n = sm f n + sm g n
  | 0 => rfl
  | n + 1 => by unfold sm; rw [sm_add f g n]; omega
theorem sm_zero {f : Nat → Int} : ∀ n, (∀ i, i < n → f i = 0) → sm f n = 0
  | 0, _ => rfl
  | n + 1, h => by unfold sm; rw [sm_zero n fun i hi => h i (by omega), h n (by omega)]; rfl
theorem sm_more {f : Nat → Int} (a : Nat) : ∀ j, (∀ i, a ≤ i → i < a + j → f i = 0) → sm f (a + j) = sm f a
  | 0, _ => rfl
  | j + 1, h => by
    show sm f (a + j) + f (a + j) = _
    rw [sm_more a j fun i h1 h2 => h i h1 (by omega), h (a + j) (by omega) (by omega)]; omega
theorem sm_shift (f : Nat → Int) : ∀ n, sm f (n + 1) = f 0 + sm (fun i => f (i + 1)) n
  | 0 => by simp [sm]
  | n + 1 => by
    show sm f (n + 1) + f (n + 1) = _
    rw [sm_shift f n]
    show _ = f 0 + (sm (fun i => f (i + 1)) n + f (n + 1))
    omega
theorem sm_nonneg {f : Nat → Int} : ∀ n, (∀ i, i < n → 0 ≤ f i) → 0 ≤ sm f n
  | 0, _ => Int.le_refl _
  | n + 1, h => Int.add_nonneg (sm_nonneg n fun i hi => h i (by omega)) (h n (by omega))
theorem sm_mono {f : Nat → Int} (hf : ∀ i, 0 ≤ f i) (a : Nat) : ∀ j, sm f a ≤ sm f (a + j)
  | 0 => Int.le_refl _
  | j + 1 => by
    have h1 := sm_mono hf a j
    have h2 := hf (a + j)
    show _ ≤ sm f (a + j) + f (a + j)
    omega
theorem sm_one {f : Nat → Int} (k : Nat) (n : Nat) (hk : k < n) (h : ∀ i, i < n → i ≠ k → f i = 0) : sm f n = f k := by
  have e1 : sm f k = 0 := sm_zero k fun i hi => h i (by omega) (by omega)
  have e2 : sm f (k + 1) = f k := by show sm f k + f k = f k; omega
  have e3 := sm_more (f := f) (k + 1) (n - (k + 1)) fun i h1 h2 => h i (by omega) (by omega)
  rw [show k + 1 + (n - (k + 1)) = n by omega] at e3
  omega
theorem sm_mid (f : Nat → Int) (b j m : Nat) (hm : b + j ≤ m) : sm (fun i => if b ≤ i ∧ i < b + j then f i else 0) m = sm (fun i => f (b + i)) j := by
  have e1 : ∀ t, t ≤ j → sm (fun i => if b ≤ i ∧ i < b + j then f i else 0) (b + t) = sm (fun i => f (b + i)) t := by
    intro t
    induction t with
    | zero => intro _; exact sm_zero _ fun i hi => if_neg (by omega)
    | succ t ih =>
      intro h
      show sm (fun i => if b ≤ i ∧ i < b + j then f i else 0) (b + t) + (if b ≤ b + t ∧ b + t < b + j then f (b + t) else 0) = sm (fun i => f (b + i)) t + f (b + t)
      rw [ih (by omega), if_pos (by omega)]
  have e2 := sm_more (f := fun i => if b ≤ i ∧ i < b + j then f i else 0) (b + j) (m - (b + j)) fun i h1 h2 => if_neg (by omega)
  rw [show b + j + (m - (b + j)) = m by omega] at e2
  rw [e2, e1 j (Nat.le_refl _)]

/-- How many sets there are, of r elements that may be missing, n that must be there, with least to most elements. -/
def nsf (r n : Nat) (least most : Int) (i : Nat) : Int := if least ≤ (n : Int) + i ∧ (n : Int) + i ≤ most then ch r i else 0
def NS (r n : Nat) (least most : Int) : Int := sm (nsf r n least most) (r + 1)
theorem nsf_nonneg (r n : Nat) (least most : Int) (i : Nat) : 0 ≤ nsf r n least most i := by
  unfold nsf; split
  · exact ch_nonneg r i
  · exact Int.le_refl _
theorem NS_nonneg (r n : Nat) (least most : Int) : 0 ≤ NS r n least most := sm_nonneg _ fun i _ => nsf_nonneg _ _ _ _ i
theorem NS_more (r n : Nat) (least most : Int) (m : Nat) (hm : r + 1 ≤ m) : sm (nsf r n least most) m = NS r n least most := by
  have := sm_more (f := nsf r n least most) (r + 1) (m - (r + 1)) fun i h1 h2 => by
    unfold nsf; rw [ch_zero r i (by omega)]; split <;> rfl
  rw [show r + 1 + (m - (r + 1)) = m by omega] at this
  exact this
theorem ch_last : ∀ r, ch r r = 1
  | 0 => rfl
  | r + 1 => by unfold ch; rw [if_neg (by omega), ch_zero r (r + 1) (by omega), Nat.add_sub_cancel, ch_last r]; rfl
theorem NS_pascal (r n : Nat) (least most : Int) : NS (r + 1) n least most = NS r (n + 1) least most + NS r n least most := by
  have e0 : NS r n least most = sm (nsf r n least most) (r + 2) := (NS_more r n least most (r + 2) (by omega)).symm
  rw [e0]
  show sm (nsf (r + 1) n least most) (r + 2) = sm (nsf r (n + 1) least most) (r + 1) + sm (nsf r n least most) (r + 2)
  rw [sm_shift (nsf (r + 1) n least most), sm_shift (nsf r n least most)]
  have e1 : nsf (r + 1) n least most 0 = nsf r n least most 0 := by unfold nsf; rw [ch_first, ch_first]
  have e2 : sm (fun i => nsf (r + 1) n least most (i + 1)) (r + 1) = sm (fun i => nsf r (n + 1) least most i + nsf r n least most (i + 1)) (r + 1) := by
    apply sm_congr
    intro i _
    unfold nsf
    have ec : ch (r + 1) (i + 1) = ch r (i + 1) + ch r i := by
      show (if i + 1 = 0 then ch r 0 else ch r (i + 1) + ch r (i + 1 - 1)) = _
      rw [if_neg (by omega), Nat.add_sub_cancel]
    have eq : (((n + 1 : Nat) : Int) + (i : Int)) = (n : Int) + ((i + 1 : Nat) : Int) := by omega
    rw [eq, ec]
    by_cases c : least ≤ (n : Int) + ((i + 1 : Nat) : Int) ∧ (n : Int) + ((i + 1 : Nat) : Int) ≤ most
    · rw [if_pos c, if_pos c, if_pos c]; omega
    · rw [if_neg c, if_neg c, if_neg c]; rfl
  rw [e1, e2, sm_add]
  omega
def NSd (d : SD) : Int := NS (d.up.length - d.lo.length) d.lo.length d.least d.most
theorem NS_none : NSd noneD = 0 := by decide
theorem NS_empty (r n : Nat) (least most : Int) (h : ∀ i : Nat, i < r + 1 → ¬ (least ≤ (n : Int) + i ∧ (n : Int) + i ≤ most)) : NS r n least most = 0 :=
  sm_zero _ fun i hi => by unfold nsf; rw [if_neg (h i hi)]
theorem NS_tight {lo up : List Int} (least most : Int) (h1 : IsSet lo) (h2 : IsSet up) (hs : ∀ x ∈ lo, x ∈ up) : NSd (tightD lo up least most) = NSd (TD lo up least most) := by
  have hl := set_sub_len h1 h2 hs
  obtain ⟨n, hn⟩ : ∃ n, lo.length = n := ⟨_, rfl⟩
  obtain ⟨m, hm⟩ : ∃ n, up.length = n := ⟨_, rfl⟩
  rcases tight_cases least most h1 h2 hs with ⟨e, a⟩ | ⟨e, a, b⟩ | ⟨e, a, b, c⟩ | ⟨e, a, b⟩ <;> rw [e]
  · rw [NS_none]
    symm
    show NS (up.length - lo.length) lo.length least most = 0
    apply NS_empty
    intro i hi
    omega
  · show NS (up.length - up.length) up.length up.length up.length = NS (up.length - lo.length) lo.length least most
    rw [hn, hm] at *
    have x1 : NS (m - m) m m m = 1 := by
      rw [Nat.sub_self]
      show 0 + nsf 0 m m m 0 = 1
      unfold nsf
      rw [if_pos (by omega)]; rfl
    have x2 : NS (m - n) n least most = nsf (m - n) n least most (m - n) := by
      apply sm_one (m - n) (m - n + 1) (by omega)
      intro i hi hne
      unfold nsf
      rw [if_neg (by omega)]
    rw [x1, x2]
    unfold nsf
    rw [if_pos (by omega), ch_last]
  · show NS (lo.length - lo.length) lo.length lo.length lo.length = NS (up.length - lo.length) lo.length least most
    rw [hn, hm] at *
    have x1 : NS (n - n) n n n = 1 := by
      rw [Nat.sub_self]
      show 0 + nsf 0 n n n 0 = 1
      unfold nsf
      rw [if_pos (by omega)]; rfl
    have x2 : NS (m - n) n least most = nsf (m - n) n least most 0 := by
      apply sm_one 0 (m - n + 1) (by omega)
      intro i hi hne
      unfold nsf
      rw [if_neg (by omega)]
    rw [x1, x2]
    unfold nsf
    rw [if_pos (by omega), ch_first]
  · show NS (up.length - lo.length) lo.length (max least lo.length) (min most up.length) = NS (up.length - lo.length) lo.length least most
    rw [hn, hm] at *
    apply sm_congr
    intro i hi
    unfold nsf
    by_cases c : least ≤ (n : Int) + i ∧ (n : Int) + i ≤ most
    · rw [if_pos c, if_pos (by omega)]
    · rw [if_neg c, if_neg (by omega)]
theorem cs_sum (r b : Nat) : ∀ j, cs r b j = min (sm (fun i => ch r (b + i)) j) 4611686018427387904
  | 0 => rfl
  | j + 1 => by
    have h1 := cs_sum r b j
    have h2 := ch_nonneg r (b + j)
    show min (cs r b j + ch r (b + j)) _ = min (sm (fun i => ch r (b + i)) j + ch r (b + j)) _
    rw [h1]
    omega
theorem count_NS (d : SD) : countD d = min (NSd (takenD d)) 4611686018427387904 := by
  obtain ⟨f1, f2, f3, f4, f5, f6, _⟩ := taken_facts d
  unfold countD countT NSd
  generalize takenD d = T at *
  generalize T.lo.length = n at *
  generalize T.up.length = m at *
  rw [cs_sum]
  congr 1
  obtain ⟨b, hb⟩ : ∃ b, (T.least - (n : Int)).toNat = b := ⟨_, rfl⟩
  obtain ⟨j, hj⟩ : ∃ b, (T.most + 1 - T.least).toNat = b := ⟨_, rfl⟩
  rw [hb, hj]
  rw [← sm_mid (ch (m - n)) b j (b + j + (m - n + 1)) (by omega), ← NS_more (m - n) n T.least T.most (b + j + (m - n + 1)) (by omega)]
  apply sm_congr
  intro i _
  unfold nsf
  by_cases c : b ≤ i ∧ i < b + j
  · rw [if_pos c, if_pos (by omega)]
  · rw [if_neg c, if_neg (by omega)]
theorem NS_taken {d : SD} (h : RightD d) : NSd (takenD d) = NSd d := by
  unfold takenD
  rw [if_pos h, NS_tight _ _ h.2.2.1 h.2.2.2.1 (right_sub h)]
  rfl
theorem count_right {d : SD} (h : RightD d) : countD d = min (NSd d) 4611686018427387904 := by rw [count_NS, NS_taken h]
theorem less_none {u : List Int} {v : Int} (hv : ¬ v ∈ u) : lessL u (tkS [v]) = u := by
  unfold lessL
  rw [List.filter_eq_self]
  intro x hx
  have : ¬ x ∈ tkS [v] := fun h => hv (by rw [← tkS_one_mem h]; exact hx)
  simpa using this
theorem join_len {a b : List Int} : (joinL a b).length = a.length + (lessL b a).length := by
  unfold joinL; rw [sortL_len, List.length_append]
theorem less_len : ∀ {u : List Int} {v : Int}, u.Pairwise (· < ·) → v ∈ u → (lessL u [v]).length + 1 = u.length
  | [], v, _, h => by simp at h
  | y :: u, v, hp, h => by
    rw [List.pairwise_cons] at hp
    have hstep : lessL (y :: u) [v] = if y = v then lessL u [v] else y :: lessL u [v] := by
      unfold lessL
      rw [List.filter_cons]
      by_cases e : y = v <;> simp [e]
    rw [hstep]
    by_cases e : y = v
    · subst e
      rw [if_pos rfl]
      have : lessL u [y] = u := by
        unfold lessL
        rw [List.filter_eq_self]
        intro x hx
        have := hp.1 x hx
        simp; omega
      rw [this]; rfl
    · rw [if_neg e]
      have hm : v ∈ u := by rcases List.mem_cons.1 h with h | h; exact absurd h.symm e; exact h
      have := less_len hp.2 hm
      simp only [List.length_cons]; omega
theorem parts_NS (d : SD) (v : Int) : NSd (mustD d v) + NSd (notD d v) = NSd (takenD d) := by
  have hR := taken_right d
  unfold mustD notD
  generalize takenD d = T at *
  have s1 := hR.2.2.1
  have s2 := hR.2.2.2.1
  have hl := set_sub_len s1 s2 (right_sub hR)
  by_cases hu : v ∈ T.up
  · rw [if_pos (by simpa using hu), tkS_one s2 hu]
    have hj := join_one_set s1 s2 (right_sub hR) hu
    rw [NS_tight _ _ hj.1 s2 hj.2]
    by_cases hv : v ∈ T.lo
    · rw [if_pos (by simpa using hv), NS_none]
      have e : joinL T.lo [v] = T.lo := set_ext hj.1 s1 fun x => by
        rw [join_mem]
        exact ⟨fun h => h.elim id fun h => by rw [List.mem_singleton.1 h]; exact hv, .inl⟩
      rw [e]
      show NS _ _ _ _ + 0 = NS _ _ _ _
      simp [TD]
    · rw [if_neg (by simpa using hv)]
      have hn := not_sub hR hv
      rw [tkS_one s2 hu] at hn
      rw [NS_tight _ _ s1 (less_one_set s2 _) hn]
      have e1 : (joinL T.lo [v]).length = T.lo.length + 1 := by
        rw [join_len]
        have : lessL [v] T.lo = [v] := by
          unfold lessL; rw [List.filter_eq_self]; intro x hx; rw [List.mem_singleton.1 hx]; simpa using hv
        rw [this]; rfl
      have e2 := less_len (set_pw s2) hu
      have hl2 := set_sub_len hj.1 s2 hj.2
      show NS (T.up.length - (joinL T.lo [v]).length) (joinL T.lo [v]).length T.least T.most + NS ((lessL T.up [v]).length - T.lo.length) T.lo.length T.least T.most = NS (T.up.length - T.lo.length) T.lo.length T.least T.most
      rw [e1] at hl2 ⊢
      obtain ⟨r, hr⟩ : ∃ r, T.up.length - (T.lo.length + 1) = r := ⟨_, rfl⟩
      rw [hr, show (lessL T.up [v]).length - T.lo.length = r by omega, show T.up.length - T.lo.length = r + 1 by omega, NS_pascal]
  · rw [if_neg (by simpa using hu), NS_none]
    have hv : ¬ v ∈ T.lo := fun h => hu (right_sub hR v h)
    rw [if_neg (by simpa using hv), less_none hu, NS_tight _ _ s1 s2 (right_sub hR)]
    show 0 + NS _ _ _ _ = NS _ _ _ _
    simp [TD]
theorem parts_count (d : SD) (v : Int) (h : countD d < 2305843009213693952) : countD (mustD d v) + countD (notD d v) = countD d ∧ 0 ≤ countD (mustD d v) ∧ 0 ≤ countD (notD d v) := by
  have h1 := count_right (must_right d v)
  have h2 := count_right (not_right d v)
  have h3 := count_NS d
  have h4 := parts_NS d v
  have h5 : 0 ≤ NSd (mustD d v) := NS_nonneg _ _ _ _
  have h6 : 0 ≤ NSd (notD d v) := NS_nonneg _ _ _ _
  omega
end Go.Proofs.YthkliicmoandmaaGreatDoor.St

