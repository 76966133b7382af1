/-
  What is proved here: a row of six cells that holds a domain of sets: read, kept, written.
  What is proved here: the mathematics of domains of sets: which sets are in them, and how many.
  What is proved here: the reference's Meet and Less of any lists.
-/
import Derived.Test.YthkliicmoandmaaGreatDoorYCaj
import Derived.Test.YthkliicmoandmaaGreatDoorYSdj
namespace Go.Proofs.YthkliicmoandmaaGreatDoor.St
open Go.RowKit Go.Shelf
set_option linter.unusedVariables false
set_option linter.unusedSimpArgs false

/-- Block g holds a domain of sets. -/
structure R6 (w : World) (g : Nat) (x0 x1 x2 x3 x4 x5 : Value) : Prop where
  h : w.heap[g]? = some (.cells #[x0, x1, x2, x3, x4, x5] 50 (0, 0))
theorem R6.lt {w : World} {g : Nat} {x0 x1 x2 x3 x4 x5 : Value} (h : R6 w g x0 x1 x2 x3 x4 x5) : g < w.heap.size := (Array.getElem?_eq_some_iff.1 h.h).1
theorem R6.below {w w' : World} {g : Nat} {x0 x1 x2 x3 x4 x5 : Value} (h : R6 w g x0 x1 x2 x3 x4 x5) (hb : Below w.heap.size w w') : R6 w' g x0 x1 x2 x3 x4 x5 := ⟨(hb.block g h.lt).trans h.h⟩
theorem R6.cells {w : World} {g : Nat} {x0 x1 x2 x3 x4 x5 : Value} (h : R6 w g x0 x1 x2 x3 x4 x5) :
    w.cell? ⟨g, 0, none⟩ = some x0 ∧ w.cell? ⟨g, 1, none⟩ = some x1 ∧ w.cell? ⟨g, 2, none⟩ = some x2 ∧ w.cell? ⟨g, 3, none⟩ = some x3 ∧ w.cell? ⟨g, 4, none⟩ = some x4 ∧ w.cell? ⟨g, 5, none⟩ = some x5 := six_cells h.h
theorem R6.new (w : World) (x0 x1 x2 x3 x4 x5 : Value) : R6 (w.alloc (.cells #[x0, x1, x2, x3, x4, x5] 50)) w.heap.size x0 x1 x2 x3 x4 x5 := ⟨World.alloc_heap_new w _⟩
theorem R6.new1 (w : World) (o : Obj) (x0 x1 x2 x3 x4 x5 : Value) : R6 ((w.alloc o).alloc (.cells #[x0, x1, x2, x3, x4, x5] 50)) (w.heap.size + 1) x0 x1 x2 x3 x4 x5 := by
  have := World.alloc_heap_new (w.alloc o) (.cells #[x0, x1, x2, x3, x4, x5] 50)
  rw [World.size_alloc] at this
  exact ⟨this⟩
theorem R6.alloc {w : World} {g : Nat} {x0 x1 x2 x3 x4 x5 : Value} (h : R6 w g x0 x1 x2 x3 x4 x5) (o : Obj) : R6 (w.alloc o) g x0 x1 x2 x3 x4 x5 := ⟨(Below.heap_alloc _ _ _ h.lt).trans h.h⟩
theorem R6.set {w : World} {g : Nat} {y0 y1 y2 y3 y4 y5 : Value} (h : R6 w g y0 y1 y2 y3 y4 y5) (x0 x1 x2 x3 x4 x5 : Value) : R6 (w.setRow g #[x0, x1, x2, x3, x4, x5]) g x0 x1 x2 x3 x4 x5 := ⟨setRow_heap w g _ _ 50 (0, 0) h.h⟩
theorem R6.other {w : World} {g k : Nat} {x0 x1 x2 x3 x4 x5 : Value} (h : R6 w k x0 x1 x2 x3 x4 x5) (hk : k ≠ g) (cs : Array Value) : R6 (w.setRow g cs) k x0 x1 x2 x3 x4 x5 := ⟨(setRow_other w g k cs hk).trans h.h⟩
theorem R6.res {fn : Func} {p : Tmp} (hf : fn.results = #[.cell p 50]) (tmps : Array Value) {w : World} {g : Nat} {x0 x1 x2 x3 x4 x5 : Value} (h : R6 w g x0 x1 x2 x3 x4 x5) (hp : tmps.getD p undef = .pointer (some ⟨g, 0, none⟩)) :
    (results fn tmps).run Tryz.prog w = .ok (.agg #[x0, x1, x2, x3, x4, x5]) w := results_cell_row hf tmps w g 50 _ (0, 0) _ hp h.h Tryz.underlying50 rfl Tryz.size50
/-- The row of a domain: six values of one cell each. -/
def Six (x0 x1 x2 x3 x4 x5 : Value) : Prop := x0.oneCell' = true ∧ x1.oneCell' = true ∧ x2.oneCell' = true ∧ x3.oneCell' = true ∧ x4.oneCell' = true ∧ x5.oneCell' = true
theorem six_dom (b : Bool) (p0 p1 p2 : Option Addr) (m0 k0 m1 k1 m2 k2 : Nat) (i j : Int) : Six (.bool b) (.slice p0 m0 k0) (.slice p1 m1 k1) (.slice p2 m2 k2) (.int .i64 i) (.int .i64 j) := ⟨rfl, rfl, rfl, rfl, rfl, rfl⟩
theorem Six.all {x0 x1 x2 x3 x4 x5 : Value} (h : Six x0 x1 x2 x3 x4 x5) : (#[x0, x1, x2, x3, x4, x5] : Array Value).all (·.oneCell') = true := by
  obtain ⟨h0, h1, h2, h3, h4, h5⟩ := h
  simp [h0, h1, h2, h3, h4, h5]
theorem st37 {ops : Array Oper} {rest : List Oper} {o : Oper} {a : Act} {w : World} {Q : Exit → Act → World → Prop} {y0 y1 y2 y3 y4 y5 : Value} (hgd : o.guard = none) (x y : Operand) (ho : o.op = .store 50 x y)
    (g : Nat) (x0 x1 x2 x3 x4 x5 : Value) (hx : a.eval x = .pointer (some ⟨g, 0, none⟩)) (hy : a.eval y = .agg #[x0, x1, x2, x3, x4, x5]) (hg : R6 w g y0 y1 y2 y3 y4 y5) (hs : Six x0 x1 x2 x3 x4 x5)
    (h : wpList Tryz.prog ops Q rest (a.put o.dst undef) (w.setRow g #[x0, x1, x2, x3, x4, x5])) : wpList Tryz.prog ops Q (o :: rest) a w :=
  wpList_store_row hgd 50 x y ho g _ hx hy 50 _ hg.h Tryz.size50 rfl hs.all h
theorem Dv.set {B g : Nat} {w : World} {v : Value} {d : SD} {y0 y1 y2 y3 y4 y5 : Value} (h : Dv B w v d) (hg : R6 w g y0 y1 y2 y3 y4 y5) (cs : Array Value) : Dv B (w.setRow g cs) v d := by
  obtain ⟨slo, sup, e, e0, o1, o2⟩ := h
  exact ⟨slo, sup, e, e0, own_setRow o1 g cs hg.h, own_setRow o2 g cs hg.h⟩
theorem Dv.base {B B' : Nat} {w : World} {v : Value} {d : SD} (h : Dv B w v d) (hb : B' ≤ B) : Dv B' w v d := by
  obtain ⟨slo, sup, e, e0, o1, o2⟩ := h
  exact ⟨slo, sup, e, e0, own_base o1 hb, own_base o2 hb⟩
/-- What a domain in memory of its own looks like. -/
theorem Dv.look {B : Nat} {w : World} {v : Value} {d : SD} (h : Dv B w v d) : ∃ x0 p1 m1 k1 p2 m2 k2 x4 x5, v = .agg #[.bool x0, .slice none 0 0, .slice p1 m1 k1, .slice p2 m2 k2, .int .i64 x4, .int .i64 x5] ∧
    Hid (d.set = x0 ∧ d.lo.length = m1 ∧ d.up.length = m2 ∧ d.least = x4 ∧ d.most = x5 ∧ d.rn = 0) ∧ Hid (w.ownsRow B 2 1 (.slice p1 m1 k1) m1 (intv d.lo)) ∧ Hid (w.ownsRow B 2 1 (.slice p2 m2 k2) m2 (intv d.up)) := by
  obtain ⟨slo, sup, e, e0, o1, o2⟩ := h
  obtain ⟨p1, k1, rfl⟩ := own_slice o1
  obtain ⟨p2, k2, rfl⟩ := own_slice o2
  exact ⟨_, _, _, _, _, _, _, _, _, e, ⟨rfl, rfl, rfl, rfl, rfl, e0⟩, o1, o2⟩
/-- What a domain that is handed in looks like. -/
theorem Di.look {w : World} {v : Value} {d : SD} (h : Di w v d) : ∃ x0 ra rn rc a1 n1 c1 a2 n2 c2 x4 x5, v = .agg #[.bool x0, .slice ra rn rc, .slice a1 n1 c1, .slice a2 n2 c2, .int .i64 x4, .int .i64 x5] ∧
    Hid (d.set = x0 ∧ d.lo.length = n1 ∧ d.up.length = n2 ∧ d.least = x4 ∧ d.most = x5 ∧ d.rn = rn) ∧ Hid (Si w (.slice a1 n1 c1) d.lo) ∧ Hid (Si w (.slice a2 n2 c2) d.up) := by
  obtain ⟨ra, rc, slo, sup, e, h1, h2⟩ := h
  have h1' := h1
  have h2' := h2
  obtain ⟨a1, c1, rfl, _⟩ := h1'
  obtain ⟨a2, c2, rfl, _⟩ := h2'
  exact ⟨_, _, _, _, _, _, _, _, _, _, _, _, e, ⟨rfl, rfl, rfl, rfl, rfl, rfl⟩, h1, h2⟩
theorem own_si' {W : World} {base n : Nat} {s : Value} {l : List Int} (h : W.ownsRow base 2 1 s n (intv l)) (hn : l.length = n) : Si W s l := by subst hn; exact own_si h
end Go.Proofs.YthkliicmoandmaaGreatDoor.St


namespace Go.Proofs.YthkliicmoandmaaGreatDoor.St
open Go.RowKit Go.Shelf
set_option linter.unusedVariables false
set_option linter.unusedSimpArgs false

theorem subB_iff (a b : List Int) : subB a b = true ↔ ∀ x ∈ a, x ∈ b := by
  unfold subB lessL
  rw [decide_eq_true_iff, List.length_eq_zero_iff, List.filter_eq_nil_iff]
  simp
theorem pw_sub : ∀ (b a : List Int), a.Pairwise (· < ·) → b.Pairwise (· < ·) → (∀ x ∈ a, x ∈ b) → a.Sublist b
  | [], a, _, _, h => by
    cases a with
    | nil => exact List.Sublist.slnil
    | cons x a => exact absurd (h x List.mem_cons_self) (by simp)
  | y :: b, [], _, _, _ => List.nil_sublist _
  | y :: b, x :: a, ha, hb, h => by
    rw [List.pairwise_cons] at ha hb
    rcases List.mem_cons.1 (h x List.mem_cons_self) with e | e
    · subst e
      refine (pw_sub b a ha.2 hb.2 fun z hz => ?_).cons_cons x
      rcases List.mem_cons.1 (h z (List.mem_cons_of_mem _ hz)) with e2 | e2
      · have := ha.1 z hz; omega
      · exact e2
    · refine (pw_sub b (x :: a) (List.pairwise_cons.2 ha) hb.2 fun z hz => ?_).cons y
      have hxy := hb.1 x e
      rcases List.mem_cons.1 (h z hz) with e2 | e2
      · rcases List.mem_cons.1 hz with e3 | e3
        · omega
        · have := ha.1 z e3; omega
      · exact e2
theorem set_sub {a b : List Int} (ha : IsSet a) (hb : IsSet b) (h : ∀ x ∈ a, x ∈ b) : a.Sublist b := pw_sub b a (set_pw ha) (set_pw hb) h
theorem set_sub_len {a b : List Int} (ha : IsSet a) (hb : IsSet b) (h : ∀ x ∈ a, x ∈ b) : a.length ≤ b.length := (set_sub ha hb h).length_le
theorem set_sub_eq {a b : List Int} (ha : IsSet a) (hb : IsSet b) (h : ∀ x ∈ a, x ∈ b) (hl : b.length ≤ a.length) : a = b := (set_sub ha hb h).eq_of_length_le hl
def TD (lo up : List Int) (least most : Int) : SD := ⟨true, 0, lo, up, least, most⟩
theorem tight_cases {lo up : List Int} (least most : Int) (h1 : IsSet lo) (h2 : IsSet up) (hs : ∀ x ∈ lo, x ∈ up) :
    (tightD lo up least most = noneD ∧ min most up.length < max least lo.length) ∨
    (tightD lo up least most = TD up up up.length up.length ∧ max least lo.length = up.length ∧ (up.length : Int) ≤ most) ∨
    (tightD lo up least most = TD lo lo lo.length lo.length ∧ min most up.length = lo.length ∧ least ≤ lo.length ∧ lo.length < up.length) ∨
    (tightD lo up least most = TD lo up (max least lo.length) (min most up.length) ∧ max least lo.length ≤ min most up.length ∧ lo.length < up.length) := by
  have hl := set_sub_len h1 h2 hs
  unfold tightD
  dsimp only
  by_cases a : min most (up.length : Int) < max least (lo.length : Int)
  · rw [if_pos a]; exact .inl ⟨rfl, a⟩
  · rw [if_neg a]
    by_cases b : max least (lo.length : Int) = (up.length : Int)
    · have c : min most (up.length : Int) = (up.length : Int) := by omega
      simp only [b, c, if_true]
      exact .inr (.inl ⟨by unfold TD; congr 1 <;> omega, trivial, by omega⟩)
    · simp only [if_neg b]
      by_cases c : min most (up.length : Int) = (lo.length : Int)
      · simp only [c, if_true]
        exact .inr (.inr (.inl ⟨by unfold TD; congr 1 <;> omega, trivial, by omega, by omega⟩))
      · simp only [if_neg c]
        exact .inr (.inr (.inr ⟨by unfold TD; congr 1 <;> omega, by omega, by omega⟩))
theorem sub_refl (a : List Int) : subB a a = true := (subB_iff a a).2 fun _ h => h
theorem right_sub {d : SD} (h : RightD d) : ∀ x ∈ d.lo, x ∈ d.up := (subB_iff _ _).1 h.2.2.2.2.1
theorem less_mem (a b : List Int) (x : Int) : x ∈ lessL a b ↔ x ∈ a ∧ ¬ x ∈ b := by
  unfold lessL; rw [List.mem_filter]; simp
/-- The sum of the first numbers of a row. -/
def sm (f : Nat → Int) : Nat → Int
  | 0 => 0
  | n + 1 => sm f n + f n
theorem sm_congr {f g : Nat → Int} : ∀ n, (∀ i, i < n → f i = g i) → sm f n = sm g n
  | 0, _ => rfl
  | n + 1, h => by unfold sm; rw [sm_congr n fun i hi => h i (by omega), h n (by omega)]
theorem sm_zero {f : Nat → Int} : ∀ n, (∀ i, i < n → f i = 0) → sm f n = 0
  | 0, _ => rfl
  | n + 1, h => by unfold sm; rw [sm_zero n fun i hi => h i (by omega), h n (by omega)]; rfl
theorem sm_more {f : Nat → Int} (a : Nat) : ∀ j, (∀ i, a ≤ i → i < a + j → f i = 0) → sm f (a + j) = sm f a
  | 0, _ => rfl
  | j + 1, h => by
    show sm f (a + j) + f (a + j) = _
    rw [sm_more a j fun i h1 h2 => h i h1 (by omega), h (a + j) (by omega) (by omega)]; omega
theorem sm_nonneg {f : Nat → Int} : ∀ n, (∀ i, i < n → 0 ≤ f i) → 0 ≤ sm f n
  | 0, _ => Int.le_refl _
  | n + 1, h => Int.add_nonneg (sm_nonneg n fun i hi => h i (by omega)) (h n (by omega))
theorem sm_mono {f : Nat → Int} (hf : ∀ i, 0 ≤ f i) (a : Nat) : ∀ j, sm f a ≤ sm f (a + j)
  | 0 => Int.le_refl _
  | j + 1 => by
    have h1 := sm_mono hf a j
    have h2 := hf (a + j)
    show _ ≤ sm f (a + j) + f (a + j)
    omega
theorem sm_one {f : Nat → Int} (k : Nat) (n : Nat) (hk : k < n) (h : ∀ i, i < n → i ≠ k → f i = 0) : sm f n = f k := by
  have e1 : sm f k = 0 := sm_zero k fun i hi => h i (by omega) (by omega)
  have e2 : sm f (k + 1) = f k := by show sm f k + f k = f k; omega
  have e3 := sm_more (f := f) (k + 1) (n - (k + 1)) fun i h1 h2 => h i (by omega) (by omega)
  rw [show k + 1 + (n - (k + 1)) = n by omega] at e3
  omega
theorem sm_mid (f : Nat → Int) (b j m : Nat) (hm : b + j ≤ m) : sm (fun i => if b ≤ i ∧ i < b + j then f i else 0) m = sm (fun i => f (b + i)) j := by
  have e1 : ∀ t, t ≤ j → sm (fun i => if b ≤ i ∧ i < b + j then f i else 0) (b + t) = sm (fun i => f (b + i)) t := by
    intro t
    induction t with
    | zero => intro _; exact sm_zero _ fun i hi => if_neg (by omega)
    | succ t ih =>
      intro h
      show sm (fun i => if b ≤ i ∧ i < b + j then f i else 0) (b + t) + (if b ≤ b + t ∧ b + t < b + j then f (b + t) else 0) = sm (fun i => f (b + i)) t + f (b + t)
      rw [ih (by omega), if_pos (by omega)]
  have e2 := sm_more (f := fun i => if b ≤ i ∧ i < b + j then f i else 0) (b + j) (m - (b + j)) fun i h1 h2 => if_neg (by omega)
  rw [show b + j + (m - (b + j)) = m by omega] at e2
  rw [e2, e1 j (Nat.le_refl _)]

/-- How many sets there are, of r elements that may be missing, n that must be there, with least to most elements. -/
def nsf (r n : Nat) (least most : Int) (i : Nat) : Int := if least ≤ (n : Int) + i ∧ (n : Int) + i ≤ most then ch r i else 0
def NS (r n : Nat) (least most : Int) : Int := sm (nsf r n least most) (r + 1)
theorem nsf_nonneg (r n : Nat) (least most : Int) (i : Nat) : 0 ≤ nsf r n least most i := by
  unfold nsf; split
  · exact ch_nonneg r i
  · exact Int.le_refl _
theorem NS_nonneg (r n : Nat) (least most : Int) : 0 ≤ NS r n least most := sm_nonneg _ fun i _ => nsf_nonneg _ _ _ _ i
theorem NS_more (r n : Nat) (least most : Int) (m : Nat) (hm : r + 1 ≤ m) : sm (nsf r n least most) m = NS r n least most := by
  have := sm_more (f := nsf r n least most) (r + 1) (m - (r + 1)) fun i h1 h2 => by
    unfold nsf; rw [ch_zero r i (by omega)]; split <;> rfl
  rw [show r + 1 + (m - (r + 1)) = m by omega] at this
  exact this
theorem ch_last : ∀ r, ch r r = 1
  | 0 => rfl
  | r + 1 => by unfold ch; rw [if_neg (by omega), ch_zero r (r + 1) (by omega), Nat.add_sub_cancel, ch_last r]; rfl
def NSd (d : SD) : Int := NS (d.up.length - d.lo.length) d.lo.length d.least d.most
theorem NS_none : NSd noneD = 0 := by decide
theorem NS_empty (r n : Nat) (least most : Int) (h : ∀ i : Nat, i < r + 1 → ¬ (least ≤ (n : Int) + i ∧ (n : Int) + i ≤ most)) : NS r n least most = 0 :=
  sm_zero _ fun i hi => by unfold nsf; rw [if_neg (h i hi)]
theorem NS_tight {lo up : List Int} (least most : Int) (h1 : IsSet lo) (h2 : IsSet up) (hs : ∀ x ∈ lo, x ∈ up) : NSd (tightD lo up least most) = NSd (TD lo up least most) := by
  have hl := set_sub_len h1 h2 hs
  obtain ⟨n, hn⟩ : ∃ n, lo.length = n := ⟨_, rfl⟩
  obtain ⟨m, hm⟩ : ∃ n, up.length = n := ⟨_, rfl⟩
  rcases tight_cases least most h1 h2 hs with ⟨e, a⟩ | ⟨e, a, b⟩ | ⟨e, a, b, c⟩ | ⟨e, a, b⟩ <;> rw [e]
  · rw [NS_none]
    symm
    show NS (up.length - lo.length) lo.length least most = 0
    apply NS_empty
    intro i hi
    omega
  · show NS (up.length - up.length) up.length up.length up.length = NS (up.length - lo.length) lo.length least most
    rw [hn, hm] at *
    have x1 : NS (m - m) m m m = 1 := by
      rw [Nat.sub_self]
      show 0 + nsf 0 m m m 0 = 1
      unfold nsf
      rw [if_pos (by omega)]; rfl
    have x2 : NS (m - n) n least most = nsf (m - n) n least most (m - n) := by
      apply sm_one (m - n) (m - n + 1) (by omega)
      intro i hi hne
      unfold nsf
      rw [if_neg (by omega)]
    rw [x1, x2]
    unfold nsf
    rw [if_pos (by omega), ch_last]
  · show NS (lo.length - lo.length) lo.length lo.length lo.length = NS (up.length - lo.length) lo.length least most
    rw [hn, hm] at *
    have x1 : NS (n - n) n n n = 1 := by
      rw [Nat.sub_self]
      show 0 + nsf 0 n n n 0 = 1
      unfold nsf
      rw [if_pos (by omega)]; rfl
    have x2 : NS (m - n) n least most = nsf (m - n) n least most 0 := by
      apply sm_one 0 (m - n + 1) (by omega)
      intro i hi hne
      unfold nsf
      rw [if_neg (by omega)]
    rw [x1, x2]
    unfold nsf
    rw [if_pos (by omega), ch_first]
  · show NS (up.length - lo.length) lo.length (max least lo.length) (min most up.length) = NS (up.length - lo.length) lo.length least most
    rw [hn, hm] at *
    apply sm_congr
    intro i hi
    unfold nsf
    by_cases c : least ≤ (n : Int) + i ∧ (n : Int) + i ≤ most
    · rw [if_pos c, if_pos (by omega)]
    · rw [if_neg c, if_neg (by omega)]
theorem cs_sum (r b : Nat) : ∀ j, cs r b j = min (sm (fun i => ch r (b + i)) j) 4611686018427387904
  | 0 => rfl
  | j + 1 => by
    have h1 := cs_sum r b j
    have h2 := ch_nonneg r (b + j)
    show min (cs r b j + ch r (b + j)) _ = min (sm (fun i => ch r (b + i)) j + ch r (b + j)) _
    rw [h1]
    omega
theorem count_NS (d : SD) : countD d = min (NSd (takenD d)) 4611686018427387904 := by
  obtain ⟨f1, f2, f3, f4, f5, f6, _⟩ := taken_facts d
  unfold countD countT NSd
  generalize takenD d = T at *
  generalize T.lo.length = n at *
  generalize T.up.length = m at *
  rw [cs_sum]
  congr 1
  obtain ⟨b, hb⟩ : ∃ b, (T.least - (n : Int)).toNat = b := ⟨_, rfl⟩
  obtain ⟨j, hj⟩ : ∃ b, (T.most + 1 - T.least).toNat = b := ⟨_, rfl⟩
  rw [hb, hj]
  rw [← sm_mid (ch (m - n)) b j (b + j + (m - n + 1)) (by omega), ← NS_more (m - n) n T.least T.most (b + j + (m - n + 1)) (by omega)]
  apply sm_congr
  intro i _
  unfold nsf
  by_cases c : b ≤ i ∧ i < b + j
  · rw [if_pos c, if_pos (by omega)]
  · rw [if_neg c, if_neg (by omega)]
theorem NS_taken {d : SD} (h : RightD d) : NSd (takenD d) = NSd d := by
  unfold takenD
  rw [if_pos h, NS_tight _ _ h.2.2.1 h.2.2.2.1 (right_sub h)]
  rfl
theorem count_right {d : SD} (h : RightD d) : countD d = min (NSd d) 4611686018427387904 := by rw [count_NS, NS_taken h]
end Go.Proofs.YthkliicmoandmaaGreatDoor.St


namespace Go.Proofs.YthkliicmoandmaaGreatDoor.St
open Go.RowKit Go.Shelf
set_option linter.unusedVariables false
set_option linter.unusedSimpArgs false

theorem one_si (w : World) (x : Int) : Si (w.alloc (Obj.cells #[.int .i64 x] 2)) (.slice (some ⟨w.heap.size, 0, none⟩) 1 1) [x] := by
  refine ⟨_, _, rfl, fun _ => ⟨_, _, rfl, by rw [World.size_alloc]; omega, fun i hi => ?_⟩⟩
  have hi0 : i = 0 := by simp at hi; omega
  subst hi0
  have := World.alloc_heap_new w (Obj.cells #[.int .i64 x] 2)
  show (w.alloc (Obj.cells #[.int .i64 x] 2)).cell? ⟨w.heap.size, 0 + 0, none⟩ = _
  rw [cell_row this]
  rfl
theorem take_next (l : List Int) (k : Nat) (h : k < l.length) : l.take (k + 1) = l.take k ++ [nth l k] := by
  rw [List.take_add_one, List.getElem?_eq_getElem h]; simp [nth, h]
theorem filt_yes (l : List Int) (f : Int → Bool) (k : Nat) (h : k < l.length) (hf : f (nth l k) = true) : (l.take (k + 1)).filter f = (l.take k).filter f ++ [nth l k] := by
  rw [take_next l k h, List.filter_append]; simp [hf]
theorem filt_no (l : List Int) (f : Int → Bool) (k : Nat) (h : k < l.length) (hf : f (nth l k) = false) : (l.take (k + 1)).filter f = (l.take k).filter f := by
  rw [take_next l k h, List.filter_append]; simp [hf]
theorem filt_len (l : List Int) (f : Int → Bool) (k : Nat) : ((l.take k).filter f).length ≤ k := Nat.le_trans (List.length_filter_le _ _) (by simp; omega)

set_option maxRecDepth 100000 in
set_option maxHeartbeats 4000000 in
theorem refless_any (s1 s2 : Value) (a b : List Int) (W : World) (h1 : Si W s1 a) (h2 : Si W s2 b) :
    Calls Tryz.prog 104 #[s1, s2] W fun e w' => ∃ v, e = .returned v ∧ w'.ownsRow W.heap.size 2 1 v (lessL (tkS a) (tkS b)).length (intv (lessL (tkS a) (tkS b))) ∧ Below W.heap.size W w' := by
  have hk := taken_any s1 a W h1
  have kin := fun v X (hX : Below W.heap.size W X) => refin_any v s2 b X (h2.below hX)
  have hspec : lessL (tkS a) (tkS b) = (tkS a).filter (fun x => !(tkS b).contains x) := rfl
  rw [hspec]
  obtain ⟨f, hf⟩ : ∃ f : Int → Bool, (fun x => !(tkS b).contains x) = f := ⟨_, rfl⟩
  have HF : Hid (∀ x, f x = !(tkS b).contains x) := fun x => by rw [← hf]
  rw [hf]
  clear hspec hf
  have hset := (tkS_set a).1
  generalize tkS a = A at hk hset ⊢
  obtain ⟨a1, c1, rfl, _⟩ := h1
  obtain ⟨a2, c2, rfl, _⟩ := h2
  generalize a.length = n1 at *
  generalize b.length = n2 at *
  go_enter Tryz.func104, Tryz.ntmps104
  go_wp2_with fail
  refine hk.mono ?_
  rintro e w1 ⟨a3, n3, c3, rfl, HS, HN3, m1, hw1⟩
  have hb1 : Below W.heap.size W w1 := by rw [hw1]; exact below_drewN (Below.refl _ _) _
  have hS := HS.out
  obtain ⟨a3', c3', e3, hc⟩ := hS
  rw [← HN3.out] at e3 hc
  injection e3 with e4 _ e5
  subst e4 e5
  have HC : Hid _ := hc
  have HN : Hid (A.length = n3) := HN3.out.symm
  have hn3 : n3 ≤ 64 := by rw [HN3.out]; exact hset
  clear hk hc HS HN3 hw1 hset
  go_wp2
  go_loopw [5, 6] (fun o i wr => ∃ k : Nat, k ≤ n3 ∧ i = .int .i64 k ∧ wr.ownsRow W.heap.size 2 1 o ((A.take k).filter f).length (intv ((A.take k).filter f)) ∧ Below W.heap.size W wr) (fun _ i _ => n3 - (intOf i).toNat)
  case atStart => exact ⟨0, Nat.zero_le _, rfl, by simpa [intv] using World.ownsRow_nil _ _ _ _, hb1⟩
  case round =>
    obtain ⟨k, hk, rfl, hrow, hB⟩ := hrel
    have HROW : Hid _ := hrow
    clear hrow
    by_cases hlt2 : k < n3
    · obtain ⟨bb, off, rfl, hb, hcell⟩ := HC.out (by omega)
      have d0 := hcell k hlt2
      obtain ⟨x, hx⟩ : ∃ x, nth A k = x := ⟨_, rfl⟩
      have HX : Hid (nth A k = x) := hx
      rw [hx] at d0
      have hlt' : (k : Int) < (n3 : Int) := by omega
      have d1 := (hB.cell (p := ⟨bb, off + k, none⟩) hb).trans d0
      have ki := kin x wr hB
      clear hx hcell d0
      obtain ⟨bo, hbo⟩ : ∃ bo, (tkS b).contains x = bo := ⟨_, rfl⟩
      rw [hbo] at ki
      have HB : Hid (f x = !bo) := by unfold Hid; rw [HF.out, hbo]
      clear hbo
      cases bo
      · go_wp2_with fail
        refine ki.mono ?_
        rintro e w3 ⟨rfl, q, hq⟩
        have hb3' : Below wr.heap.size wr w3 := by rw [hq]; exact below_drewN (Below.refl _ _) _
        have d2 := (hb3'.cell (p := ⟨bb, off + k, none⟩) (Nat.lt_of_lt_of_le hb hB.size)).trans d1
        have hB3 : Below W.heap.size W w3 := hB.trans (hb3'.mono hB.size)
        have hrow3 := World.ownsRow.alloc (own_keepB HROW.out hb3') (Obj.cells #[.int .i64 x] 2)
        have hlen := filt_len A f k
        have HNX : Hid (((A.take (k + 1)).filter f) = (A.take k).filter f ++ [x]) := by unfold Hid; rw [filt_yes A f k (by rw [HN.out]; exact hlt2) (by rw [HX.out]; exact HB.out), HX.out]
        have HBA : Hid (Below W.heap.size W (w3.alloc (Obj.cells #[.int .i64 x] 2))) := hB3.alloc hB3.size _
        have hsz := HBA.out.size
        generalize (A.take k).filter f = L at *
        clear hq hb3' ki d1 hB
        go_wp2_with (at_builtin; refine wpList_app_sr _ rfl _ _ rfl W.heap.size _ _ L rfl hrow3 rfl _ [x] rfl (one_si w3 x) (by simp; omega) hsz ?_; intro v' w4 hown' hbel)
        go_roundw
        case rel => exact ⟨k + 1, by omega, by go_num, by rw [HNX.out, List.length_append]; exact hown', HBA.out.trans hbel⟩
        case measure => simp [intOf]; omega
      · go_wp2_with fail
        refine ki.mono ?_
        rintro e w3 ⟨rfl, q, hq⟩
        have hb3' : Below wr.heap.size wr w3 := by rw [hq]; exact below_drewN (Below.refl _ _) _
        have hB3 : Below W.heap.size W w3 := hB.trans (hb3'.mono hB.size)
        have HNX : Hid (((A.take (k + 1)).filter f) = (A.take k).filter f) := by unfold Hid; rw [filt_no A f k (by rw [HN.out]; exact hlt2) (by rw [HX.out]; exact HB.out)]
        have HR3 : Hid _ := own_keepB HROW.out hb3'
        clear hq hb3' ki d1 hB
        go_wp2
        go_roundw
        case rel => exact ⟨k + 1, by omega, by go_num, by rw [HNX.out]; exact HR3.out, hB3⟩
        case measure => simp [intOf]; omega
    · have hlt' : ¬ (k : Int) < (n3 : Int) := by omega
      obtain rfl : k = n3 := by omega
      have HTK : Hid (A.take k = A) := by unfold Hid; rw [← HN.out]; exact List.take_length
      have HR4 := HROW.out
      rw [HTK.out] at HR4
      obtain ⟨p, c, rfl⟩ := own_slice HR4
      have HR5 : Hid _ := HR4
      clear HR4 HROW
      generalize hLL : (A.filter f).length = LL at HR5
      have HLL : Hid ((A.filter f).length = LL) := hLL
      clear hLL
      go_wp2
      go_ret
      exact ⟨_, rfl, by rw [HLL.out]; exact HR5.out, hB⟩
end Go.Proofs.YthkliicmoandmaaGreatDoor.St

