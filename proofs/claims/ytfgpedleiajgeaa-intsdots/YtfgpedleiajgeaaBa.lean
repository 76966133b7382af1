/-
  What is proved here: plain facts on whole numbers as lists of digits to the base 2^30 (no program), and on blocks of two cells and rows of numbers in memory.
-/
import Derived.Test.YtfgpedleiajgeaaMath
import Derived.WalkKit
import Derived.Maps.AppendAt
import Derived.RangeFuncBox
namespace Go.Proofs.Ytfgpedleiajgeaa
open Go.RowKit

/-! ### Digits -/
/-- The number whose digits are these, the lowest first. -/
def dval : List Int → Int
  | [] => 0
  | d :: ds => d + 1073741824 * dval ds
/-- With a sign, or without. -/
def sg (m : Bool) (x : Int) : Int := if m = true then -x else x
theorem sg_false (x : Int) : sg false x = x := rfl
theorem sg_true (x : Int) : sg true x = -x := rfl
theorem sg_zero (m : Bool) : sg m 0 = 0 := by cases m <;> rfl
/-- 2^(30 k). -/
def rp (k : Nat) : Int := 1073741824 ^ k
/-- Every one is a digit. -/
def Digs (ds : List Int) : Prop := ∀ d ∈ ds, 0 ≤ d ∧ d < 1073741824
/-- No digit 0 above. -/
def Top (ds : List Int) : Prop := ∀ n, ds.length = n + 1 → ds[n]?.getD 0 ≠ 0

theorem rp_zero : rp 0 = 1 := rfl
theorem rp_succ (k : Nat) : rp (k + 1) = 1073741824 * rp k := by unfold rp; rw [Int.pow_succ, Int.mul_comm]
theorem rp_pos (k : Nat) : 0 < rp k := by
  induction k with
  | zero => rw [rp_zero]; decide
  | succ k ih => rw [rp_succ]; omega
theorem rp_add (j k : Nat) : rp (j + k) = rp j * rp k := Int.pow_add _ _ _
theorem rp_mono {j k : Nat} (h : j ≤ k) : rp j ≤ rp k := by
  obtain ⟨d, rfl⟩ := Nat.exists_eq_add_of_le h
  rw [rp_add]
  have h1 := rp_pos j; have h2 := rp_pos d
  have : rp j * 1 ≤ rp j * rp d := Int.mul_le_mul_of_nonneg_left (by omega) (by omega)
  omega
theorem dval_append (xs ys : List Int) : dval (xs ++ ys) = dval xs + rp xs.length * dval ys := by
  induction xs with
  | nil => simp [dval, rp_zero]
  | cons d xs ih =>
    rw [List.cons_append, dval, ih, dval, List.length_cons, rp_succ, Int.mul_add, Int.mul_assoc, Int.add_assoc]
theorem dval_snoc (xs : List Int) (d : Int) : dval (xs ++ [d]) = dval xs + rp xs.length * d := by
  rw [dval_append]; simp [dval]
theorem digs_nil : Digs [] := fun _ h => by cases h
theorem digs_snoc {ds : List Int} {d : Int} (h : Digs ds) (h0 : 0 ≤ d) (h1 : d < 1073741824) : Digs (ds ++ [d]) := by
  intro x hx
  rcases List.mem_append.1 hx with hx | hx
  · exact h x hx
  · simp at hx; subst hx; exact ⟨h0, h1⟩
theorem digs_at {ds : List Int} (h : Digs ds) (j : Nat) : 0 ≤ ds[j]?.getD 0 ∧ ds[j]?.getD 0 < 1073741824 := by
  by_cases hj : j < ds.length
  · rw [List.getElem?_eq_getElem hj]; exact h _ (List.getElem_mem hj)
  · rw [List.getElem?_eq_none (by omega)]; decide
theorem digs_take {ds : List Int} (h : Digs ds) (k : Nat) : Digs (ds.take k) := fun d hd => h d (List.mem_of_mem_take hd)
theorem dval_bound {ds : List Int} (h : Digs ds) : 0 ≤ dval ds ∧ dval ds < rp ds.length := by
  induction ds with
  | nil => simp [dval, rp_zero]
  | cons d ds ih =>
    have h1 := ih (fun x hx => h x (List.mem_cons_of_mem _ hx))
    have h2 := h d (List.mem_cons_self ..)
    rw [List.length_cons, rp_succ, dval]
    omega
theorem dval_take_succ (ds : List Int) (k : Nat) : dval (ds.take (k + 1)) = dval (ds.take k) + rp k * ds[k]?.getD 0 := by
  by_cases hk : k < ds.length
  · rw [List.take_succ_eq_append_getElem hk, dval_snoc, List.getElem?_eq_getElem hk]
    simp [List.length_take, Nat.min_eq_left (Nat.le_of_lt hk)]
  · rw [List.take_of_length_le (by omega), List.take_of_length_le (by omega), List.getElem?_eq_none (by omega)]
    simp
theorem dval_take_all {ds : List Int} {k : Nat} (h : ds.length ≤ k) : dval (ds.take k) = dval ds := by rw [List.take_of_length_le h]
/-- A number without digits 0 above is at least as great as its highest place. -/
theorem dval_top {ds : List Int} (h : Digs ds) (ht : Top ds) {n : Nat} (hn : ds.length = n + 1) : rp n ≤ dval ds := by
  have h1 := dval_take_succ ds n
  rw [dval_take_all (by omega)] at h1
  have h2 := (dval_bound (digs_take h n)).1
  have h3 := digs_at h n
  have h4 := ht n hn
  have h5 := rp_pos n
  have : rp n * 1 ≤ rp n * ds[n]?.getD 0 := Int.mul_le_mul_of_nonneg_left (by omega) (by omega)
  omega
theorem dval_zero {ds : List Int} (h : Digs ds) (ht : Top ds) (hz : dval ds = 0) : ds = [] := by
  cases hl : ds.length with
  | zero => exact List.eq_nil_of_length_eq_zero hl
  | succ n => have := dval_top h ht hl; have := rp_pos n; omega
theorem top_snoc {ds : List Int} {d : Int} (h : d ≠ 0) : Top (ds ++ [d]) := by
  intro n hn
  have : n = ds.length := by simp at hn; omega
  subst this; simpa using h
theorem top_nil : Top [] := fun n h => by simp at h

/-! ### Blocks of two cells -/
def Two (W : World) (B : Nat) (t : TypeId) (u v : Value) : Prop := W.heap[B]? = some (.cells #[u, v] t (0, 0))
theorem Two.lt {W : World} {B : Nat} {t : TypeId} {u v : Value} (h : Two W B t u v) : B < W.heap.size := (Array.getElem?_eq_some_iff.1 h).1
theorem Two.cell0 {W : World} {B : Nat} {t : TypeId} {u v : Value} (h : Two W B t u v) : W.cell? ⟨B, 0, none⟩ = some u := by simp [World.cell?, show W.heap[B]? = _ from h]
theorem Two.cell1 {W : World} {B : Nat} {t : TypeId} {u v : Value} (h : Two W B t u v) : W.cell? ⟨B, 1, none⟩ = some v := by simp [World.cell?, show W.heap[B]? = _ from h]
theorem Two.frozen0 {W : World} {B : Nat} {t : TypeId} {u v : Value} (h : Two W B t u v) : W.frozen? ⟨B, 0, none⟩ = false := by simp [World.frozen?, show W.heap[B]? = _ from h]
theorem Two.frozen1 {W : World} {B : Nat} {t : TypeId} {u v : Value} (h : Two W B t u v) : W.frozen? ⟨B, 1, none⟩ = false := by simp [World.frozen?, show W.heap[B]? = _ from h]
theorem Two.new (W : World) (t : TypeId) (u v : Value) : Two (W.alloc (.cells #[u, v] t)) W.heap.size t u v := World.alloc_heap_new W _
theorem Two.kept {W W' : World} {row : Option Nat} {B : Nat} {t : TypeId} {u v : Value} (h : Two W B t u v) (hg : W.grownBy W' row) (hne : some B ≠ row) : Two W' B t u v := (hg.block B h.lt hne).trans h
theorem Two.alloc {W : World} {B : Nat} {t : TypeId} {u v : Value} (h : Two W B t u v) (o : Obj) : Two (W.alloc o) B t u v := h.kept (World.grownBy_alloc W o none) (by simp)
theorem Two.below {W W' : World} {n B : Nat} {t : TypeId} {u v : Value} (h : Two W B t u v) (hb : Below n W W') (hB : B < n) : Two W' B t u v := (hb.block B hB).trans h
theorem Two.other {W : World} {B : Nat} {t : TypeId} {u v : Value} (h : Two W B t u v) {a : Addr} (hne : B ≠ a.block) (x : Value) : Two (W.setCell a x) B t u v := (Below.heap_setCell W a x B hne).trans h
theorem Two.set0 {W : World} {B : Nat} {t : TypeId} {u v : Value} (h : Two W B t u v) (x : Value) : Two (W.setCell ⟨B, 0, none⟩ x) B t x v := by
  unfold Two at *; simp [World.setCell, Array.getElem?_modify, h]
theorem Two.set1 {W : World} {B : Nat} {t : TypeId} {u v : Value} (h : Two W B t u v) (x : Value) : Two (W.setCell ⟨B, 1, none⟩ x) B t u x := by
  unfold Two at *; simp [World.setCell, Array.getElem?_modify, h]

/-- Four new blocks of two cells. -/
theorem four {w : World} {B : Nat} (hB : w.heap.size = B) (t : TypeId) (u0 v0 u1 v1 u2 v2 u3 v3 : Value) :
    Two ((((w.alloc (.cells #[u0, v0] t)).alloc (.cells #[u1, v1] t)).alloc (.cells #[u2, v2] t)).alloc (.cells #[u3, v3] t)) B t u0 v0 ∧
    Two ((((w.alloc (.cells #[u0, v0] t)).alloc (.cells #[u1, v1] t)).alloc (.cells #[u2, v2] t)).alloc (.cells #[u3, v3] t)) (B + 1) t u1 v1 ∧
    Two ((((w.alloc (.cells #[u0, v0] t)).alloc (.cells #[u1, v1] t)).alloc (.cells #[u2, v2] t)).alloc (.cells #[u3, v3] t)) (B + 2) t u2 v2 ∧
    Two ((((w.alloc (.cells #[u0, v0] t)).alloc (.cells #[u1, v1] t)).alloc (.cells #[u2, v2] t)).alloc (.cells #[u3, v3] t)) (B + 3) t u3 v3 ∧
    Below B w ((((w.alloc (.cells #[u0, v0] t)).alloc (.cells #[u1, v1] t)).alloc (.cells #[u2, v2] t)).alloc (.cells #[u3, v3] t)) := by
  subst hB
  refine ⟨((((Two.new w t u0 v0).alloc _).alloc _).alloc _), ?_, ?_, ?_, ?_⟩
  · have h := Two.new (w.alloc (.cells #[u0, v0] t)) t u1 v1
    rw [World.size_alloc] at h; exact (h.alloc _).alloc _
  · have h := Two.new ((w.alloc (.cells #[u0, v0] t)).alloc (.cells #[u1, v1] t)) t u2 v2
    rw [World.size_alloc, World.size_alloc] at h; exact h.alloc _
  · have h := Two.new (((w.alloc (.cells #[u0, v0] t)).alloc (.cells #[u1, v1] t)).alloc (.cells #[u2, v2] t)) t u3 v3
    rw [World.size_alloc, World.size_alloc, World.size_alloc] at h; exact h
  · exact ((((Below.refl _ w).alloc (Nat.le_refl _) _).alloc (by simp) _).alloc (by simp; omega) _).alloc (by simp; omega) _

/-! ### Rows of numbers -/
/-- The slice value s has the numbers ds. -/
def Row (W : World) (base : Nat) (s : Value) (ds : List Int) : Prop := W.ownsRow base 2 1 s ds.length (ds.map (Value.int .i64))
theorem Row.below {W W' : World} {base n : Nat} {s : Value} {ds : List Int} (h : Row W base s ds) (hb : Below n W W') (hn : ∀ k, s.ownBlock = some k → k < n) : Row W' base s ds := by
  refine ⟨h.1, ?_⟩
  rcases h.2 with h2 | ⟨g, cap, cur, e, hg, hh, r⟩
  · exact .inl h2
  · refine .inr ⟨g, cap, cur, e, hg, ?_, r⟩
    rw [hb.block g (hn g (by rw [e]; rfl))]; exact hh
theorem Row.below' {W W' : World} {base : Nat} {s : Value} {ds : List Int} (h : Row W base s ds) (hb : Below W.heap.size W W') : Row W' base s ds :=
  h.below hb (fun k hk => (World.ownsRow.lt h k hk).2)
theorem Row.mono {W : World} {base base' : Nat} {s : Value} {ds : List Int} (h : Row W base s ds) (hb : base' ≤ base) : Row W base' s ds := by
  refine ⟨h.1, ?_⟩
  rcases h.2 with h2 | ⟨g, cap, cur, e, hg, r⟩
  · exact .inl h2
  · exact .inr ⟨g, cap, cur, e, Nat.le_trans hb hg, r⟩
theorem Row.form {W : World} {base : Nat} {s : Value} {ds : List Int} (h : Row W base s ds) : ∃ a cap, s = .slice a ds.length cap := by
  rcases h.2 with ⟨h1, h2⟩ | ⟨g, cap, cur, e, _⟩
  · exact ⟨none, 0, by rw [h1, h2]⟩
  · exact ⟨_, cap, e⟩
theorem Row.at {W : World} {base : Nat} {s : Value} {ds : List Int} (h : Row W base s ds) {j : Nat} (hj : j < ds.length) :
    ∃ g cap, s = .slice (some ⟨g, 0, none⟩) ds.length cap ∧ base ≤ g ∧ g < W.heap.size ∧ ds.length ≤ cap ∧ cap ≤ maxLen ∧ ∀ i, i < ds.length → W.cell? ⟨g, i, none⟩ = some (.int .i64 (ds[i]?.getD 0)) := by
  rcases h.2 with ⟨h1, h2⟩ | ⟨g, cap, cur, e, hg, hh, hc, hm, _⟩
  · omega
  · refine ⟨g, cap, e, hg, (Array.getElem?_eq_some_iff.1 hh).1, hc, hm, fun i hi => ?_⟩
    have := World.ownsRow.cells h (g := g) (by rw [e]; rfl) i (.int .i64 (ds[i]?.getD 0)) (by simp [List.getElem?_eq_getElem hi])
    by_cases h0 : i = 0
    · subst h0; simpa [Addr.add] using this
    · simpa [Addr.add, h0] using this

/-! ### Behind 'append' of one number -/
theorem Row.appended {w1 : World} {base : Nat} {v' : Value} {ds : List Int} {d : Int} {n : Nat} (hn : n = ds.length + 1) (h : w1.ownsRow base 2 1 v' n (ds.map (Value.int .i64) ++ [.int .i64 d])) : Row w1 base v' (ds ++ [d]) := by
  subst hn; unfold Row; simpa using h
theorem Two.appended {W w1 : World} {o : Obj} {C base : Nat} {t : TypeId} {u x v : Value} {ds : List Int} (h : Two W C t u x) (hrow : Row W base v ds) (hC : C < base) (hg : (W.alloc o).grownBy w1 v.ownBlock) : Two w1 C t u x :=
  (h.alloc o).kept hg (fun e => by have := (World.ownsRow.lt hrow C e.symm).1; omega)
theorem below_appended {w W w1 : World} {o : Obj} {n base : Nat} {v : Value} {ds : List Int} (hB : Below n w W) (hrow : Row W base v ds) (hn : n ≤ base) (hs : n ≤ W.heap.size) (hg : (W.alloc o).grownBy w1 v.ownBlock) : Below n w w1 :=
  (hB.alloc hs o).grown hg (by simp; omega) (fun k e => Nat.le_trans hn (World.ownsRow.lt hrow k e).1)
theorem Row.stored {W : World} {base : Nat} {v : Value} {ds : List Int} (h : Row W base v ds) {a : Addr} (ha : a.block < base) (u : Value) : Row (W.setCell a u) base v ds := ownsRow_setCell_below h ha u

/-- The first k numbers of a row are a row. -/
theorem Row.cut {W : World} {base g cap : Nat} {ds : List Int} (h : Row W base (.slice (some ⟨g, 0, none⟩) ds.length cap) ds) {k : Nat} (hk : k ≤ ds.length) : Row W base (.slice (some ⟨g, 0, none⟩) k cap) (ds.take k) := by
  have hl : (ds.take k).length = k := by rw [List.length_take]; omega
  refine ⟨by simp, .inr ?_⟩
  rcases h.2 with ⟨h1, _⟩ | ⟨g', cap', cur, e, hg, hh, hc, hm, hs, ht⟩
  · cases h1
  · injection e with e1 e2 e3
    injection e1 with e1
    injection e1 with e1
    subst e1 e3
    refine ⟨g, cap, cur, by rw [hl], hg, hh, by omega, hm, hs, ?_⟩
    rw [hl, Nat.mul_one, List.map_take, ← ht, List.take_take, Nat.mul_one, Nat.min_eq_left hk]
theorem Row.nil {W : World} {base : Nat} {a : Option Addr} {cap : Nat} (h : Row W base (.slice a 0 cap) []) : (a = none ∧ cap = 0) ∨ ∃ g, a = some ⟨g, 0, none⟩ ∧ cap ≤ maxLen := by
  rcases h.2 with ⟨h1, _⟩ | ⟨g, cap', cur, e, hg, hh, hc, hm, _⟩
  · injection h1 with e1 e2 e3; exact .inl ⟨e1, e3⟩
  · injection e with e1 e2 e3; subst e3; exact .inr ⟨g, e1, hm⟩
theorem top_take {ds : List Int} {k : Nat} (hk : k < ds.length) (h : ds[k]?.getD 0 ≠ 0) : Top (ds.take (k + 1)) := by
  intro n hn
  have : n = k := by rw [List.length_take] at hn; omega
  subst this
  rw [List.getElem?_take_of_lt (by omega)]; exact h
end Go.Proofs.Ytfgpedleiajgeaa
