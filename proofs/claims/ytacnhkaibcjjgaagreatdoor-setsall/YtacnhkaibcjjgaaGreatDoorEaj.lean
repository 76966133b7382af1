/-
  What is proved here: what sets.Each returns of any domain.
  What is proved here: what the iterator of sets.Each does: the region that makes the walk.
-/
import Derived.Test.YtacnhkaibcjjgaaGreatDoorCbj
import Derived.Test.YtacnhkaibcjjgaaGreatDoorFf
namespace Go.Proofs.YtacnhkaibcjjgaaGreatDoor
open Go.RowKit Go.Shelf
set_option linter.unusedVariables false
set_option linter.unusedSimpArgs false

/-- Numbers in memory, not in block A. -/
def SiX (A : Nat) (W : World) (s : Value) (l : List Int) : Prop :=
  ∃ a c, s = .slice a l.length c ∧ (0 < l.length → ∃ b off, a = some ⟨b, off, none⟩ ∧ b < W.heap.size ∧ b ≠ A ∧ ∀ i, i < l.length → W.cell? ⟨b, off + i, none⟩ = some (.int .i64 (nth l i)))
theorem SiX.si {A : Nat} {W : World} {s : Value} {l : List Int} (h : SiX A W s l) : Si W s l := by
  obtain ⟨a, c, e, h⟩ := h
  exact ⟨a, c, e, fun h0 => by obtain ⟨b, off, e1, e2, _, e3⟩ := h h0; exact ⟨b, off, e1, e2, e3⟩⟩
theorem SiX.kp {A : Nat} {W W' : World} {s : Value} {l : List Int} (h : SiX A W s l) (hk : Kp A W W') : SiX A W' s l := by
  obtain ⟨a, c, e, h⟩ := h
  exact ⟨a, c, e, fun h0 => by obtain ⟨b, off, e1, e2, e4, e3⟩ := h h0; exact ⟨b, off, e1, Nat.lt_of_lt_of_le e2 hk.1, e4, fun i hi => hk.2 _ _ _ e4 (e3 i hi)⟩⟩
theorem own_six {A : Nat} {W : World} {base : Nat} {s : Value} {l : List Int} (h : W.ownsRow base 2 1 s l.length (intv l)) (hA : A < base) : SiX A W s l := by
  rcases h.2 with ⟨e1, e2⟩ | ⟨g, cap, cur, e1, hg, hgb, hn, hm, hs, ht⟩
  · exact ⟨none, 0, by rw [e1, e2], fun h0 => by omega⟩
  · refine ⟨_, cap, e1, fun _ => ⟨g, 0, rfl, (Array.getElem?_eq_some_iff.1 hgb).1, by omega, fun i hi => ?_⟩⟩
    simp only [World.cell?, hgb]
    rw [if_neg (by simp), Nat.zero_add]
    have : (intv l)[i]? = some (.int .i64 (nth l i)) := by simp [intv, nth, hi]
    rw [← ht, List.getElem?_take, if_pos (by omega), Array.getElem?_toList] at this
    exact this

/-- A domain in a variable of its own, with lists of its own. -/
def Dbox (base : Nat) (W : World) (B : Nat) (T : SD) : Prop :=
  ∃ p1 k1 p2 k2, base ≤ B ∧ W.heap[B]? = some (.cells #[.bool T.set, .slice none 0 0, .slice p1 T.lo.length k1, .slice p2 T.up.length k2, .int .i64 T.least, .int .i64 T.most] 37 (0, 0)) ∧ W.ownsRow base 2 1 (.slice p1 T.lo.length k1) T.lo.length (intv T.lo) ∧ W.ownsRow base 2 1 (.slice p2 T.up.length k2) T.up.length (intv T.up)

set_option maxRecDepth 100000 in
set_option maxHeartbeats 4000000 in
theorem each_any (v : Value) (d : SD) (W : World) (h : Di W v d) :
    Calls Tryz.prog 49 #[v] W fun e w' => (∃ B, e = .returned (.func (.func 82) #[] #[.pointer (some ⟨B, 0, none⟩)]) ∧ Dbox W.heap.size w' B (takenD d)) ∧ Below W.heap.size W w' := by
  have ht := fun X (hX : Below W.heap.size W X) => taken_dom v d X (h.below hX)
  obtain ⟨ra, rc, slo, sup, rfl, h1, h2⟩ := h
  obtain ⟨a1, c1, rfl, _⟩ := h1
  obtain ⟨a2, c2, rfl, _⟩ := h2
  obtain ⟨T, hTD⟩ : ∃ X, takenD d = X := ⟨_, rfl⟩
  rw [hTD]
  simp only [hTD] at ht
  obtain ⟨st, rn, lo, up, least, most⟩ := d
  simp only at ht ⊢
  obtain ⟨n1, hn1⟩ : ∃ n, lo.length = n := ⟨_, rfl⟩
  obtain ⟨n2, hn2⟩ : ∃ n, up.length = n := ⟨_, rfl⟩
  simp only [hn1, hn2] at ht ⊢
  obtain ⟨W0, hW0⟩ : ∃ X, W.alloc (Obj.cells #[.bool st, .slice ra rn rc, .slice a1 n1 c1, .slice a2 n2 c2, .int .i64 least, .int .i64 most] 37) = X := ⟨_, rfl⟩
  have HW0 : Hid _ := hW0
  have hb0 : Below W.heap.size W W0 := by rw [← hW0]; exact (Below.refl _ W).alloc (Nat.le_refl _) _
  have hR0 : W0.heap[W.heap.size]? = some (.cells #[.bool st, .slice ra rn rc, .slice a1 n1 c1, .slice a2 n2 c2, .int .i64 least, .int .i64 most] 37 (0, 0)) := by rw [← hW0]; exact World.alloc_heap_new W _
  have hlt0 : W.heap.size < W0.heap.size := (Array.getElem?_eq_some_iff.1 hR0).1
  have ht0 := ht _ hb0
  obtain ⟨z0, z1, z2, z3, z4, z5⟩ := six_cells hR0
  clear hTD hn1 hn2 ht hW0
  go_enter Tryz.func49, Tryz.ntmps49
  go_upto_region 1 with (fail)
  rw [HW0.out]
  go_wp2_with fail
  refine ht0.mono ?_
  rintro e w2 ⟨v2, rfl, hD2, hb2⟩
  have hB2 : Below W.heap.size W w2 := hb0.trans (hb2.mono hb0.size)
  have HZ2 : Hid _ := (hb2.block W.heap.size hlt0).trans hR0
  obtain ⟨slo, sup, rfl, e0, o1, o2⟩ := hD2
  obtain ⟨p1, k1, rfl⟩ := own_slice o1
  obtain ⟨p2, k2, rfl⟩ := own_slice o2
  have O1 := own_setRow (own_base o1 hb0.size) W.heap.size #[.bool T.set, .slice none 0 0, .slice p1 T.lo.length k1, .slice p2 T.up.length k2, .int .i64 T.least, .int .i64 T.most] HZ2.out
  have O2 := own_setRow (own_base o2 hb0.size) W.heap.size #[.bool T.set, .slice none 0 0, .slice p1 T.lo.length k1, .slice p2 T.up.length k2, .int .i64 T.least, .int .i64 T.most] HZ2.out
  have hBS := below_setRow hB2 (Nat.le_refl W.heap.size) #[.bool T.set, .slice none 0 0, .slice p1 T.lo.length k1, .slice p2 T.up.length k2, .int .i64 T.least, .int .i64 T.most]
  have HROW := setRow_heap w2 W.heap.size _ #[.bool T.set, .slice none 0 0, .slice p1 T.lo.length k1, .slice p2 T.up.length k2, .int .i64 T.least, .int .i64 T.most] 37 (0, 0) HZ2.out
  have HDB : Hid (Dbox W.heap.size (w2.setRow W.heap.size #[.bool T.set, .slice none 0 0, .slice p1 T.lo.length k1, .slice p2 T.up.length k2, .int .i64 T.least, .int .i64 T.most]) W.heap.size T) := ⟨p1, k1, p2, k2, Nat.le_refl _, HROW, O1, O2⟩
  clear O1 O2 HROW o1 o2
  obtain ⟨m1, hm1⟩ : ∃ n, T.lo.length = n := ⟨_, rfl⟩
  obtain ⟨m2, hm2⟩ : ∃ n, T.up.length = n := ⟨_, rfl⟩
  obtain ⟨x0, hx0⟩ : ∃ x, T.set = x := ⟨_, rfl⟩
  obtain ⟨x4, hx4⟩ : ∃ x, T.least = x := ⟨_, rfl⟩
  obtain ⟨x5, hx5⟩ : ∃ x, T.most = x := ⟨_, rfl⟩
  simp only [hm1, hm2, hx0, hx4, hx5] at hBS HDB ⊢
  have HSZ : Hid ((Tryz.prog.info? 37).map (·.size) = some (#[.bool x0, .slice none 0 0, .slice p1 m1 k1, .slice p2 m2 k2, .int .i64 x4, .int .i64 x5] : Array Value).size) := Tryz.size37
  have HSO : Hid ((#[.bool st, .slice ra rn rc, .slice a1 n1 c1, .slice a2 n2 c2, .int .i64 least, .int .i64 most] : Array Value).size = (#[.bool x0, .slice none 0 0, .slice p1 m1 k1, .slice p2 m2 k2, .int .i64 x4, .int .i64 x5] : Array Value).size) := rfl
  have HSA : Hid ((#[.bool x0, .slice none 0 0, .slice p1 m1 k1, .slice p2 m2 k2, .int .i64 x4, .int .i64 x5] : Array Value).all (·.oneCell') = true) := by unfold Hid; simp [Value.oneCell']
  clear hb2 hB2 ht0 z0 z1 z2 z3 z4 z5 hR0 hlt0 hb0 hm1 hm2 hx0 hx4 hx5 e0
  go_wp2_with (with_reducible refine wpList_store_row rfl 37 (.tmp 1) (.tmp 4) rfl W.heap.size #[.bool x0, .slice none 0 0, .slice p1 m1 k1, .slice p2 m2 k2, .int .i64 x4, .int .i64 x5] (by with_unfolding_all rfl) (by with_unfolding_all rfl) 37 _ HZ2.out HSZ.out HSO.out HSA.out ?_)
  go_ret
  exact ⟨⟨_, rfl, HDB.out⟩, hBS⟩
end Go.Proofs.YtacnhkaibcjjgaaGreatDoor

namespace Go.Proofs.YtacnhkaibcjjgaaGreatDoor
open Go.RowKit Go.Shelf
set_option linter.unusedVariables false
set_option linter.unusedSimpArgs false

theorem andThen_of {α β : Type} {r : Result α} {v : α} {w : World} (h : r = .ok v w) (k : α → World → Result β) : r.andThen k = k v w := by rw [h]; rfl
theorem built88 (lr : Nat) (f : Nat → Bool) (x0 : Bool) (p1 p2 : Option Addr) (m1 k1 m2 k2 : Nat) (x4 x5 : Int) :
    Tryz.prog.built 88 [(0, .agg #[.bool x0, .slice none 0 0, .slice p1 m1 k1, .slice p2 m2 k2, .int .i64 x4, .int .i64 x5]), (1, .agg (bits64 f)), (2, .func (.yield lr) #[] #[])] = some ((#[.bool x0, .slice none 0 0, .slice p1 m1 k1, .slice p2 m2 k2, .int .i64 x4, .int .i64 x5] : Array Value) ++ bits64 f ++ #[.func (.yield lr) #[] #[]]) := by kernel_rfl

set_option maxRecDepth 100000 in
set_option maxHeartbeats 4000000 in
theorem r82 (n B lr : Nat) (f : Nat → Bool) (x0 : Bool) (p1 p2 : Option Addr) (m1 k1 m2 k2 : Nat) (x4 x5 : Int) (S : World → Prop)
    (hS : ∀ w, S w → w.cell? ⟨B, 0, none⟩ = some (.bool x0) ∧ w.cell? ⟨B, 1, none⟩ = some (.slice none 0 0) ∧ w.cell? ⟨B, 2, none⟩ = some (.slice p1 m1 k1) ∧ w.cell? ⟨B, 3, none⟩ = some (.slice p2 m2 k2) ∧ w.cell? ⟨B, 4, none⟩ = some (.int .i64 x4) ∧ w.cell? ⟨B, 5, none⟩ = some (.int .i64 x5))
    (hSb : ∀ w w', S w → Below w.heap.size w w' → S w')
    (hC : ∀ w, S w → Calls Tryz.prog 63 #[.slice p2 m2 k2, .slice p1 m1 k1] w fun e w' => e = .returned (.agg (bits64 f)) ∧ Below w.heap.size w w')
    (Q : Exit → Act → World → Prop) (hQ : ∀ c (a : Act) d v w, Q (.panic c) (a.put d v) w → Q (.panic c) a w) {u2 u3 u4 u5 u6 u7 u8 u9 u10 u11 u12 u13 u14 u15 u16 u17 u18 u19 u20 : Value} {ds : List Deferred} (W : World) (h0 : S W)
    (hN : ∀ (Wb : Nat) (w : World) (y6 y7 y8 y9 y10 y11 y12 y13 y14 : Value), W.heap.size ≤ Wb → w.heap[Wb]? = some (.cells ((#[.bool x0, .slice none 0 0, .slice p1 m1 k1, .slice p2 m2 k2, .int .i64 x4, .int .i64 x5] : Array Value) ++ bits64 f ++ #[.func (.yield lr) #[] #[]]) 88 (0, 0)) → Below W.heap.size W w → Q .normal { tmps := (.func (.yield lr) #[] #[] :: .pointer (some ⟨B, 0, none⟩) :: u2 :: .pointer (some ⟨Wb, 0, none⟩) :: u4 :: u5 :: y6 :: y7 :: y8 :: y9 :: y10 :: y11 :: y12 :: y13 :: y14 :: u15 :: u16 :: u17 :: u18 :: u19 :: u20 :: []).toArray, defers := ds } w) :
    (Code.region 1 #[{ dst := some 6, op := Op.load 37 (Operand.tmp 1), type := 37, pos := "domain.go:127", after := #[], guard := none },
    { dst := some 7, op := Op.fieldAddr 37 (Operand.tmp 1) 3, type := 0, pos := "domain.go:127", after := #[], guard := none },
    { dst := some 8, op := Op.load 22 (Operand.tmp 7), type := 22, pos := "domain.go:127", after := #[{ on := 1, ground := Ground.data }], guard := none },
    { dst := some 9, op := Op.fieldAddr 37 (Operand.tmp 1) 2, type := 0, pos := "domain.go:127", after := #[], guard := none },
    { dst := some 10, op := Op.load 22 (Operand.tmp 9), type := 22, pos := "domain.go:127", after := #[{ on := 3, ground := Ground.data }], guard := none },
    { dst := some 11, op := Op.call { callee := Callee.value (Operand.func 63), args := #[Operand.tmp 8, Operand.tmp 10], argTypes := #[22, 22] }, type := 62, pos := "domain.go:127", after := #[{ on := 2, ground := Ground.data }, { on := 4, ground := Ground.data }], guard := none },
    { dst := some 12, op := Op.move (Operand.tmp 0), type := 32, pos := "domain.go:127", after := #[], guard := none },
    { dst := some 13, op := Op.build 88 #[(0, Operand.tmp 6), (1, Operand.tmp 11), (2, Operand.tmp 12)], type := 88, pos := "domain.go:127", after := #[{ on := 0, ground := Ground.data }, { on := 5, ground := Ground.data }, { on := 6, ground := Ground.data }], guard := none },
    { dst := some 14, op := Op.box 88 (Operand.tmp 13), type := 86, pos := "domain.go:127", after := #[{ on := 7, ground := Ground.data }], guard := none },
    { dst := some 3, op := Op.assign (Operand.tmp 14), type := 86, pos := "domain.go:127", after := #[{ on := 8, ground := Ground.data }, { on := 5, ground := Ground.chain }, { on := 0, ground := Ground.phase }, { on := 1, ground := Ground.phase }, { on := 2, ground := Ground.phase }, { on := 3, ground := Ground.phase }, { on := 4, ground := Ground.phase }, { on := 5, ground := Ground.phase }, { on := 6, ground := Ground.phase }, { on := 7, ground := Ground.phase }, { on := 8, ground := Ground.phase }], guard := none }] true).wpIn Fence.wide n Tryz.prog Q { tmps := (.func (.yield lr) #[] #[] :: .pointer (some ⟨B, 0, none⟩) :: u2 :: u3 :: u4 :: u5 :: u6 :: u7 :: u8 :: u9 :: u10 :: u11 :: u12 :: u13 :: u14 :: u15 :: u16 :: u17 :: u18 :: u19 :: u20 :: []).toArray, defers := ds } W := by
  have hbd := built88 lr f x0 p1 p2 m1 k1 m2 k2 x4 x5
  obtain ⟨WV, hWV⟩ : ∃ X, ((#[.bool x0, .slice none 0 0, .slice p1 m1 k1, .slice p2 m2 k2, .int .i64 x4, .int .i64 x5] : Array Value) ++ bits64 f ++ #[.func (.yield lr) #[] #[]]) = X := ⟨_, rfl⟩
  rw [hWV] at hbd
  simp only [hWV] at hN
  have HN : Hid _ := hN
  have HBD : Hid _ := hbd
  have hSB : ∀ w, Below W.heap.size W w → S w := fun w hb => hSb _ _ h0 hb
  clear hN hWV hbd
  refine region_heldIn S (by kernel_rfl) ?_
  have hHeld : S W.drew := hSb _ _ h0 (Below.drew (Below.refl _ W))
  have hB0 : Below W.heap.size W W.drew := Below.drew (Below.refl _ W)
  change AnyHIn _ _ _ _ _ _ _ _ _ _ W.drew
  generalize W.drew = W0 at hHeld hB0 ⊢
  refine anyH_take (i := 0) (oi := { dst := some 6, op := Op.load 37 (Operand.tmp 1), type := 37, pos := "domain.go:127", after := #[], guard := none }) (v := ?_) (fun _ => trivial) rfl rfl (by kernel_rfl) (by kernel_rfl) (by kernel_rfl) (fun c a w h => hQ c a _ _ w h) (Or.inl ⟨by rfl, ?_⟩) hHeld ?_
  rotate_left
  · intro w hSw; have hSw := hS w hSw; go_simp <;> with_reducible rfl
  try simp only [Act.put, List.setIfInBounds_toArray, List.set_cons_zero, List.set_cons_succ]
  refine anyH_take (i := 1) (oi := { dst := some 7, op := Op.fieldAddr 37 (Operand.tmp 1) 3, type := 0, pos := "domain.go:127", after := #[], guard := none }) (v := ?_) (fun _ => trivial) rfl rfl (by kernel_rfl) (by kernel_rfl) (by kernel_rfl) (fun c a w h => hQ c a _ _ w h) (Or.inl ⟨by rfl, ?_⟩) hHeld ?_
  rotate_left
  · intro w hSw; have hSw := hS w hSw; go_simp <;> with_reducible rfl
  try simp only [Act.put, List.setIfInBounds_toArray, List.set_cons_zero, List.set_cons_succ]
  refine anyH_take (i := 2) (oi := { dst := some 8, op := Op.load 22 (Operand.tmp 7), type := 22, pos := "domain.go:127", after := #[{ on := 1, ground := Ground.data }], guard := none }) (v := ?_) (fun _ => trivial) rfl rfl (by kernel_rfl) (by kernel_rfl) (by kernel_rfl) (fun c a w h => hQ c a _ _ w h) (Or.inl ⟨by rfl, ?_⟩) hHeld ?_
  rotate_left
  · intro w hSw; have hSw := hS w hSw; go_simp <;> with_reducible rfl
  try simp only [Act.put, List.setIfInBounds_toArray, List.set_cons_zero, List.set_cons_succ]
  refine anyH_take (i := 3) (oi := { dst := some 9, op := Op.fieldAddr 37 (Operand.tmp 1) 2, type := 0, pos := "domain.go:127", after := #[], guard := none }) (v := ?_) (fun _ => trivial) rfl rfl (by kernel_rfl) (by kernel_rfl) (by kernel_rfl) (fun c a w h => hQ c a _ _ w h) (Or.inl ⟨by rfl, ?_⟩) hHeld ?_
  rotate_left
  · intro w hSw; have hSw := hS w hSw; go_simp <;> with_reducible rfl
  try simp only [Act.put, List.setIfInBounds_toArray, List.set_cons_zero, List.set_cons_succ]
  refine anyH_take (i := 4) (oi := { dst := some 10, op := Op.load 22 (Operand.tmp 9), type := 22, pos := "domain.go:127", after := #[{ on := 3, ground := Ground.data }], guard := none }) (v := ?_) (fun _ => trivial) rfl rfl (by kernel_rfl) (by kernel_rfl) (by kernel_rfl) (fun c a w h => hQ c a _ _ w h) (Or.inl ⟨by rfl, ?_⟩) hHeld ?_
  rotate_left
  · intro w hSw; have hSw := hS w hSw; go_simp <;> with_reducible rfl
  try simp only [Act.put, List.setIfInBounds_toArray, List.set_cons_zero, List.set_cons_succ]
  refine anyH_take (i := 6) (oi := { dst := some 12, op := Op.move (Operand.tmp 0), type := 32, pos := "domain.go:127", after := #[], guard := none }) (v := ?_) (fun _ => trivial) rfl rfl (by kernel_rfl) (by kernel_rfl) (by kernel_rfl) (fun c a w h => hQ c a _ _ w h) (Or.inl ⟨by rfl, ?_⟩) hHeld ?_
  rotate_left
  · intro w hSw; have hSw := hS w hSw; go_simp <;> with_reducible rfl
  try simp only [Act.put, List.setIfInBounds_toArray, List.set_cons_zero, List.set_cons_succ]
  refine anyH_one (i := 5) (o := { dst := some 11, op := Op.call { callee := Callee.value (Operand.func 63), args := #[Operand.tmp 8, Operand.tmp 10], argTypes := #[22, 22] }, type := 62, pos := "domain.go:127", after := #[{ on := 2, ground := Ground.data }, { on := 4, ground := Ground.data }], guard := none }) (by kernel_rfl) rfl (by rfl) ?_
  intro K hK
  have hcl := hC W0 hHeld
  go_simp
  refine ⟨trivial, (fun h => nomatch h), (callsIn_wide.2 hcl).mono ?_⟩
  rintro e w1 ⟨rfl, hb1⟩
  have hB1 : Below W.heap.size W w1 := hB0.trans (hb1.mono hB0.size)
  clear hHeld
  have hHeld := hSB _ hB1
  refine hK _ _ hHeld ?_
  clear hK K hcl hb1
  try simp only [Act.put, List.setIfInBounds_toArray, List.set_cons_zero, List.set_cons_succ]
  refine anyH_take (i := 7) (oi := { dst := some 13, op := Op.build 88 #[(0, Operand.tmp 6), (1, Operand.tmp 11), (2, Operand.tmp 12)], type := 88, pos := "domain.go:127", after := #[{ on := 0, ground := Ground.data }, { on := 5, ground := Ground.data }, { on := 6, ground := Ground.data }], guard := none }) (v := .agg WV) (fun _ => trivial) rfl rfl (by kernel_rfl) (by kernel_rfl) (by kernel_rfl) (fun c a w h => hQ c a _ _ w h) (Or.inl ⟨by rfl, ?_⟩) hHeld ?_
  · intro w hSw
    have hr := run_build w 88 #[(0, .agg #[.bool x0, .slice none 0 0, .slice p1 m1 k1, .slice p2 m2 k2, .int .i64 x4, .int .i64 x5]), (1, .agg (bits64 f)), (2, .func (.yield lr) #[] #[])] WV HBD.out
    unfold execOp
    simp only [Sem.run_bind]
    refine (andThen_of (v := .agg WV) (w := w) ?_ _).trans rfl
    refine Eq.trans (congrArg (fun q => Sem.run Tryz.prog (Instr.build 88 q) w) ?_) hr
    simp only [List.map_toArray, List.map_cons, List.map_nil]
    rfl
  try simp only [Act.put, List.setIfInBounds_toArray, List.set_cons_zero, List.set_cons_succ]
  refine anyH_one (i := 8) (o := { dst := some 14, op := Op.box 88 (Operand.tmp 13), type := 86, pos := "domain.go:127", after := #[{ on := 7, ground := Ground.data }], guard := none }) (by kernel_rfl) rfl (by rfl) ?_
  intro K hK
  go_simp
  have hB2 : Below W.heap.size W (w1.alloc (Obj.cells WV 88)) := hB1.alloc hB1.size _
  have hg : (w1.alloc (Obj.cells WV 88)).heap[w1.heap.size]? = some (.cells WV 88 (0, 0)) := World.alloc_heap_new w1 _
  clear hHeld
  have hHeld := hSB _ hB2
  refine hK _ _ hHeld ?_
  clear hK K
  have hR := hB1.size
  generalize w1.heap.size = Wb at hg hR ⊢
  generalize w1.alloc (Obj.cells WV 88) = w2 at hg hB2 hHeld ⊢
  refine anyH_take (i := 9) (oi := { dst := some 3, op := Op.assign (Operand.tmp 14), type := 86, pos := "domain.go:127", after := #[{ on := 8, ground := Ground.data }, { on := 5, ground := Ground.chain }, { on := 0, ground := Ground.phase }, { on := 1, ground := Ground.phase }, { on := 2, ground := Ground.phase }, { on := 3, ground := Ground.phase }, { on := 4, ground := Ground.phase }, { on := 5, ground := Ground.phase }, { on := 6, ground := Ground.phase }, { on := 7, ground := Ground.phase }, { on := 8, ground := Ground.phase }], guard := none }) (v := ?_) (fun _ => trivial) rfl rfl (by kernel_rfl) (by kernel_rfl) (by kernel_rfl) (fun c a w h => hQ c a _ _ w h) (Or.inl ⟨by rfl, ?_⟩) hHeld ?_
  rotate_left
  · intro w hSw; have hSw := hS w hSw; go_simp <;> with_reducible rfl
  try simp only [Act.put, List.setIfInBounds_toArray, List.set_cons_zero, List.set_cons_succ]
  exact anyH_done (by kernel_rfl) (HN.out Wb w2 _ _ _ _ _ _ _ _ _ hR hg hB2) _
end Go.Proofs.YtacnhkaibcjjgaaGreatDoor
