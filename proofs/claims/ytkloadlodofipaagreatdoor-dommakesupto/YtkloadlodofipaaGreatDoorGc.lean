/-
  What is proved here: dom.Within of any ranges.
-/
import Derived.Test.YtkloadlodofipaaGreatDoorGb
import Derived.WalkMore
namespace Go.Proofs.YtkloadlodofipaaGreatDoor
open Go.RowKit Go.Shelf
set_option linter.unusedVariables false

/-- Does the range j of b hold the range i of a? -/
def holdsIn (a b : List Rg) (j i : Nat) : Prop := lo b j ≤ lo a i ∧ hi a i ≤ hi b j
/-- Is each range of a in one of b? -/
def win (a b : List Rg) : Prop := ∀ i, i < a.length → ∃ j, j < b.length ∧ holdsIn a b j i
theorem holds_later {a b : List Rg} (ha : Right a) (hb : Right b) {t k : Nat} (ht : t < b.length) (h : holdsIn a b t k) : ∀ j, j < t → ∀ m, k ≤ m → m < a.length → ¬ holdsIn a b j m := by
  intro j hj m hm hma hh
  have u1 := right_up b hb (t - 1) j (by omega) (by omega)
  have u2 := right_up a ha m k hm hma
  have o1 := hb.2 t ht
  have o2 := ha.2 m hma
  unfold OkAt at o1 o2
  have := o1.2.2.2 (by omega)
  unfold holdsIn at h hh
  omega

set_option maxRecDepth 100000 in
set_option maxHeartbeats 4000000 in
theorem domwithin_any (s1 s2 : Value) (la lb : List Rg) (w : World) (h1 : Sr w s1 la) (h2 : Sr w s2 lb) (hf1 : FitsR la) (hf2 : FitsR lb) :
    Calls Tryz.prog 49 #[s1, s2] w fun e w' => ∃ t, e = .returned (.bool t) ∧ (t = true ↔ win (tk la) (tk lb)) ∧ Below w.heap.size w w' := by
  have hk2 := known_tk s2 lb w h2 hf2
  have hk1 := fun W (hW : Below w.heap.size w W) => known_tk s1 la W (h1.below hW) hf1
  have hRa := tk_right la
  have hRb := tk_right lb
  obtain ⟨A, hA⟩ : ∃ A, tk la = A := ⟨_, rfl⟩
  obtain ⟨B, hB⟩ : ∃ B, tk lb = B := ⟨_, rfl⟩
  rw [hA] at hRa ⊢
  rw [hB] at hRb hk2 ⊢
  simp only [hA] at hk1
  obtain ⟨a1, c1, rfl, _⟩ := h1
  obtain ⟨a2, c2, rfl, _⟩ := h2
  have HRa : Hid (Right A) := hRa
  have HRb : Hid (Right B) := hRb
  have hla := hRa.1
  have hlb := hRb.1
  clear hRa hRb hf1 hf2 hA hB
  go_enter Tryz.func49, Tryz.ntmps49
  go_wp2
  go_step3
  go_wp2_with fail
  refine hk2.mono ?_
  clear hk2
  rintro e w1 ⟨b0, n2, c0, rfl, hS2, hn2, hb1⟩
  have HS2 : Hid (Sr w (.slice b0 n2 c0) B) := hS2
  have HN2 : Hid (n2 = B.length) := hn2
  rw [← hn2] at hlb
  clear hS2 hn2
  go_wp2
  go_step3
  go_wp2_with fail
  refine (hk1 w1 hb1).mono ?_
  clear hk1
  rintro e w2 ⟨a0, n1, d0, rfl, hS1, hn1, hb2⟩
  have hb12 : Below w.heap.size w w2 := hb1.trans (hb2.mono hb1.size)
  have HS1 : Hid (∀ X, Below w1.heap.size w1 X → Sr X (.slice a0 n1 d0) A) := fun X hX => hS1.below hX
  have HN1 : Hid (n1 = A.length) := hn1
  rw [← hn1] at hla
  clear hS1 hn1
  go_wp2
  go_loopw [5, 13] (fun at' i wr => ∃ (k t : Nat), k ≤ n1 ∧ t ≤ n2 ∧ i = .int .i64 k ∧ at' = .int .i64 t ∧ (∀ m, m < k → ∃ j, j < B.length ∧ holdsIn A B j m) ∧ (∀ j, j < t → ∀ m, k ≤ m → m < A.length → ¬ holdsIn A B j m) ∧ Below w.heap.size w wr ∧ Below w1.heap.size w1 wr) (fun _ i _ => n1 - (intOf i).toNat)
  case atStart => exact ⟨0, 0, by omega, by omega, rfl, rfl, fun m hm => by omega, fun j hj => by omega, hb12, hb2⟩
  case round =>
    obtain ⟨k, t, hk, ht, rfl, rfl, hdone, hpast, hBw, hB1⟩ := hrel
    by_cases hlt : k < n1
    · have hkl : k < A.length := by rw [← HN1.out]; exact hlt
      have hSA := HS1.out wr hB1
      have hcA : ∃ b off, a0 = some ⟨b, off, none⟩ ∧ b < wr.heap.size ∧ wr.cell? ⟨b, off + k * 2, none⟩ = some (.int .i64 (lo A k)) ∧ wr.cell? ⟨b, off + k * 2 + 1, none⟩ = some (.int .i64 (hi A k)) := by
        obtain ⟨a', c', e, hc⟩ := hSA
        injection e with e1 e2 e3
        obtain ⟨b, off, e, hbl, hcell⟩ := hc (by omega)
        exact ⟨b, off, e1.trans e, hbl, hcell k hkl⟩
      obtain ⟨ba, oa, rfl, hba, d1, d2⟩ := hcA
      obtain ⟨x, hx⟩ : ∃ x, lo A k = x := ⟨_, rfl⟩
      obtain ⟨y, hy⟩ : ∃ y, hi A k = y := ⟨_, rfl⟩
      rw [hx] at d1; rw [hy] at d2
      have HX : Hid (lo A k = x) := hx
      have HY : Hid (hi A k = y) := hy
      have hlt' : (k : Int) < (n1 : Int) := by omega
      have HDONE : Hid (∀ m, m < k → ∃ j, j < B.length ∧ holdsIn A B j m) := hdone
      have HPAST : Hid (∀ j, j < t → ∀ m, k ≤ m → m < A.length → ¬ holdsIn A B j m) := hpast
      obtain ⟨R, hR⟩ : ∃ R, wr.heap.size = R := ⟨_, rfl⟩
      obtain ⟨W1, hW1⟩ : ∃ W1, wr.alloc (Obj.cells #[Value.int IntKind.i64 x, Value.int IntKind.i64 y] 55) = W1 := ⟨_, rfl⟩
      have hT := Two.new wr x y
      rw [hW1, hR] at hT
      have r0 := hT.c0
      have r1 := hT.c1
      have HBW : Hid (∀ m, Below w.heap.size w (W1.drewN m)) := fun m => by rw [← hW1]; exact below_drewN (hBw.alloc hBw.size _) _
      have HB1 : Hid (∀ m, Below w1.heap.size w1 (W1.drewN m)) := fun m => by rw [← hW1]; exact below_drewN (hB1.alloc hB1.size _) _
      have HLT : Hid (k < A.length) := hkl
      clear hx hy hdone hpast hSA hkl hT
      go_wp2
      try simp only [hR, hW1]
      clear hW1 d1 d2
      go_loopw [5] (fun at' w3 => ∃ (t m : Nat), t ≤ n2 ∧ at' = .int .i64 t ∧ (∀ j, j < t → ¬ holdsIn A B j k) ∧ w3 = W1.drewN m) (fun at' _ => n2 - (intOf at').toNat)
      case atStart => exact ⟨t, 0, ht, rfl, fun j hj => HPAST.out j hj k (Nat.le_refl _) HLT.out, rfl⟩
      case round =>
        obtain ⟨t, m, ht, rfl, hno, rfl⟩ := hrel
        have s0 : (W1.drewN m).cell? ⟨R, 0, none⟩ = some (.int .i64 x) := r0
        have s1 : (W1.drewN m).cell? ⟨R, 1, none⟩ = some (.int .i64 y) := r1
        have HNO : Hid (∀ j, j < t → ¬ holdsIn A B j k) := hno
        clear hno
        by_cases htl : t < n2
        · have hcB : ∃ b off, b0 = some ⟨b, off, none⟩ ∧ (W1.drewN m).cell? ⟨b, off + t * 2, none⟩ = some (.int .i64 (lo B t)) ∧ (W1.drewN m).cell? ⟨b, off + t * 2 + 1, none⟩ = some (.int .i64 (hi B t)) := by
            obtain ⟨a', c', e, hc⟩ := HS2.out.below (HBW.out m)
            injection e with e1 e2 e3
            obtain ⟨b, off, e, hbl, hcell⟩ := hc (by omega)
            exact ⟨b, off, e1.trans e, hcell t (by rw [← HN2.out]; exact htl)⟩
          obtain ⟨bb, ob, rfl, f1, f2⟩ := hcB
          obtain ⟨p, hp⟩ : ∃ p, lo B t = p := ⟨_, rfl⟩
          obtain ⟨q, hq⟩ : ∃ q, hi B t = q := ⟨_, rfl⟩
          rw [hp] at f1; rw [hq] at f2
          have f3 : W1.cell? ⟨bb, ob + t * 2, none⟩ = some (.int .i64 p) := f1
          have f4 : W1.cell? ⟨bb, ob + t * 2 + 1, none⟩ = some (.int .i64 q) := f2
          have HH : Hid (holdsIn A B t k ↔ p ≤ x ∧ y ≤ q) := by unfold Hid holdsIn; rw [hp, hq, HX.out, HY.out]
          have htl' : (t : Int) < (n2 : Int) := by omega
          have HTL : Hid (t < B.length) := by unfold Hid; rw [← HN2.out]; exact htl
          clear hp hq
          by_cases g1 : p ≤ x
          · have e1 : decide (p ≤ x) = true := by simpa using g1
            by_cases g2 : y ≤ q
            · have e2 : decide (y ≤ q) = true := by simpa using g2
              go_wp2
              go_quiet (fail)
              go_wp2
              have hh : holdsIn A B t k := HH.out.2 ⟨g1, g2⟩
              refine ⟨⟨k + 1, t, by omega, ht, by go_num, rfl, fun m' hm' => if h : m' = k then by subst h; exact ⟨t, HTL.out, hh⟩ else HDONE.out m' (by omega), fun j hj m' hm' hma => holds_later HRa.out HRb.out HTL.out hh j hj m' (by omega) hma, HBW.out _, HB1.out _⟩, ?_⟩
              simp [intOf]; omega
            · have e2 : decide (y ≤ q) = false := by simpa using g2
              go_wp2
              go_quiet (fail)
              go_wp2
              go_roundw
              case rel => exact ⟨t + 1, _, by omega, by go_num, fun j hj => if h : j = t then by subst h; exact fun h9 => by have := (HH.out.1 h9).2; omega else HNO.out j (by omega), rfl⟩
              case measure => simp [intOf]; omega
          · have e1 : decide (p ≤ x) = false := by simpa using g1
            go_wp2
            go_quiet (fail)
            go_wp2
            go_roundw
            case rel => exact ⟨t + 1, _, by omega, by go_num, fun j hj => if h : j = t then by subst h; exact fun h9 => by have := (HH.out.1 h9).1; omega else HNO.out j (by omega), rfl⟩
            case measure => simp [intOf]; omega
        · have htl' : decide ((t : Int) < (n2 : Int)) = false := by simp; omega
          go_wp2
          (try rw [Exit.noGoto_ret])
          go_ret
          refine ⟨false, rfl, ⟨(fun h => by simp at h), fun hw => ?_⟩, HBW.out m⟩
          obtain ⟨j, hj, hh⟩ := hw k HLT.out
          exact absurd hh (HNO.out j (by have := HN2.out; omega))
    · obtain rfl : k = n1 := by omega
      have hdn : win A B := fun i hi' => hdone i (by rw [HN1.out]; exact hi')
      clear hdone hpast
      go_wp2
      (try rw [Exit.noGoto_ret])
      go_ret
      exact ⟨true, rfl, ⟨fun _ => hdn, fun _ => rfl⟩, hBw⟩
end Go.Proofs.YtkloadlodofipaaGreatDoor
