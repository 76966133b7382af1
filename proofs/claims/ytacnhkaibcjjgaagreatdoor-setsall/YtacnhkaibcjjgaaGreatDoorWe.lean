/-
  What is proved here: what the iterator of sets.Each tells, where a round may write the sets that it is handed.
-/
import Derived.Test.YtacnhkaibcjjgaaGreatDoorEc
import Derived.Test.YtacnhkaibcjjgaaGreatDoorWf
namespace Go.Proofs.YtacnhkaibcjjgaaGreatDoor
open Go.RowKit Go.Shelf
set_option linter.unusedVariables false
set_option linter.unusedSimpArgs false

/-- Numbers in old memory, not in block A. -/
def SiQ (A base : Nat) (W : World) (s : Value) (l : List Int) : Prop :=
  ∃ a c, s = .slice a l.length c ∧ (0 < l.length → ∃ b off, a = some ⟨b, off, none⟩ ∧ b < W.heap.size ∧ (b ≠ A ∧ b < base) ∧ ∀ i, i < l.length → W.cell? ⟨b, off + i, none⟩ = some (.int .i64 (nth l i)))
theorem SiQ.si {A base : Nat} {W : World} {s : Value} {l : List Int} (h : SiQ A base W s l) : Si W s l := by
  obtain ⟨a, c, e, h⟩ := h
  exact ⟨a, c, e, fun h0 => by obtain ⟨b, off, e1, e2, _, e3⟩ := h h0; exact ⟨b, off, e1, e2, e3⟩⟩
theorem SiQ.kp {A base : Nat} {W W' : World} {s : Value} {l : List Int} (h : SiQ A base W s l) (hk : Kq A base W W') : SiQ A base W' s l := by
  obtain ⟨a, c, e, h⟩ := h
  exact ⟨a, c, e, fun h0 => by obtain ⟨b, off, e1, e2, e4, e3⟩ := h h0; exact ⟨b, off, e1, Nat.lt_of_lt_of_le e2 hk.1, e4, fun i hi => hk.cell e4.1 (.inl e4.2) (e3 i hi)⟩⟩
theorem own_siq {A base' : Nat} {W : World} {base : Nat} {s : Value} {l : List Int} (h : W.ownsRow base 2 1 s l.length (intv l)) (hA : A < base ∨ W.heap.size ≤ A) (hB : W.heap.size ≤ base') : SiQ A base' W s l := by
  rcases h.2 with ⟨e1, e2⟩ | ⟨g, cap, cur, e1, hg, hgb, hn, hm, hs, ht⟩
  · exact ⟨none, 0, by rw [e1, e2], fun h0 => by omega⟩
  · have hgl : g < W.heap.size := (Array.getElem?_eq_some_iff.1 hgb).1
    refine ⟨_, cap, e1, fun _ => ⟨g, 0, rfl, hgl, ⟨by omega, by omega⟩, fun i hi => ?_⟩⟩
    simp only [World.cell?, hgb]
    rw [if_neg (by simp), Nat.zero_add]
    have : (intv l)[i]? = some (.int .i64 (nth l i)) := by simp [intv, nth, hi]
    rw [← ht, List.getElem?_take, if_pos (by omega), Array.getElem?_toList] at this
    exact this

set_option maxRecDepth 100000 in
set_option maxHeartbeats 4000000 in
theorem each2_any (n lr A base B : Nat) (hBA : B ≠ A) (T : SD) (hE : emptyD T = false) (hl1 : IsSet T.lo) (hl2 : IsSet T.up) (hrn : T.rn = 0) (p1 p2 : Option Addr) (k1 k2 : Nat) (W : World) (hA : A < W.heap.size) (hbase : base ≤ W.heap.size)
    (hB : W.heap[B]? = some (.cells #[.bool T.set, .slice none 0 0, .slice p1 T.lo.length k1, .slice p2 T.up.length k2, .int .i64 T.least, .int .i64 T.most] 37 (0, 0))) (s1 : SiQ A base W (.slice p1 T.lo.length k1) T.lo) (s2 : SiQ A base W (.slice p2 T.up.length k2) T.up)
    (J Jx : List (List Int) → World → Prop) (hJb : ∀ p w w', J p w → Below w.heap.size w w' → J p w')
    (hY : ∀ m p l v w, (∃ r, p ++ [l] ++ r = allT T) → J p w → Si w v l → Wr95 w base v → ∃ fn tmps assign body, (Instr.yield lr #[v]).run Tryz.prog w = .ok (.round lr fn tmps assign body) w ∧
      RoundIn Fence.wide m Tryz.prog lr fn tmps assign body w fun e w' => (e = .returned (.bool true) ∧ J (p ++ [l]) w' ∧ Kq A base w w') ∨ (e = .returned (.bool false) ∧ Jx (p ++ [l]) w' ∧ Kq A base w w'))
    (h0 : J [] W) :
    CallsIn Fence.wide n Tryz.prog 82 #[.func (.yield lr) #[] #[], .pointer (some ⟨B, 0, none⟩)] W fun e w' => (∃ v, e = .returned v) ∧ Kq A base W w' ∧ (J (allT T) w' ∨ ∃ q r, q ++ r = allT T ∧ Jx q w') := by
  have hem := fun w (hw : Below W.heap.size W w) => empty_any (.agg #[.bool T.set, .slice none 0 0, .slice p1 T.lo.length k1, .slice p2 T.up.length k2, .int .i64 T.least, .int .i64 T.most]) T w (⟨none, 0, _, _, by rw [hrn], (s1.kp (Kq.below hw)).si, (s2.kp (Kq.below hw)).si⟩)
  rw [hE] at hem
  have hsh := fun w (hw : Kq A base W w) => shared_any _ _ T.up T.lo w (s2.kp hw).si (s1.kp hw).si hl2 hl1
  have hul := hl2.1
  have hll := hl1.1
  obtain ⟨AT, hAT⟩ : ∃ X, allT T = X := ⟨_, rfl⟩
  have hATd : AT = ownS T.up T.least (fun _ => false) 0 T.lo.length ++ lp T.up (sharedF T.up T.lo T.up.length) T.least T.most T.up.length (fun _ => false) 0 0 T.lo.length := by rw [← hAT]; rfl
  rw [hAT] at hY ⊢
  obtain ⟨f, hf⟩ : ∃ f, sharedF T.up T.lo T.up.length = f := ⟨_, rfl⟩
  rw [hf] at hATd
  simp only [hf] at hsh
  have hfrom := fun Wb (hWA : Wb ≠ A) => from2_any A base Wb lr hWA T.up hul f T.least T.most p2 k2
  obtain ⟨m1, hm1⟩ : ∃ n, T.lo.length = n := ⟨_, rfl⟩
  obtain ⟨m2, hm2⟩ : ∃ n, T.up.length = n := ⟨_, rfl⟩
  obtain ⟨x0, hx0⟩ : ∃ x, T.set = x := ⟨_, rfl⟩
  obtain ⟨x4, hx4⟩ : ∃ x, T.least = x := ⟨_, rfl⟩
  obtain ⟨x5, hx5⟩ : ∃ x, T.most = x := ⟨_, rfl⟩
  obtain ⟨up, hup⟩ : ∃ u, T.up = u := ⟨_, rfl⟩
  rw [hup] at hm2
  simp only [hm1, hup, hm2, hx0, hx4, hx5] at hem hsh hATd hfrom hB s1 s2 hll hul
  have hsix := six_cells hB
  have hlt : B < W.heap.size := (Array.getElem?_eq_some_iff.1 hB).1
  have hSB : Sd base W B := Sd.of_type hB (by decide)
  have hcells : ∀ w, Kq A base W w → w.cell? ⟨B, 0, none⟩ = some (.bool x0) ∧ w.cell? ⟨B, 1, none⟩ = some (.slice none 0 0) ∧ w.cell? ⟨B, 2, none⟩ = some (.slice p1 m1 k1) ∧ w.cell? ⟨B, 3, none⟩ = some (.slice p2 m2 k2) ∧ w.cell? ⟨B, 4, none⟩ = some (.int .i64 x4) ∧ w.cell? ⟨B, 5, none⟩ = some (.int .i64 x5) := fun w hw =>
    ⟨hw.cell hBA hSB hsix.1, hw.cell hBA hSB hsix.2.1, hw.cell hBA hSB hsix.2.2.1, hw.cell hBA hSB hsix.2.2.2.1, hw.cell hBA hSB hsix.2.2.2.2.1, hw.cell hBA hSB hsix.2.2.2.2.2⟩
  obtain ⟨z0, z1, z2, z3, z4, z5⟩ := hsix
  have hem0 := hem W (Below.refl _ W)
  clear hSB hem hE hrn hx0 hx4 hx5 hm1 hAT hf
  have HF : Hid _ := hfrom
  have HSH : Hid _ := hsh
  clear hfrom hsh
  refine callsIn_of_wp Tryz.func82 rfl trivial ?_ rfl
  simp only [Tryz.ntmps82, List.size_toArray, List.length_cons, List.length_nil, Nat.reduceAdd, Nat.reduceSub, Array.replicate_succ, Array.replicate_zero, List.push_toArray, List.append_toArray, List.nil_append, List.cons_append]
  gi_wp2
  refine ⟨trivial, (fun h => nomatch h), (callsIn_wide.2 hem0).mono ?_⟩
  rintro e w1 ⟨rfl, hb1⟩
  have hk1 : Kq A base W w1 := Kq.below hb1
  have hJ1 : J [] w1 := hJb _ _ _ h0 hb1
  have hA1 : A < w1.heap.size := Nat.lt_of_lt_of_le hA hb1.size
  clear z0 z1 z2 z3 z4 z5 hem0 h0 hb1
  gi_upto_region 1 with (fail)
  refine r82 n B lr f x0 p1 p2 m1 k1 m2 k2 x4 x5 (Kq A base W) hcells (fun w w' hw hb => hw.trans (Kq.below hb)) (fun w hw => HSH.out w hw) _ (by intro c a d v w h; cases d <;> exact h) _ hk1 ?_
  intro Wb w2 y6 y7 y8 y9 y10 y11 y12 y13 y14 hWb hg2 hb2
  have hk2 : Kq A base W w2 := hk1.trans (Kq.below hb2)
  have hJ2 : J [] w2 := hJb _ _ _ hJ1 hb2
  have hA2 : A < w2.heap.size := Nat.lt_of_lt_of_le hA1 hb2.size
  have hWA : Wb ≠ A := by omega
  obtain ⟨g3, g4, g5, g70, gm⟩ := walk_get lr f x0 p1 p2 m1 k1 m2 k2 x4 x5
  have hfr := HF.out Wb hWA (Kq A base w2) (fun w hw => ⟨hw.cell hWA (Sd.of_type hg2 (by decide)) ((cell_row' hg2 3).trans g3), hw.cell hWA (Sd.of_type hg2 (by decide)) ((cell_row' hg2 4).trans g4), hw.cell hWA (Sd.of_type hg2 (by decide)) ((cell_row' hg2 5).trans g5), hw.cell hWA (Sd.of_type hg2 (by decide)) ((cell_row' hg2 70).trans g70)⟩)
    (fun w hw i hi => hw.cell hWA (Sd.of_type hg2 (by decide)) ((cell_row' hg2 (6 + i)).trans (gm i hi))) (fun w hw => ((s2.kp hk2).kp hw).si) (fun w hw => Nat.lt_of_lt_of_le hA2 hw.1) (fun w hw => Nat.le_trans hbase (Nat.le_trans hk2.1 hw.1)) (fun w w' hw hb => hw.trans hb) J Jx hJb AT (fun m p l v w hf hJ _ hv hv2 => hY m p l v w hf hJ hv hv2)
    m2 (n - 1) 0 (fun _ => false) 0 m1 [] w2 (Nat.zero_le _) (by omega) (Int.le_refl _) (by omega) (by omega) (by omega) (Kq.refl _ _ _) hJ2 ⟨[], by rw [hATd]; simp⟩
  have hc2 := (hcells w2 hk2).2.2.1
  obtain ⟨hz, _⟩ := zero_of_info info91
  have hZs := beg_size (fun _ => false) 0 0 0
  have hZ1 := beg_first (m1 : Int)
  generalize begV (fun _ => false) 0 0 0 = Z at hz hZs hZ1
  have hne : ¬ Z = #[] := fun h => by rw [h] at hZs; simp at hZs
  have HFR : Hid _ := hfr
  clear hfr hcells g3 g4 g5 g70 gm HF HSH hY hJb
  gi_wp2
  refine ⟨trivial, (fun h => nomatch h), CallsIn.mono HFR.out ?_⟩
  rintro e w3 ⟨b, rfl, hk3, hif⟩
  have hfin : (∃ v, Ending.returned (Value.tuple #[]) = .returned v) ∧ Kq A base W w3 ∧ (J AT w3 ∨ ∃ q r, q ++ r = AT ∧ Jx q w3) := by
    refine ⟨⟨_, rfl⟩, hk2.trans hk3, ?_⟩
    rw [hATd]
    cases b
    · rw [if_neg (by simp)] at hif
      obtain ⟨q, r, hq, hx⟩ := hif
      exact .inr ⟨q, r, hq, hx⟩
    · rw [if_pos rfl, List.nil_append] at hif
      exact .inl hif
  gi_wp2
  go_end0
  exact hfin
end Go.Proofs.YtacnhkaibcjjgaaGreatDoor
