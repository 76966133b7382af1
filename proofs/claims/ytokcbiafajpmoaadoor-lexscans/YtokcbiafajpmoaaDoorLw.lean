/-
  What is proved here: the tokens of any text, told one by one by package lex's Each.
-/
import Derived.Test.YtokcbiafajpmoaaDoorLu
namespace Go.Proofs.YtokcbiafajpmoaaDoor
open Go.RowKit
set_option linter.unusedVariables false
set_option linter.unusedSimpArgs false

attribute [local go_sem] Oper.semAt_some
/-- A token as a value. -/
def Tok.val (t : Tok) : Value := .agg #[.int .i64 t.k, .string (bs t.tx), .int .i64 t.n, .int .i64 (t.p : Int)]
/-- Tokens lie in memory. -/
structure Tr (w : World) (v : Value) (T : List Tok) : Prop where
  h : ∃ a cap, v = .slice a T.length cap ∧ (0 < T.length → ∃ g, a = some ⟨g, 0, none⟩ ∧ g < w.heap.size ∧ ∀ (i : Nat) t, T[i]? = some t →
    w.cell? ⟨g, i * 4, none⟩ = some (.int .i64 t.k) ∧ w.cell? ⟨g, i * 4 + 1, none⟩ = some (.string (bs t.tx)) ∧ w.cell? ⟨g, i * 4 + 2, none⟩ = some (.int .i64 t.n) ∧ w.cell? ⟨g, i * 4 + 3, none⟩ = some (.int .i64 (t.p : Int)))
theorem Tr.below {w w' : World} {v : Value} {T : List Tok} (h : Tr w v T) (hb : Below w.heap.size w w') : Tr w' v T := by
  obtain ⟨a, cap, e, hc⟩ := h.h
  refine ⟨a, cap, e, fun h0 => ?_⟩
  obtain ⟨g, e2, hg, hcc⟩ := hc h0
  refine ⟨g, e2, Nat.lt_of_lt_of_le hg hb.size, fun i t ht => ?_⟩
  obtain ⟨c0, c1, c2, c3⟩ := hcc i t ht
  exact ⟨(hb.cell (p := ⟨g, i * 4, none⟩) hg).trans c0, (hb.cell (p := ⟨g, i * 4 + 1, none⟩) hg).trans c1, (hb.cell (p := ⟨g, i * 4 + 2, none⟩) hg).trans c2, (hb.cell (p := ⟨g, i * 4 + 3, none⟩) hg).trans c3⟩
theorem flatT_get (T : List Tok) (i : Nat) (t : Tok) (h : T[i]? = some t) (f : Nat) (hf : f < 4) : (flatT T)[i * 4 + f]? = (tokC t)[f]? := by
  induction T generalizing i with
  | nil => simp at h
  | cons x r ih =>
    cases i with
    | zero =>
      simp at h; subst h
      rw [show flatT (x :: r) = tokC x ++ flatT r by simp [flatT], Nat.zero_mul, Nat.zero_add, List.getElem?_append_left (by simp [tokC]; omega)]
    | succ i =>
      have h' : r[i]? = some t := by simpa using h
      rw [show flatT (x :: r) = tokC x ++ flatT r by simp [flatT], List.getElem?_append_right (by simp [tokC]; omega)]
      rw [← ih i h']
      congr 1
      simp [tokC]; omega
theorem own_tr {w : World} {B : Nat} {v : Value} {T : List Tok} (h : w.ownsRow B 23 4 v T.length (flatT T)) : Tr w v T := by
  rcases h.2 with ⟨e1, e2⟩ | ⟨g, cap, cur, e1, hB, hg, hn, hm, hs, ht⟩
  · exact ⟨none, 0, by rw [e1, e2], fun h0 => by omega⟩
  · refine ⟨some ⟨g, 0, none⟩, cap, e1, fun h0 => ⟨g, rfl, (Array.getElem?_eq_some_iff.1 hg).1, fun i t hit => ?_⟩⟩
    have hlt : i < T.length := (List.getElem?_eq_some_iff.1 hit).1
    have key : ∀ f, f < 4 → w.cell? ⟨g, i * 4 + f, none⟩ = (tokC t)[f]? := by
      intro f hf
      rw [← flatT_get T i t hit f hf, ← ht]
      have hc : w.cell? ⟨g, i * 4 + f, none⟩ = cur[i * 4 + f]? := by simp [World.cell?, hg]
      rw [hc, List.getElem?_take, if_pos (by omega)]
      simp
    exact ⟨key 0 (by omega), key 1 (by omega), key 2 (by omega), key 3 (by omega)⟩
theorem own_le {w : World} {B : Nat} {e : TypeId} {s : Nat} {v : Value} {n : Nat} {xs : List Value} (h : w.ownsRow B e s v n xs) : n ≤ maxLen := by
  rcases h.2 with ⟨_, e2⟩ | ⟨g, cap, cur, e1, hB, hg, hn, hm, _⟩
  · omega
  · omega
theorem Tr.slice {w : World} {v : Value} {T : List Tok} (h : Tr w v T) : ∃ a cap, v = .slice a T.length cap := by
  obtain ⟨a, cap, e, _⟩ := h.h
  exact ⟨a, cap, e⟩

set_option maxRecDepth 100000 in
set_option maxHeartbeats 4000000 in
theorem each15 (b : List UInt8) (W : World) : Calls Tryd.prog 15 #[.string (bs b)] W fun e w' => e = .returned (.func (.func 26) #[] #[.pointer (some ⟨W.heap.size, 0, none⟩)]) ∧ w' = W.alloc (Obj.cells #[.string (bs b)] 9) := by
  have hmf : ∀ (fn : Fn) (first cap : Array Value) (w : World), (Instr.makeFunc fn first cap).run Tryd.prog w = .ok (.func fn first cap) w := fun _ _ _ _ => rfl
  go_enter Tryd.func15, Tryd.ntmps15
  go_wp2
  go_ret
  exact ⟨rfl, rfl⟩
/-- All that lies from a block on is as it was. -/
structure KA (B : Nat) (W W' : World) : Prop where
  size : W.heap.size ≤ W'.heap.size
  same : ∀ (k : Nat) (o : Obj), B ≤ k → W.heap[k]? = some o → W'.heap[k]? = some o
theorem KA.trans {B : Nat} {X Y Z : World} (h : KA B X Y) (k : KA B Y Z) : KA B X Z := ⟨Nat.le_trans h.size k.size, fun i o hi ho => k.same i o hi (h.same i o hi ho)⟩
theorem KA.less {B B' : Nat} {W W' : World} (h : KA B W W') (hb : B ≤ B') : KA B' W W' := ⟨h.size, fun k o hk ho => h.same k o (Nat.le_trans hb hk) ho⟩
theorem KA.put {B k : Nat} (W : World) (o : Obj) (hk : k < B) : KA B W (W.putObj k o) := ⟨by rw [World.putObj_size]; exact Nat.le_refl _, fun i oo hi ho => (World.putObj_heap_other (by omega)).trans ho⟩
theorem KA.of_below {W W' : World} (B : Nat) (h : Below W.heap.size W W') : KA B W W' := ⟨h.size, fun k o _ ho => (h.block k (Array.getElem?_eq_some_iff.1 ho).1).trans ho⟩
theorem KA.refl (B : Nat) (W : World) : KA B W W := ⟨Nat.le_refl _, fun _ _ _ h => h⟩
theorem KA.cell {B g o : Nat} {W W' : World} {v : Value} (h : KA B W W') (hg : B ≤ g) (hc : W.cell? ⟨g, o, none⟩ = some v) : W'.cell? ⟨g, o, none⟩ = some v := by
  have hlt : g < W.heap.size := World.block_lt_of_cell? W ⟨g, o, none⟩ hc
  obtain ⟨ob, hob⟩ : ∃ ob, W.heap[g]? = some ob := ⟨_, Array.getElem?_eq_getElem hlt⟩
  rw [← hc]
  simp [World.cell?, hob, h.same g ob hg hob]

set_option maxRecDepth 100000 in
set_option maxHeartbeats 4000000 in
theorem each26 (n lr B : Nat) (b : List UInt8) (W : World) (hB : W.cell? ⟨B, 0, none⟩ = some (.string (bs b)))
    (J : List Tok → World → Prop) (Jx : World → Prop) (hJE : ∀ p w, J p w → ErrV w) (hJb : ∀ p w w', J p w → Below w.heap.size w w' → J p w')
    (hY : ∀ m p t w, (∃ r, p ++ [t] ++ r = (allT b).1) → W.heap.size ≤ w.heap.size → J p w → ∃ fn tmps assign body, (Instr.yield lr #[t.val]).run Tryd.prog w = .ok (.round lr fn tmps assign body) w ∧
      RoundIn Fence.wide m Tryd.prog lr fn tmps assign body w fun e w' => ((e = .returned (.bool true) ∧ J (p ++ [t]) w') ∨ (e = .returned (.bool false) ∧ Jx w')) ∧ KA W.heap.size w w') (h0 : J [] W) :
    CallsIn Fence.wide n Tryd.prog 26 #[.func (.yield lr) #[] #[], .pointer (some ⟨B, 0, none⟩)] W fun e w' => (∃ v, e = .returned v) ∧ (J (allT b).1 w' ∨ Jx w') := by
  have hT := tokens_any b W (hJE _ _ h0)
  have HJ : Hid _ := hJb
  have HY : Hid _ := hY
  have H0 : Hid (J [] W) := h0
  clear hJb hY hJE h0
  refine callsIn_of_wp Tryd.func26 rfl trivial ?_ rfl
  simp only [Tryd.ntmps26, List.size_toArray, List.length_cons, List.length_nil, Nat.reduceAdd, Nat.reduceSub, Array.replicate_succ, Array.replicate_zero, List.push_toArray, List.append_toArray, List.nil_append, List.cons_append]
  gi_wp2
  refine ⟨trivial, (fun h => nomatch h), (callsIn_wide.2 hT).mono ?_⟩
  rintro e w1 ⟨v, rfl, hown, hb1⟩
  have hTr := own_tr hown
  have hbase : ∀ g cap, v = .slice (some ⟨g, 0, none⟩) (allT b).1.length cap → W.heap.size ≤ g := fun g cap e => (World.ownsRow.lt hown g (by rw [e]; rfl)).1
  have hmax := own_le hown
  obtain ⟨⟨T, x, p⟩, hall⟩ : ∃ y, allT b = y := ⟨_, rfl⟩
  rw [hall] at hTr hbase HY hmax
  have HALL : Hid ((allT b).1 = T) := by unfold Hid; rw [hall]
  rw [hall]
  have HBS : Hid _ := hbase
  obtain ⟨a0, cap, rfl, hcells⟩ := hTr.h
  have HCE : Hid _ := hcells
  obtain ⟨nT, hnT⟩ : ∃ m, T.length = m := ⟨_, rfl⟩
  have HNT : Hid (T.length = nT) := hnT
  rw [hnT] at HCE HBS hmax ⊢
  unfold maxLen at hmax
  clear hT hown hall hbase hcells hTr hnT hB
  gi_upto_region 1 with (fail)
  obtain ⟨w2, hw2⟩ : ∃ X, w1.alloc (Obj.cells #[.int .i64 x, .int .i64 (p : Int)] 40) = X := ⟨_, rfl⟩
  have hb2 : Below w1.heap.size w1 w2 := by rw [← hw2]; exact (Below.refl _ w1).alloc (Nat.le_refl _) _
  have HJ2 : Hid (J [] w2) := HJ.out _ _ _ H0.out (hb1.trans (hb2.mono hb1.size))
  have hW2 : W.heap.size ≤ w2.heap.size := Nat.le_trans hb1.size hb2.size
  have HCE2 : Hid (0 < nT → ∃ g, a0 = some ⟨g, 0, none⟩ ∧ W.heap.size ≤ g ∧ ∀ (i : Nat) t, T[i]? = some t →
      w2.cell? ⟨g, i * 4, none⟩ = some (.int .i64 t.k) ∧ w2.cell? ⟨g, i * 4 + 1, none⟩ = some (.string (bs t.tx)) ∧ w2.cell? ⟨g, i * 4 + 2, none⟩ = some (.int .i64 t.n) ∧ w2.cell? ⟨g, i * 4 + 3, none⟩ = some (.int .i64 (t.p : Int))) := by
    intro h
    obtain ⟨g, e2, hg, hcc⟩ := HCE.out h
    refine ⟨g, e2, HBS.out g cap (by rw [e2]), fun i t ht => ?_⟩
    obtain ⟨c0, c1, c2, c3⟩ := hcc i t ht
    exact ⟨(hb2.cell (p := ⟨g, i * 4, none⟩) hg).trans c0, (hb2.cell (p := ⟨g, i * 4 + 1, none⟩) hg).trans c1, (hb2.cell (p := ⟨g, i * 4 + 2, none⟩) hg).trans c2, (hb2.cell (p := ⟨g, i * 4 + 3, none⟩) hg).trans c3⟩
  rw [hw2]
  clear hw2 hb2 HCE HBS H0 hb1
  gi_wp2
  gi_loopw [14] (fun i wr => ∃ k : Nat, i = .int .i64 (k : Int) ∧ k ≤ nT ∧ W.heap.size ≤ wr.heap.size ∧ Hid (J (T.take k) wr) ∧ Hid (KA W.heap.size w2 wr)) (fun i _ => nT - (intOf i).toNat)
  case atStart => exact ⟨0, rfl, Nat.zero_le _, hW2, HJ2, KA.refl _ _⟩
  case round =>
    obtain ⟨k, rfl, hk, hWr, HJk, HK⟩ := hrel
    by_cases hlt : k < nT
    · have hlt' : (k : Int) < (nT : Int) := by omega
      obtain ⟨g, rfl, hWg, hcc⟩ := HCE2.out (by omega)
      obtain ⟨tk, htk⟩ : ∃ tk, T[k]? = some tk := ⟨_, List.getElem?_eq_getElem (by rw [HNT.out]; exact hlt)⟩
      obtain ⟨c0, c1, c2, c3⟩ := hcc k tk htk
      have d0 := HK.out.cell hWg c0
      have d1 := HK.out.cell hWg c1
      have d2 := HK.out.cell hWg c2
      have d3 := HK.out.cell hWg c3
      have HTK : Hid (T.take (k + 1) = T.take k ++ [tk]) := by unfold Hid; rw [List.take_add_one, htk]; rfl
      have HFL : Hid (∃ r, T.take k ++ [tk] ++ r = T) := by
        refine ⟨T.drop (k + 1), ?_⟩
        rw [← HTK.out, List.take_append_drop]
      have HVAL : Hid (tk.val = .agg #[.int .i64 tk.k, .string (bs tk.tx), .int .i64 tk.n, .int .i64 (tk.p : Int)]) := rfl
      obtain ⟨tv, htv⟩ : ∃ tv, tk.val = tv := ⟨_, rfl⟩
      generalize tk.k = x0 at d0 HVAL
      generalize bs tk.tx = x1 at d1 HVAL
      generalize tk.n = x2 at d2 HVAL
      generalize (tk.p : Int) = x3 at d3 HVAL
      have hwk : IntKind.i64.wrap ((k : Int) + 1) = (k : Int) + 1 := by rw [IntKind.wrap_i64]; omega
      obtain ⟨w3, hw3⟩ : ∃ X, wr.alloc (Obj.cells #[.int .i64 x0, .string x1, .int .i64 x2, .int .i64 x3] 23) = X := ⟨_, rfl⟩
      have hb3 : Below wr.heap.size wr w3 := by rw [← hw3]; exact (Below.refl _ wr).alloc (Nat.le_refl _) _
      obtain ⟨fn, tmps, assign, body, hy, hRd⟩ := HY.out (n - 1) (T.take k) tk w3 HFL.out (Nat.le_trans hWr hb3.size) (HJ.out _ _ _ HJk.out hb3)
      rw [HVAL.out] at hy
      have hkb : KA W.heap.size wr w3 := KA.of_below _ hb3
      have HKB : Hid _ := hkb
      have HRD : Hid _ := hRd
      have HW3 : Hid _ := hw3
      rw [← hw3] at hy
      clear hcc htk c0 c1 c2 c3 htv hb3 hkb hRd hw3
      gi_wp2
      refine ⟨(fun h => nomatch h), RoundIn.mono (by rw [HW3.out]; exact HRD.out) ?_⟩
      rintro e w' ⟨(⟨rfl, hJ'⟩ | ⟨rfl, hJ'⟩), hka⟩
      · gi_wp2
        go_roundw
        case rel => exact ⟨k + 1, by go_num, by omega, Nat.le_trans (Nat.le_trans hWr HKB.out.size) hka.size, by unfold Hid; rw [HTK.out]; exact hJ', (HK.out.trans HKB.out).trans hka⟩
        case measure => simp [intOf]; omega
      · gi_wp2
        exact ⟨rfl, _, results_none rfl _ _ _, ⟨_, rfl⟩, .inr hJ'⟩
    · have hlt' : ¬ (k : Int) < (nT : Int) := by omega
      have hfin : (∃ v, Ending.returned (Value.tuple #[]) = .returned v) ∧ (J (allT b).1 wr ∨ Jx wr) := ⟨⟨_, rfl⟩, .inl (by rw [HALL.out]; have := HJk.out; rw [List.take_of_length_le (by rw [HNT.out]; omega)] at this; exact this)⟩
      gi_wp2
      go_end0
      exact hfin
end Go.Proofs.YtokcbiafajpmoaaDoor
