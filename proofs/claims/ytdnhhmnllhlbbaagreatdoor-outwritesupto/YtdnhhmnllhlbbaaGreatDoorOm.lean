/-
  What is proved here: Sets as text: setText of package out.
-/
import Derived.Test.YtdnhhmnllhlbbaaGreatDoorOjj
import Derived.Test.YtdnhhmnllhlbbaaGreatDoorCClj
import Derived.Lib.AppendStr
import Derived.Lib.SlBytesConst
namespace Go.Proofs.YtdnhhmnllhlbbaaGreatDoor
open Go.RowKit Go.Shelf
set_option linter.unusedVariables false
set_option linter.unusedSimpArgs false

/-- Texts, one behind the other, with a text between. -/
def sepT (s : List UInt8) : List (List UInt8) → List UInt8
  | [] => []
  | [p] => p
  | p :: q :: r => p ++ s ++ sepT s (q :: r)
theorem sepT_snoc (s : List UInt8) (ps : List (List UInt8)) (p : List UInt8) : sepT s (ps ++ [p]) = sepT s ps ++ (if ps.length = 0 then [] else s) ++ p := by
  induction ps with
  | nil => rfl
  | cons q t ih =>
    cases t with
    | nil => rfl
    | cons r u =>
      rw [List.cons_append, List.cons_append]
      show q ++ s ++ sepT s (r :: (u ++ [p])) = q ++ s ++ sepT s (r :: u) ++ _ ++ p
      rw [show r :: (u ++ [p]) = (r :: u) ++ [p] from rfl, ih]
      simp [List.append_assoc]
theorem sepT_len (s : List UInt8) (m : Nat) (ps : List (List UInt8)) (h : ∀ p ∈ ps, p.length + s.length ≤ m) : (sepT s ps).length ≤ m * ps.length := by
  induction ps with
  | nil => simp [sepT]
  | cons q t ih =>
    have h1 := h q (List.mem_cons_self ..)
    have h2 := ih (fun p hp => h p (List.mem_cons_of_mem _ hp))
    cases t with
    | nil => simp [sepT]; omega
    | cons r u =>
      show (q ++ s ++ sepT s (r :: u)).length ≤ m * (u.length + 1 + 1)
      simp only [List.length_append, List.length_cons] at h2 ⊢
      rw [Nat.mul_succ]
      omega
/-- Is a set written as a span? -/
def spanB (l : List Int) : Bool := decide (2 ≤ l.length) && decide (l.getD (l.length - 1) 0 - l.getD 0 0 = (l.length : Int) - 1)
/-- A set as text. -/
def setT (l : List Int) : List UInt8 := if spanB l then spanT (l.getD 0 0) (l.getD (l.length - 1) 0) else 123 :: sepT [44] (l.map Lib.itoa) ++ [125]
/-- Cells are stored ahead of a frozen tail. -/
theorem store_tail (P : Program) (g o : Nat) (t : TypeId) (fz : Nat × Nat) : ∀ (vs : List Value) (i : Nat) (cur : Array Value) (w : World), w.heap[g]? = some (.cells cur t fz) → o + i + vs.length ≤ fz.1 → o + i + vs.length ≤ cur.size → (∀ v ∈ vs, v.oneCell' = true) →
    (storeCells ⟨g, o, none⟩ vs i).run P w = .ok () (w.setRow g (cur.toList.take (o + i) ++ vs ++ cur.toList.drop (o + i + vs.length)).toArray)
  | [], i, cur, w, hg, _, _, _ => by
    simp only [storeCells, List.append_nil, List.length_nil, Nat.add_zero, List.take_append_drop, Array.toArray_toList]
    rw [setRow_self w g cur t fz hg]
    rfl
  | v :: rest, i, cur, w, hg, hfz, hl, h1 => by
    have hi : o + i < cur.size := by simp at hl; omega
    have hadd : (⟨g, o, none⟩ : Addr).add i = ⟨g, o + i, none⟩ := by unfold Addr.add; split <;> simp_all
    have hcell : w.cell? ⟨g, o + i, none⟩ = some cur[o + i] := by simp [World.cell?, hg, hi]
    have hfro : w.frozen? ⟨g, o + i, none⟩ = false := by
      obtain ⟨lo, hi'⟩ := fz
      simp only [World.frozen?, hg, Bool.and_eq_false_iff, decide_eq_false_iff_not]
      left
      simp only [List.length_cons] at hfz
      omega
    have hst : (store ((⟨g, o, none⟩ : Addr).add i) v).run P w = .ok () (w.setRow g (cur.setIfInBounds (o + i) v)) := by
      rw [hadd, run_store P w _ v _ (h1 v (by simp)), hcell]
      simp [hfro, setCell_eq_setRow w g (o + i) cur t fz v hg]
    have ih := store_tail P g o t fz rest (i + 1) (cur.setIfInBounds (o + i) v) (w.setRow g (cur.setIfInBounds (o + i) v)) (setRow_heap w g cur _ t _ hg) (by simp at hfz ⊢; omega) (by simp at hl ⊢; omega) (fun x hx => h1 x (by simp [hx]))
    simp only [storeCells, Sem.run_bind, hst, Result.andThen_ok, ih, setRow_setRow]
    congr 3
    have e := list_seg_step cur.toList (o + i) v rest (by simp at hl ⊢; omega)
    simpa [Array.toList_setIfInBounds, Nat.add_assoc] using e
/-- Bytes in own memory: a row, or what a text's conversion lays, at whose end a mark lies. -/
def By (w : World) (B : Nat) (v : Value) (D : List UInt8) : Prop :=
  w.ownsRow B 5 1 v D.length (Lib.byteCells D) ∨ (∃ g cap cur fz, v = .slice (some ⟨g, 0, none⟩) D.length cap ∧ B ≤ g ∧ w.heap[g]? = some (.cells cur 5 fz) ∧ D.length ≤ cap ∧ cap ≤ fz.1 ∧ cur.size = cap ∧ cur.toList.take D.length = Lib.byteCells D)
theorem By.below {w w' : World} {B : Nat} {v : Value} {D : List UInt8} (h : By w B v D) (hb : Below w.heap.size w w') : By w' B v D := by
  rcases h with h | ⟨g, cap, cur, fz, e, h1, h2, h3⟩
  · exact .inl (own_below h hb)
  · exact .inr ⟨g, cap, cur, fz, e, h1, (hb.block g (Array.getElem?_eq_some_iff.1 h2).1).trans h2, h3⟩
theorem By.cell {w : World} {B g o n c : Nat} {D : List UInt8} (h : By w B (.slice (some ⟨g, o, none⟩) n c) D) : o = 0 ∧ n = D.length ∧ B ≤ g ∧ g < w.heap.size ∧ ∀ j u, (Lib.byteCells D)[j]? = some u → w.cell? ⟨g, j, none⟩ = some u := by
  rcases h with h | ⟨g', cap, cur, fz, e, h1, h2, h3, h4, h5, h6⟩
  · have hc := h.cells (g := g) rfl
    rcases h.2 with ⟨q, _⟩ | ⟨g', cap, cur, q, hB, hg, _⟩
    · cases q
    · injection q with q1 q2 q3
      injection q1 with q1
      injection q1 with q1 q4 _
      subst q1
      refine ⟨q4, q2, hB, (Array.getElem?_eq_some_iff.1 hg).1, fun j u hu => ?_⟩
      have := hc j u hu
      rwa [Addr.add_lit, Nat.zero_add] at this
  · injection e with q1 q2 q3
    injection q1 with q1
    injection q1 with q1 q4 _
    subst q1
    refine ⟨q4, q2, h1, (Array.getElem?_eq_some_iff.1 h2).1, fun j u hu => ?_⟩
    have hj : (cur.toList.take D.length)[j]? = some u := by rw [h6]; exact hu
    rw [List.getElem?_take] at hj
    split at hj
    · simpa [World.cell?, h2] using hj
    · cases hj
theorem conv_by {w : World} {B : Nat} {v : Value} {D : List UInt8} (h : By w B v D) (h0 : 0 < D.length) : ∃ p c, v = .slice p D.length c ∧ ∀ w' : World, Below w.heap.size w w' → (convert 60 9 (.slice p D.length c)).run Tryz.prog w' = .ok (.string (bs D)) w' := by
  have hs : ∃ g c, v = .slice (some ⟨g, 0, none⟩) D.length c := by
    rcases h with h | ⟨g, cap, cur, fz, e, _⟩
    · rcases h.2 with ⟨_, q⟩ | ⟨g, cap, cur, q, _⟩
      · omega
      · exact ⟨g, cap, q⟩
    · exact ⟨g, cap, e⟩
  obtain ⟨g, c, rfl⟩ := hs
  obtain ⟨_, _, hB, hg, hc⟩ := h.cell
  refine ⟨_, _, rfl, fun w' hb => run_convert_bytes_back (P := Tryz.prog) w' 60 9 5 ⟨g, 0, none⟩ _ D Tryz.underlying60 Tryz.underlying5 Tryz.underlying9 fun j hj => ?_⟩
  rw [Addr.add_lit, Nat.zero_add]
  exact (hb.cell (p := ⟨g, j, none⟩) hg).trans (hc j _ (by simp [Lib.byteCells, hj]))
theorem grown_own (w : World) (B old : Nat) (D l : List UInt8) (ho : old < D.length + l.length) (hlen : D.length + l.length ≤ 100000000000000) (hB : B ≤ w.heap.size) :
    (w.drew.alloc (.cells ((Lib.byteCells D).toArray ++ (Lib.strCells (bs l)).toArray ++ Builtin.zeroCells (Value.int .u8 0).cells (grownCap w (D.length + (bs l).size) old 5 - (D.length + (bs l).size))) 5)).ownsRow B 5 1
        (.slice (some ⟨w.heap.size, 0, none⟩) (D.length + (bs l).size) (grownCap w (D.length + (bs l).size) old 5)) (D ++ l).length (Lib.byteCells (D ++ l)) := by
  have hs : (bs l).size = l.length := bs_size l
  have hxl : (Lib.byteCells D).length = D.length := by simp [Lib.byteCells]
  have hcl : Lib.strCells (bs l) = Lib.byteCells l := by simp [Lib.strCells, Lib.byteCells, bs]
  have hge := grownCap_ge w (D.length + (bs l).size) old 5
  have hcm : grownCap w (D.length + (bs l).size) old 5 ≤ maxLen := grownCap_le_maxLen w _ old 5 (by rw [hs]; unfold maxLen; omega)
  refine ⟨by simp [Lib.byteCells], .inr ⟨w.heap.size, _, _, by rw [hs, List.length_append], hB, heap_alloc_new w.drew _, ?_, hcm, ?_, ?_⟩⟩
  · rw [List.length_append, ← hs]; exact hge
  · have hz1 : (Value.int IntKind.u8 0).cells.size = 1 := rfl
    simp only [Array.size_append, List.size_toArray, size_zeroCells, hz1, hxl, Lib.strCells_length]
    omega
  · simp only [Array.toList_append, List.append_assoc, hcl]
    rw [← List.append_assoc, Nat.mul_one, Lib.byteCells_append]
    have : (D ++ l).length = (Lib.byteCells D ++ Lib.byteCells l).length := by simp [Lib.byteCells]
    rw [this]
    exact List.take_left
/-- A text is put behind bytes. -/
theorem run_app_by {w : World} (ty : TypeId) (base : Nat) (v : Value) (D l : List UInt8) (hown : By w base v D) (hlen : D.length + l.length ≤ 100000000000000) (hbase : base ≤ w.heap.size) :
    ∃ v' w', (Builtin.append_ #[60, 9] ty #[v, .string (bs l)]).run Tryz.prog w = .ok v' w' ∧ By w' base v' (D ++ l) ∧ Below base w w' ∧ Fr w w' := by
  obtain ⟨i0, hi0, hz0, hz1, hz2⟩ := info_parts Tryz.info5
  have hss : (bs l).size = l.length := bs_size l
  rcases hown with hown | ⟨g, cap, cur, fz, rfl, hB, hg, hn, hf, hcs, ht⟩
  · obtain ⟨v', w', hr, h1, h2, _⟩ := Lib.run_append_own_string (P := Tryz.prog) w base 60 9 ty 5 i0 Tryz.underlying60 Tryz.underlying9 hi0 hz0 hz1 hz2 v D.length _ hown (bs l) (by unfold maxLen; omega) (by omega) hbase
    refine ⟨v', w', hr, .inl ?_, (Below.refl base w).grown h2 hbase (fun k e => (World.ownsRow.lt hown k e).1), Fr.grown hown h2⟩
    rw [List.length_append, Lib.byteCells_append]
    exact h1
  · have hcl : Lib.strCells (bs l) = Lib.byteCells l := by simp [Lib.strCells, Lib.byteCells, bs]
    by_cases hroom : D.length + l.length ≤ cap
    · have hr := store_tail Tryz.prog g D.length 5 fz (Lib.strCells (bs l)) 0 cur w hg (by rw [Lib.strCells_length]; omega) (by rw [Lib.strCells_length]; omega) (Lib.strCells_oneCell _)
      simp only [Nat.add_zero, Lib.strCells_length] at hr
      have hfc := Lib.run_firstCells_string (P := Tryz.prog) w 1 (bs l)
      have hr2 : (Builtin.append_ #[60, 9] ty #[.slice (some ⟨g, 0, none⟩) D.length cap, .string (bs l)]).run Tryz.prog w = .ok (.slice (some ⟨g, 0, none⟩) (D.length + (bs l).size) cap) (w.setRow g (cur.toList.take D.length ++ Lib.strCells (bs l) ++ cur.toList.drop (D.length + (bs l).size)).toArray) := by
        have hroom' : D.length + (bs l).size ≤ cap := by omega
        simp [Builtin.append_, run_underlying Tryz.underlying60, run_underlying Tryz.underlying9, sizeOf, typeInfo, hi0, hz1, Builtin.lenOf, hroom', hfc, Addr.add_lit, hr]
      refine ⟨_, _, hr2, .inr ⟨g, cap, _, fz, by rw [hss, List.length_append], hB, setRow_heap w g cur _ 5 fz hg, by rw [List.length_append]; omega, hf, ?_, ?_⟩, ?_, ?_⟩
      · simp only [List.size_toArray, List.length_append, List.length_take, List.length_drop, Lib.strCells_length, Array.length_toList]
        omega
      · rw [ht, hcl, Lib.byteCells_append]
        have : (D ++ l).length = (Lib.byteCells D ++ Lib.byteCells l).length := by simp [Lib.byteCells]
        rw [this]
        exact List.take_left
      · exact ⟨rfl, rfl, rfl, by simp, fun k hk => setRow_other w g k _ (by omega)⟩
      · exact fun k cs t h1 h2 _ => setRow_other w g k _ (fun e => by rw [e, hg] at h1; injection h1 with h1; injection h1 with _ h1 _; exact h2 h1.symm)
    · have hr := Lib.run_append_grow_string (P := Tryz.prog) (w := w) 60 9 ty 5 i0 (.int .u8 0) Tryz.underlying60 Tryz.underlying9 hi0 hz0 ⟨g, 0, none⟩ D.length cap (Lib.byteCells D) (by rw [hz1]; simp [Lib.byteCells])
        (fun j u hu => by
          rw [Addr.add_lit, Nat.zero_add]
          exact (By.cell (B := base) (.inr ⟨g, cap, cur, fz, rfl, hB, hg, hn, hf, hcs, ht⟩)).2.2.2.2 j u hu) (bs l) (by omega) (by omega) (by rw [hz2]; exact growslice_fits (by omega) (by omega))
      exact ⟨_, _, hr, .inl (grown_own w base cap D l (by omega) hlen hbase), (Below.refl base w).drew.alloc hbase _, Fr.of_below ((Below.refl w.heap.size w).drew.alloc (Nat.le_refl _) _)⟩
theorem wpList_app_by {ops : Array Oper} {rest : List Oper} {o : Oper} {a : Act} {Q : Exit → Act → World → Prop} {w : World} (hgd : o.guard = none) (s x : Operand)
    (ho : o.op = .call { callee := .builtin .append, args := #[s, x], argTypes := #[60, 9] })
    (base : Nat) (v : Value) (D l : List UInt8) (hs : a.eval s = v) (hown : By w base v D) (hx : a.eval x = .string (bs l))
    (hlen : D.length + l.length ≤ 100000000000000) (hbase : base ≤ w.heap.size)
    (h : ∀ v' w', By w' base v' (D ++ l) → Below base w w' → Fr w w' → wpList Tryz.prog ops Q rest (a.put o.dst v') w') : wpList Tryz.prog ops Q (o :: rest) a w :=
  wpList_plain hgd fun _ hK => by
    obtain ⟨v', w', hr, h1, h2, h3⟩ := run_app_by o.type base v D l hown hlen hbase
    unfold Oper.wp execOp
    simp only [ho, resolve, invoke, builtin, Sem.run_bind, Sem.run_pure, Result.andThen_ok, List.map_toArray, List.map_cons, List.map_nil, hs, hx, hr]
    exact hK _ _ (h v' w' h1 h2 h3)
theorem step_by {ops : Array Oper} {o : Oper} {a : Act} {K : Act → World → Prop} {Q : Exit → Act → World → Prop} {E : Prop} {w : World} (hgd : o.guard = none) (s x : Operand)
    (ho : o.op = .call { callee := .builtin .append, args := #[s, x], argTypes := #[60, 9] })
    (base : Nat) (v : Value) (D l : List UInt8) (hs : a.eval s = v) (hown : By w base v D) (hx : a.eval x = .string (bs l))
    (hlen : D.length + l.length ≤ 100000000000000) (hbase : base ≤ w.heap.size)
    (h : ∀ v' w', By w' base v' (D ++ l) → Below base w w' → Fr w w' → K (a.put o.dst v') w') : if Region.wanted o (yielded ops a.tmps) = true then Oper.wp Tryz.prog o a w K Q else E := by
  have hw : Region.wanted o (yielded ops a.tmps) = true := by simp [Region.wanted, hgd]
  rw [if_pos hw]
  obtain ⟨v', w', hr, h1, h2, h3⟩ := run_app_by o.type base v D l hown hlen hbase
  unfold Oper.wp execOp
  simp only [ho, resolve, invoke, builtin, Sem.run_bind, Sem.run_pure, Result.andThen_ok, List.map_toArray, List.map_cons, List.map_nil, hs, hx, hr]
  exact h v' w' h1 h2 h3
theorem By.const (w : World) (D : List UInt8) (B : Nat) (hB : B ≤ w.heap.size) : By (w.alloc (.cells (Lib.byteCells D).toArray 5 (D.length, D.length + 1))) B (.slice (some ⟨w.heap.size, 0, none⟩) D.length D.length) D := .inr ⟨_, _, _, _, rfl, hB, World.alloc_heap_new w _, Nat.le_refl _, Nat.le_refl _, by simp [Lib.byteCells], List.take_of_length_le (by simp [Lib.byteCells])⟩

set_option maxRecDepth 100000 in
set_option maxHeartbeats 4000000 in
theorem set53 {W : World} {s : Value} {l : List Int} (h : Si 0 W s l) (hl : l.length ≤ 1000) (hb : ∀ x ∈ l, -1000000000 ≤ x ∧ x ≤ 1000000000) (hT : Tens W) :
    Calls Tryz.prog 53 #[s] W fun e w' => e = .returned (.string (bs (setT l))) ∧ Below W.heap.size W w' := by
  obtain ⟨a, c, rfl, h'⟩ := h
  have HS : Hid (Si 0 W (.slice a l.length c) l) := ⟨a, c, rfl, h'⟩
  have HT : Hid (Tens W) := hT
  have HL : Hid (∀ x ∈ l, -1000000000 ≤ x ∧ x ≤ 1000000000) := hb
  clear h' hT hb
  obtain ⟨n, hn⟩ : ∃ n, l.length = n := ⟨_, rfl⟩
  have HN : Hid (l.length = n) := hn
  rw [hn] at HS hl ⊢
  clear hn
  have hw1 : IntKind.i64.wrap ((n : Int) - 1) = (n : Int) - 1 := by rw [IntKind.wrap_i64]; omega
  have HP0 : Hid (Below W.heap.size W W.drew) := (Below.refl _ _).drew
  have HCE : Hid (0 < n → ∃ b off, a = some ⟨b, off, none⟩ ∧ b < W.heap.size ∧ ∀ X, Below W.heap.size W X → ∀ i x, l[i]? = some x → X.cell? ⟨b, off + i, none⟩ = some (.int .i64 x)) := fun h0 => by
    obtain ⟨a', c', e, h'⟩ := HS.out
    rw [HN.out] at e h'
    injection e with e _ _
    obtain ⟨b, off, e1, _, e2, e3⟩ := h' h0
    exact ⟨b, off, e.trans e1, e2, fun X hX i x hx => (hX.cell (p := ⟨b, off + i, none⟩) e2).trans (e3 i x hx)⟩
  clear HS
  by_cases hn2 : 2 ≤ n
  focus
    obtain ⟨x0, hx0⟩ : ∃ x, l[0]? = some x := ⟨_, List.getElem?_eq_getElem (by have := HN.out; omega)⟩
    obtain ⟨x1, hx1⟩ : ∃ x, l[n - 1]? = some x := ⟨_, List.getElem?_eq_getElem (by have := HN.out; omega)⟩
    have b0 := HL.out x0 (List.mem_of_getElem? hx0)
    have b1 := HL.out x1 (List.mem_of_getElem? hx1)
    have HX0 : Hid (l[0]? = some x0) := hx0
    have HX1 : Hid (l[n - 1]? = some x1) := hx1
    obtain ⟨b, off, rfl, hbl, hcell⟩ := HCE.out (by omega)
    have HC : Hid (∀ X, Below W.heap.size W X → ∀ i x, l[i]? = some x → X.cell? ⟨b, off + i, none⟩ = some (.int .i64 x)) := hcell
    have hw2 : IntKind.i64.wrap (x1 - x0) = x1 - x0 := by rw [IntKind.wrap_i64]; omega
    have hgt : (1 : Int) < (n : Int) := by omega
    have HSB : Hid (spanB l = decide (x1 - x0 = (n : Int) - 1)) := by
      unfold Hid spanB
      rw [HN.out, List.getD_eq_getElem?_getD, List.getD_eq_getElem?_getD, HX0.out, HX1.out]
      simp [hn2]
    clear hx0 hx1 hcell
    by_cases hs : x1 - x0 = (n : Int) - 1
    focus
      have HSP : Hid (setT l = spanT x0 x1) := by
        unfold Hid setT
        rw [HSB.out, if_pos (by simpa using hs), HN.out, List.getD_eq_getElem?_getD, List.getD_eq_getElem?_getD, HX0.out, HX1.out]
        rfl
      go_enter Tryz.func53, Tryz.ntmps53
      go_upto_region 2 with (fail)
      refine wp_region_held_drew (S := fun X : World => Below W.heap.size W X) (by kernel_rfl) (HP0.out) (fun hHeld => ?_)
      refine tkI 0 rfl hHeld ?_
      try simp only [Act.put, zS, eZ, eS]
      refine tkI 1 rfl hHeld ?_
      try simp only [Act.put, zS, eZ, eS]
      refine tkI 2 rfl hHeld ?_
      try simp only [Act.put, zS, eZ, eS]
      refine tkI 3 rfl hHeld ?_
      try simp only [Act.put, zS, eZ, eS]
      refine tkI 4 rfl hHeld ?_
      try simp only [Act.put, zS, eZ, eS]
      refine tkI 5 rfl hHeld ?_ (hy := by intro w hSw; have c1 : (1:Int) ≤ (n:Int) := (by omega); have c2 : (n:Int) - 1 < n := (by omega); go_simp <;> with_reducible rfl)
      try simp only [Act.put, zS, eZ, eS]
      refine tkI 6 rfl hHeld ?_ (hy := by intro w hSw; have x6 := HC.out w hSw (n - 1) x1 HX1.out; have e6 : off + (n - 1) = off + (n - 1) := rfl; go_simp <;> with_reducible rfl)
      try simp only [Act.put, zS, eZ, eS]
      refine tkI 7 rfl hHeld ?_
      try simp only [Act.put, zS, eZ, eS]
      refine tkI 8 rfl hHeld ?_ (hy := by intro w hSw; have c1 : 0 < n := (by omega); go_simp <;> with_reducible rfl)
      try simp only [Act.put, zS, eZ, eS]
      refine tkI 9 rfl hHeld ?_ (hy := by intro w hSw; have x9 : w.cell? ⟨b, off, none⟩ = some (.int .i64 x0) := HC.out w hSw 0 x0 HX0.out; go_simp <;> with_reducible rfl)
      try simp only [Act.put, zS, eZ, eS]
      refine tkI 10 rfl hHeld ?_
      try simp only [Act.put, zS, eZ, eS]
      refine tkI 11 rfl hHeld ?_
      try simp only [Act.put, zS, eZ, eS]
      refine tkI 12 rfl hHeld ?_
      try simp only [Act.put, zS, eZ, eS]
      refine tkI 13 rfl hHeld ?_
      try simp only [Act.put, zS, eZ, eS]
      refine wpAnyH_done (by kernel_rfl) ?_ _
      have HP1 : Hid (Below W.heap.size W W.drew.drew) := HP0.out.drew
      go_upto_region 3 with (fail)
      refine wp_region_held_drew (S := fun X : World => Below W.heap.size W X) (by kernel_rfl) (HP1.out) (fun hHeld => ?_)
      refine tkI 0 rfl hHeld ?_
      try simp only [Act.put, zS, eZ, eS]
      refine tkI 1 rfl hHeld ?_ (hy := by intro w hSw; have c1 : 0 < n := (by omega); go_simp <;> with_reducible rfl)
      try simp only [Act.put, zS, eZ, eS]
      refine tkI 2 rfl hHeld ?_ (hy := by intro w hSw; have x2 : w.cell? ⟨b, off, none⟩ = some (.int .i64 x0) := HC.out w hSw 0 x0 HX0.out; go_simp <;> with_reducible rfl)
      try simp only [Act.put, zS, eZ, eS]
      refine tkI 3 rfl hHeld ?_
      try simp only [Act.put, zS, eZ, eS]
      refine tkI 4 rfl hHeld ?_
      try simp only [Act.put, zS, eZ, eS]
      refine tkI 5 rfl hHeld ?_ (hy := by intro w hSw; have c1 : (1:Int) ≤ (n:Int) := (by omega); have c2 : (n:Int) - 1 < n := (by omega); go_simp <;> with_reducible rfl)
      try simp only [Act.put, zS, eZ, eS]
      refine tkI 6 rfl hHeld ?_ (hy := by intro w hSw; have x6 := HC.out w hSw (n - 1) x1 HX1.out; have e6 : off + (n - 1) = off + (n - 1) := rfl; go_simp <;> with_reducible rfl)
      try simp only [Act.put, zS, eZ, eS]
      refine rdy 7 rfl fun K hK => ?_
      go_simp
      refine (span50 x0 x1 (by omega) (by omega) (by omega) (by omega) _ (HT.out.self HP1.out)).mono ?_
      rintro e w2 ⟨rfl, hb⟩
      have HP2 : Hid (Below W.heap.size W w2) := HP1.out.trans (hb.mono HP1.out.size)
      clear hb
      clear hHeld; refine hK.out _ _ (HP2.out) fun hHeld => ?_
      clear hK K
      try simp only [Act.put, zS, eZ, eS]
      refine tkI 8 rfl hHeld ?_
      try simp only [Act.put, zS, eZ, eS]
      refine wpAnyH_done (by kernel_rfl) ?_ _
      go_wp2
      go_ret
      exact ⟨by rw [HSP.out]; rfl, HP2.out⟩
    focus
      have HSP : Hid (setT l = 123 :: sepT [44] (l.map Lib.itoa) ++ [125]) := by
        unfold Hid setT
        rw [HSB.out, if_neg (by simpa using hs)]
      have hsb : ((x1 - x0 == (n : Int) - 1) : Bool) = false := by simpa using hs
      go_enter Tryz.func53, Tryz.ntmps53
      go_upto_region 2 with (fail)
      refine wp_region_held_drew (S := fun X : World => Below W.heap.size W X) (by kernel_rfl) (HP0.out) (fun hHeld => ?_)
      refine tkI 0 rfl hHeld ?_
      try simp only [Act.put, zS, eZ, eS]
      refine tkI 1 rfl hHeld ?_
      try simp only [Act.put, zS, eZ, eS]
      refine tkI 2 rfl hHeld ?_
      try simp only [Act.put, zS, eZ, eS]
      refine tkI 3 rfl hHeld ?_
      try simp only [Act.put, zS, eZ, eS]
      refine tkI 4 rfl hHeld ?_
      try simp only [Act.put, zS, eZ, eS]
      refine tkI 5 rfl hHeld ?_ (hy := by intro w hSw; have c1 : (1:Int) ≤ (n:Int) := (by omega); have c2 : (n:Int) - 1 < n := (by omega); go_simp <;> with_reducible rfl)
      try simp only [Act.put, zS, eZ, eS]
      refine tkI 6 rfl hHeld ?_ (hy := by intro w hSw; have x6 := HC.out w hSw (n - 1) x1 HX1.out; have e6 : off + (n - 1) = off + (n - 1) := rfl; go_simp <;> with_reducible rfl)
      try simp only [Act.put, zS, eZ, eS]
      refine tkI 7 rfl hHeld ?_
      try simp only [Act.put, zS, eZ, eS]
      refine tkI 8 rfl hHeld ?_ (hy := by intro w hSw; have c1 : 0 < n := (by omega); go_simp <;> with_reducible rfl)
      try simp only [Act.put, zS, eZ, eS]
      refine tkI 9 rfl hHeld ?_ (hy := by intro w hSw; have x9 : w.cell? ⟨b, off, none⟩ = some (.int .i64 x0) := HC.out w hSw 0 x0 HX0.out; go_simp <;> with_reducible rfl)
      try simp only [Act.put, zS, eZ, eS]
      refine tkI 10 rfl hHeld ?_
      try simp only [Act.put, zS, eZ, eS]
      refine tkI 11 rfl hHeld ?_
      try simp only [Act.put, zS, eZ, eS]
      refine tkI 12 rfl hHeld ?_
      try simp only [Act.put, zS, eZ, eS]
      refine tkI 13 rfl hHeld ?_
      try simp only [Act.put, zS, eZ, eS]
      refine wpAnyH_done (by kernel_rfl) ?_ _
      clear HX0 HX1 HC HSB hbl hw2 hs hsb
  rotate_left 1
  focus
    have hgt : ¬ (1 : Int) < (n : Int) := by omega
    have HSP : Hid (setT l = 123 :: sepT [44] (l.map Lib.itoa) ++ [125]) := by
      unfold Hid setT spanB
      rw [if_neg (by rw [HN.out]; simp [hn2])]
    go_enter Tryz.func53, Tryz.ntmps53
    go_upto_region 2 with (fail)
    refine wp_region_held_drew (S := fun X : World => Below W.heap.size W X) (by kernel_rfl) (HP0.out) (fun hHeld => ?_)
    refine tkI 0 rfl hHeld ?_
    try simp only [Act.put, zS, eZ, eS]
    refine tkI 1 rfl hHeld ?_
    try simp only [Act.put, zS, eZ, eS]
    refine tkI 2 rfl hHeld ?_
    try simp only [Act.put, zS, eZ, eS]
    refine tkU 3 rfl hHeld ?_
    try simp only [Act.put, zS, eZ, eS]
    refine tkU 4 rfl hHeld ?_
    try simp only [Act.put, zS, eZ, eS]
    refine tkU 5 rfl hHeld ?_
    try simp only [Act.put, zS, eZ, eS]
    refine tkU 6 rfl hHeld ?_
    try simp only [Act.put, zS, eZ, eS]
    refine tkU 7 rfl hHeld ?_
    try simp only [Act.put, zS, eZ, eS]
    refine tkU 8 rfl hHeld ?_
    try simp only [Act.put, zS, eZ, eS]
    refine tkU 9 rfl hHeld ?_
    try simp only [Act.put, zS, eZ, eS]
    refine tkU 10 rfl hHeld ?_
    try simp only [Act.put, zS, eZ, eS]
    refine tkU 11 rfl hHeld ?_
    try simp only [Act.put, zS, eZ, eS]
    refine tkU 12 rfl hHeld ?_
    try simp only [Act.put, zS, eZ, eS]
    refine tkI 13 rfl hHeld ?_
    try simp only [Act.put, zS, eZ, eS]
    refine wpAnyH_done (by kernel_rfl) ?_ _

  all_goals
    clear hHeld hw1 hgt hn2
    obtain ⟨W1, hW1⟩ : ∃ q, W.drew = q := ⟨_, rfl⟩
    rw [hW1]
    have HB1 : Hid (Below W.heap.size W W1) := by rw [← hW1]; exact HP0.out
    clear hW1 HP0
    have hcv : (convert 60 60 (.slice (some ⟨W1.heap.size, 0, none⟩) 1 1)).run Tryz.prog (W1.alloc (.cells #[.int .u8 123] 5)) = .ok (.slice (some ⟨W1.heap.size, 0, none⟩) 1 1) (W1.alloc (.cells #[.int .u8 123] 5 (1, 2))) := Lib.run_convert_bytes_const W1 60 5 #[.int .u8 123] 1 1 Tryz.underlying60 Tryz.underlying5
    go_wp2
    clear hcv
    obtain ⟨w2, hw2⟩ : ∃ q, W1.alloc (Obj.cells #[Value.int .u8 123] 5 (1, 2)) = q := ⟨_, rfl⟩
    obtain ⟨g, hg⟩ : ∃ q, W1.heap.size = q := ⟨_, rfl⟩
    have HY2 : Hid (By w2 W.heap.size (.slice (some ⟨g, 0, none⟩) 1 1) [123]) := by rw [← hw2, ← hg]; exact By.const W1 [123] W.heap.size HB1.out.size
    have HB2 : Hid (Below W.heap.size W w2) := by rw [← hw2]; exact HB1.out.alloc HB1.out.size _
    rw [hw2, hg]
    clear hw2 hg HB1
    go_loopw [4, 36] (fun o i wr => ∃ (k : Nat), k ≤ n ∧ i = .int .i64 (k : Int) ∧ Hid (By wr W.heap.size o (123 :: sepT [44] ((l.take k).map Lib.itoa))) ∧ Hid (Below W.heap.size W wr)) (fun _ i _ => n - (intOf i).toNat)
    case atStart => exact ⟨0, Nat.zero_le _, rfl, HY2, HB2⟩
    case round =>
      clear HY2 HB2
      obtain ⟨k, hk, rfl, HY, HB⟩ := hrel
      by_cases hlt : k < n
      · have hlt' : (k : Int) < (n : Int) := by omega
        obtain ⟨x, hx⟩ : ∃ x, l[k]? = some x := ⟨_, List.getElem?_eq_getElem (by rw [HN.out]; exact hlt)⟩
        obtain ⟨b', off', e9, hb', hcl⟩ := HCE.out (by omega)
        cases e9
        have y0 := hcl wr HB.out k x hx
        have bx := HL.out x (List.mem_of_getElem? hx)
        have lx := Lib.itoa_length_le x (by omega) (by omega)
        have hD9 : (sepT [44] ((l.take k).map Lib.itoa)).length ≤ 22000 := by
          refine Nat.le_trans (sepT_len [44] 22 _ fun p hp => ?_) ?_
          · obtain ⟨y, hy, rfl⟩ := List.mem_map.1 hp
            have by' := HL.out y (List.mem_of_mem_take hy)
            have := Lib.itoa_length_le y (by omega) (by omega)
            simp; omega
          · simp; omega
        have HTK : Hid (123 :: sepT [44] ((l.take (k + 1)).map Lib.itoa) = (123 :: sepT [44] ((l.take k).map Lib.itoa)) ++ (if k = 0 then [] else [44]) ++ Lib.itoa x) := by
          have hln : ((l.take k).map Lib.itoa).length = k := by have := HN.out; simp; omega
          unfold Hid
          rw [List.take_add_one, hx, Option.toList_some, List.map_append, List.map_singleton, sepT_snoc, hln]
          rfl
        obtain ⟨D, hD⟩ : ∃ D, 123 :: sepT [44] ((l.take k).map Lib.itoa) = D := ⟨_, rfl⟩
        have hDl : D.length ≤ 22001 := by rw [← hD, List.length_cons]; omega
        rw [hD] at HY HTK
        have hwk : IntKind.i64.wrap ((k : Int) + 1) = (k : Int) + 1 := by rw [IntKind.wrap_i64]; omega
        clear hD hD9 hcl hx hb'
        by_cases hk0 : ¬ 0 < k
        focus
          obtain ⟨E, hE⟩ : ∃ E, D = E := ⟨_, rfl⟩
          have HNEW : Hid (123 :: sepT [44] ((l.take (k + 1)).map Lib.itoa) = E ++ Lib.itoa x) := by rw [← hE]; unfold Hid; rw [HTK.out, if_pos (by omega), List.append_nil]
          have hEl : E.length ≤ 22002 := by rw [← hE]; omega
          have HB3 : Hid (Below W.heap.size W wr) := HB
          have HY3 := HY
          rw [hE] at HY3
          clear HY HB HTK hDl
          go_wp2_with fail
          clear y0 hE hk0
        rotate_left 1
        focus
          have hd0 : 0 < k := by omega
          obtain ⟨E, hE⟩ : ∃ E, D ++ [44] = E := ⟨_, rfl⟩
          have HNEW : Hid (123 :: sepT [44] ((l.take (k + 1)).map Lib.itoa) = E ++ Lib.itoa x) := by rw [← hE]; unfold Hid; rw [HTK.out, if_neg (by omega)]
          have hEl : E.length ≤ 22002 := by rw [← hE]; simp; omega
          clear hk0
          go_wp2_with (at_builtin; refine wpList_app_by rfl (.tmp 43) (.const (.string ⟨#[44]⟩)) rfl W.heap.size _ D [44] rfl HY.out rfl (by simp; omega) HB.out.size ?_; intro v3 w3 hown3 hb3 _; refine Hid.out ?_)
          refine (show Hid _ from ?_)
          unfold Hid
          have HB3 : Hid (Below W.heap.size W w3) := HB.out.trans hb3
          have HY3 : Hid (By w3 W.heap.size v3 E) := by rw [← hE]; exact hown3
          clear hown3 hb3 HB HY y0 hE hd0 HTK hDl
          go_wp2_with fail
        all_goals
          refine (digits52 x (by omega) (by omega) _ (HT.out.self HB3.out)).mono ?_
          rintro e w4 ⟨rfl, hb4⟩
          have HB4 : Hid (Below W.heap.size W w4) := HB3.out.trans (hb4.mono HB3.out.size)
          have HY4 : Hid _ := HY3.out.below hb4
          clear hb4 HB3 HY3
          go_wp2_with (at_builtin; refine wpList_app_by rfl (.tmp 45) (.tmp 47) rfl W.heap.size _ E (Lib.itoa x) rfl HY4.out rfl (by omega) HB4.out.size ?_; intro v5 w5 hown5 hb5 _; refine Hid.out ?_)
          refine (show Hid _ from ?_)
          unfold Hid
          have HB5 : Hid (Below W.heap.size W w5) := HB4.out.trans hb5
          have HY5 : Hid (By w5 W.heap.size v5 (E ++ Lib.itoa x)) := hown5
          clear hown5 hb5 HB4 HY4
          go_wp2
          go_roundw
          case rel => exact ⟨k + 1, by omega, by go_num, by unfold Hid; rw [HNEW.out]; exact HY5.out, HB5⟩
          case measure => simp [intOf]; omega
      · have hk9 : n = k := by omega
        have hlt' : ¬ (k : Int) < (n : Int) := by omega
        have htk : l.take k = l := by rw [← hk9, ← HN.out]; exact List.take_length
        rw [htk] at HY
        have hD9 : (sepT [44] (l.map Lib.itoa)).length ≤ 22000 := by
          refine Nat.le_trans (sepT_len [44] 22 _ fun p hp => ?_) ?_
          · obtain ⟨y, hy, rfl⟩ := List.mem_map.1 hp
            have by' := HL.out y hy
            have := Lib.itoa_length_le y (by omega) (by omega)
            simp; omega
          · rw [List.length_map, HN.out]; omega
        obtain ⟨D, hD⟩ : ∃ D, 123 :: sepT [44] (l.map Lib.itoa) = D := ⟨_, rfl⟩
        have hDl : D.length ≤ 22001 := by rw [← hD, List.length_cons]; omega
        have HD : Hid (setT l = D ++ [125]) := by rw [← hD]; exact HSP
        rw [hD] at HY
        clear hD hD9 htk HSP hk
        go_wp2_with (at_builtin; refine wpList_app_by rfl (.tmp 50) (.const (.string ⟨#[125]⟩)) rfl W.heap.size _ D [125] rfl HY.out rfl (by simp; omega) HB.out.size ?_; intro v3 w3 hown3 hb3 _; refine Hid.out ?_)
        refine (show Hid _ from ?_)
        unfold Hid
        have HB3 : Hid (Below W.heap.size W w3) := HB.out.trans hb3
        obtain ⟨g3, c3, rfl, hcv⟩ := conv_by hown3 (by simp)
        have HCV := hcv w3 (Below.refl _ _)
        have hle : (D ++ [125]).length ≤ 22002 := by rw [List.length_append]; simp; omega
        obtain ⟨m, hm⟩ : ∃ m, (D ++ [125]).length = m := ⟨_, rfl⟩
        rw [hm] at HCV hle ⊢
        clear hown3 hb3 hcv hm HY HB
        go_wp2_with fail
        go_ret
        exact ⟨by rw [HD.out]; rfl, HB3⟩
end Go.Proofs.YtdnhhmnllhlbbaaGreatDoor
