/-
  What is proved here: what package cons finds of a name.
  What is proved here: the form and the family of a name, as package cons tells them.
-/
import Derived.Test.YtpgecdhieakilaaGreatDoorCd
import Derived.Laws.Rows
namespace Go.Proofs.YtpgecdhieakilaaGreatDoor
open Go.RowKit Go.Shelf
set_option linter.unusedVariables false
set_option linter.unusedSimpArgs false

attribute [local go_sem] Oper.semAt_some
/-- A variable in memory. -/
structure C1 (w : World) (g : Nat) (v : Value) (t : TypeId) : Prop where
  h : w.heap[g]? = some (.cells #[v] t (0, 0))
theorem C1.below {w w' : World} {g : Nat} {v : Value} {t : TypeId} (h : C1 w g v t) (hb : Below w.heap.size w w') : C1 w' g v t := ⟨(hb.block _ (Array.getElem?_eq_some_iff.1 h.h).1).trans h.h⟩
theorem cell_row {W : World} {g : Nat} {cur : Array Value} {t : TypeId} {f : Nat × Nat} (h : W.heap[g]? = some (.cells cur t f)) (j : Nat) : W.cell? ⟨g, j, none⟩ = cur[j]? := by simp [World.cell?, h]
theorem C1.cell {w : World} {g : Nat} {v : Value} {t : TypeId} (h : C1 w g v t) : w.cell? ⟨g, 0, none⟩ = some v := (cell_row h.h 0).trans rfl
theorem C1.lt {w : World} {g : Nat} {v : Value} {t : TypeId} (h : C1 w g v t) : g < w.heap.size := (Array.getElem?_eq_some_iff.1 h.h).1
theorem C1.put {w : World} {g k : Nat} {v : Value} {t : TypeId} (h : C1 w g v t) (hk : g ≠ k) (o : Obj) : C1 (w.putObj k o) g v t := ⟨(World.putObj_heap_other hk).trans h.h⟩
theorem row_set {W : World} {A : Nat} {cur : Array Value} {t : TypeId} (h : W.heap[A]? = some (.cells cur t (0, 0))) (q : Nat) (v : Value) : (W.setCell ⟨A, q, none⟩ v).heap[A]? = some (.cells (cur.setIfInBounds q v) t (0, 0)) := by
  obtain ⟨hlt, hk⟩ := Array.getElem?_eq_some_iff.1 h
  show (W.heap.modify A _)[A]? = _
  rw [Array.getElem?_eq_getElem (by rw [Array.size_modify]; exact hlt), Array.getElem_modify_self, hk]
  rfl
/-- Two values in memory. -/
structure Hd (w : World) (g : Nat) (x y : Value) : Prop where
  h : w.heap[g]? = some (.cells #[x, y] 72 (0, 0))
theorem Hd.below {w w' : World} {g : Nat} {x y : Value} (h : Hd w g x y) (hb : Below w.heap.size w w') : Hd w' g x y := ⟨(hb.block _ (Array.getElem?_eq_some_iff.1 h.h).1).trans h.h⟩
theorem Hd.lt {w : World} {g : Nat} {x y : Value} (h : Hd w g x y) : g < w.heap.size := (Array.getElem?_eq_some_iff.1 h.h).1
theorem Hd.put {w : World} {g k : Nat} {x y : Value} (h : Hd w g x y) (hk : g ≠ k) (o : Obj) : Hd (w.putObj k o) g x y := ⟨(World.putObj_heap_other hk).trans h.h⟩
theorem Hd.cells {w : World} {g : Nat} {x y : Value} (h : Hd w g x y) : w.cell? ⟨g, 0, none⟩ = some x ∧ w.cell? ⟨g, 1, none⟩ = some y ∧ w.frozen? ⟨g, 0, none⟩ = false ∧ w.frozen? ⟨g, 1, none⟩ = false :=
  ⟨(cell_row h.h 0).trans rfl, (cell_row h.h 1).trans rfl, by simp [World.frozen?, h.h], by simp [World.frozen?, h.h]⟩
theorem Hd.set {w : World} {g : Nat} {x y u v : Value} (h : Hd w g x y) : Hd ((w.setCell ⟨g, 0, none⟩ u).setCell ⟨g, 1, none⟩ v) g u v := ⟨by rw [row_set (row_set h.h 0 u) 1 v]; rfl⟩
theorem Hd.res {fn : Func} {p : Tmp} (hf : fn.results = #[.cell p 72]) (tmps : Array Value) {w : World} {g : Nat} {x y : Value} (h : Hd w g x y) (hp : tmps.getD p undef = .pointer (some ⟨g, 0, none⟩)) : (results fn tmps).run Tryz.prog w = .ok (.agg #[x, y]) w :=
  results_cell_row hf tmps w g 72 _ (0, 0) _ hp h.h Tryz.underlying72 rfl (by kernel_rfl)
/-- Whether a name stands in a row. -/
def hit (nm : List UInt8) (k : Nat) : Bool := (nmL (rowK k).2.2).contains nm
def findT (nm : List UInt8) : List UInt8 × List UInt8 := match (List.range 48).find? (hit nm) with
  | some k => ((rowK k).1, (rowK k).2.1)
  | none => ([], [])
theorem findT_none {nm : List UInt8} (h : ∀ k, k < 48 → hit nm k = false) : findT nm = ([], []) := by
  have : (List.range 48).find? (hit nm) = none := by
    rw [List.find?_eq_none]
    intro k hk
    rw [h k (List.mem_range.1 hk)]; simp
  unfold findT; rw [this]
theorem findT_some {nm : List UInt8} {k : Nat} (hk : k < 48) (h1 : hit nm k = true) (h2 : ∀ j, j < k → hit nm j = false) : findT nm = ((rowK k).1, (rowK k).2.1) := by
  have : (List.range 48).find? (hit nm) = some k := by
    rw [List.find?_range_eq_some]
    exact ⟨h1, List.mem_range.2 hk, fun j hj => by rw [h2 j hj]; rfl⟩
  unfold findT; rw [this]
theorem row_len : ∀ k, k < 48 → (rowK k).2.2.length < 4000 := by decide +kernel

set_option maxRecDepth 100000 in
set_option maxHeartbeats 4000000 in
theorem each39 (r0 r1 r2 : ByteArray) (W : World) : Calls Tryz.prog 39 #[.agg #[.string r0, .string r1, .string r2]] W fun e w' => ∃ B, e = .returned (.func (.func 62) #[] #[.pointer (some ⟨B, 0, none⟩)]) ∧ w'.cell? ⟨B, 2, none⟩ = some (.string r2) ∧ Below W.heap.size W w' := by
  have hz := (Below.refl W.heap.size W).alloc (Nat.le_refl _) (Obj.cells #[.string r0, .string r1, .string r2] 74)
  have hc : (W.alloc (Obj.cells #[.string r0, .string r1, .string r2] 74)).cell? ⟨W.heap.size, 2, none⟩ = some (.string r2) := (cell_row (World.alloc_heap_new _ _) 2).trans rfl
  go_enter Tryz.func39, Tryz.ntmps39
  go_wp2
  go_ret
  exact ⟨_, rfl, hc, hz⟩

set_option maxRecDepth 100000 in
set_option maxHeartbeats 4000000 in
theorem find_any (nm : List UInt8) (W : World) (hM : MaxL W) :
    Calls Tryz.prog 40 #[.string ⟨nm.toArray⟩] W fun e w' => e = .returned (.agg #[.string ⟨(findT nm).1.toArray⟩, .string ⟨(findT nm).2.toArray⟩]) ∧ Below W.heap.size W w' := by
  obtain ⟨w0, hW0⟩ : ∃ X, (W.alloc (Obj.cells #[.string ⟨nm.toArray⟩] 9)).alloc (Obj.cells #[.string ⟨#[]⟩, .string ⟨#[]⟩] 72) = X := ⟨_, rfl⟩
  have hb0 : Below W.heap.size W w0 := by rw [← hW0]; exact ((Below.refl _ W).alloc (Nat.le_refl _) _).alloc (by simp) _
  have HN0 : Hid (C1 w0 W.heap.size (.string ⟨nm.toArray⟩) 9) := by rw [← hW0]; exact ⟨(Below.heap_alloc _ _ _ (by simp)).trans (World.alloc_heap_new W _)⟩
  have HR0 : Hid (Hd w0 (W.heap.size + 1) (.string ⟨#[]⟩) (.string ⟨#[]⟩)) := by
    rw [← hW0]; exact ⟨by have := World.alloc_heap_new (W.alloc (Obj.cells #[.string ⟨nm.toArray⟩] 9)) (Obj.cells #[.string ⟨#[]⟩, .string ⟨#[]⟩] 72); rwa [World.size_alloc] at this⟩
  have hW0s : W.heap.size + 1 < w0.heap.size := HR0.out.lt
  have HW0 : Hid _ := hW0
  have HM : Hid (MaxL W) := hM
  have hM1 := hM.1
  clear hW0 hM
  refine (callsIn_wide (n := 6)).1 ?_
  refine callsIn_of_wp_marks Tryz.func40 rfl trivial ?_ rfl
  simp only [Tryz.ntmps40, List.size_toArray, List.length_cons, List.length_nil, Nat.reduceAdd, Nat.reduceSub, Array.replicate_succ, Array.replicate_zero, List.push_toArray, List.append_toArray, List.nil_append, List.cons_append]
  gi_wp2
  rw [HW0.out]
  clear HW0
  have mixed : Tryz.prog.follows .mixedOrders = true := by kernel_rfl
  refine range_rows (w := w0) 6 rfl
    (fun k X => C1 X W.heap.size (.string ⟨nm.toArray⟩) 9 ∧ Hd X (W.heap.size + 1) (.string ⟨#[]⟩) (.string ⟨#[]⟩) ∧ Below W.heap.size W X ∧ ∀ j, j < k → hit nm j = false)
    (fun X => ∃ k, k < 48 ∧ hit nm k = true ∧ (∀ j, j < k → hit nm j = false) ∧ Hd X (W.heap.size + 1) (.string ⟨(rowK k).1.toArray⟩) (.string ⟨(rowK k).2.1.toArray⟩) ∧ Below W.heap.size W X)
    ?ib ?ip ?xp ⟨HN0.out, HR0.out, hb0, fun j hj => absurd hj (Nat.not_lt_zero _)⟩ (fun k B => { tmps := #[.string ⟨nm.toArray⟩, .pointer (some ⟨W.heap.size, 0, none⟩), .pointer (some ⟨W.heap.size + 1, 0, none⟩), .pointer (some ⟨B, 0, none⟩), undef, .agg #[.string ⟨(rowK k).1.toArray⟩, .string ⟨(rowK k).2.1.toArray⟩, .string ⟨(rowK k).2.2.toArray⟩], undef, undef, undef, undef, undef, undef, undef, undef, undef], defers := [] }) ?assign ?body ?left ?done
  case ib => exact fun p X Y _ h hb => ⟨h.1.below hb, h.2.1.below hb, h.2.2.1.trans (hb.mono h.2.2.1.size), h.2.2.2⟩
  case ip => exact fun p X k o o' hk h ho hc => ⟨h.1.put (by omega) _, h.2.1.put (by omega) _, h.2.2.1.trans ((Below.refl _ X).grown (grownBy_putObj' X k o') h.2.2.1.size (fun r e => by cases e; omega)), h.2.2.2⟩
  case xp =>
    rintro X k o o' hk ⟨j, h1, h2, h3, h4, h5⟩ ho hc
    exact ⟨j, h1, h2, h3, h4.put (by omega) _, h5.trans ((Below.refl _ X).grown (grownBy_putObj' X k o') h5.size (fun r e => by cases e; omega))⟩
  case assign =>
    intro l m k X K hk hK
    simp only [rowA] at hK ⊢
    gi_wp2
    exact hK
  case body =>
    rintro l m k B X hk hl hB ⟨rl, hrl⟩ hBX hsX ⟨i1, i2, i3, i4⟩
    simp only [rowA] at hBX
    obtain ⟨r0, hr0⟩ : ∃ x, (rowK k).1 = x := ⟨_, rfl⟩
    obtain ⟨r1, hr1⟩ : ∃ x, (rowK k).2.1 = x := ⟨_, rfl⟩
    obtain ⟨r2, hr2⟩ : ∃ x, (rowK k).2.2 = x := ⟨_, rfl⟩
    have hlen := row_len k hk
    have HH : Hid (hit nm k = (nmL r2).contains nm) := by unfold Hid hit; rw [hr2]
    have HIX : Hid (∀ Y, hit nm k = true → Hd Y (W.heap.size + 1) (.string ⟨r0.toArray⟩) (.string ⟨r1.toArray⟩) → Below W.heap.size W Y → ∃ k, k < 48 ∧ hit nm k = true ∧ (∀ j, j < k → hit nm j = false) ∧ Hd Y (W.heap.size + 1) (.string ⟨(rowK k).1.toArray⟩) (.string ⟨(rowK k).2.1.toArray⟩) ∧ Below W.heap.size W Y) := fun Y h1 h2 h3 => ⟨k, hk, h1, i4, by rw [hr0, hr1]; exact h2, h3⟩
    rw [hr0, hr1, hr2] at hBX
    rw [hr2] at hlen
    simp only [hr0, hr1, hr2]
    have c0 : X.cell? ⟨B, 0, none⟩ = some (.string ⟨r0.toArray⟩) := (cell_row hBX 0).trans rfl
    have c1 : X.cell? ⟨B, 1, none⟩ = some (.string ⟨r1.toArray⟩) := (cell_row hBX 1).trans rfl
    have c2 : X.cell? ⟨B, 2, none⟩ = some (.string ⟨r2.toArray⟩) := (cell_row hBX 2).trans rfl
    have hea := each39 ⟨r0.toArray⟩ ⟨r1.toArray⟩ ⟨r2.toArray⟩ X
    have HBX : Hid _ := hBX
    have hBl : B < X.heap.size := (Array.getElem?_eq_some_iff.1 hBX).1
    have hdep : Fence.wide.depth.isSome = false := rfl
    have hfn : ∀ f, Fence.wide.fn f = True := fun _ => rfl
    clear hr0 hr1 hr2 hBX
    gi_wp2
    refine (CallsIn.inRound l (callsIn_wide.2 hea)).mono ?_
    rintro e X2 ⟨Bc, rfl, hcc, hb2⟩
    have j1 := i1.below hb2
    have j2 := i2.below hb2
    have j3 := i3.trans (hb2.mono i3.size)
    have HB2 : Hid (X2.heap[B]? = some (.cells #[.string ⟨r0.toArray⟩, .string ⟨r1.toArray⟩, .string ⟨r2.toArray⟩] 74 (0, 0))) := (hb2.block B hBl).trans HBX.out
    have hB2l : B < X2.heap.size := Nat.lt_of_lt_of_le hBl hb2.size
    have hrl2 := (hb2.block l (Array.getElem?_eq_some_iff.1 hrl).1).trans hrl
    have HKX : Hid (KeepsOthers X X2) := keeps_below hb2
    clear c0 c1 c2 hea HBX
    gi_wp2
    refine range_names (w := X2) m l Bc r2 hlen rfl hcc ⟨rl, hrl2⟩
      (fun p Y => (C1 Y W.heap.size (.string ⟨nm.toArray⟩) 9 ∧ Hd Y (W.heap.size + 1) (.string ⟨#[]⟩) (.string ⟨#[]⟩) ∧ Below W.heap.size W Y) ∧ KeepsOthers X2 Y ∧ Y.heap[B]? = some (.cells #[.string ⟨r0.toArray⟩, .string ⟨r1.toArray⟩, .string ⟨r2.toArray⟩] 74 (0, 0)) ∧ ¬ nm ∈ p)
      (fun Y => hit nm k = true ∧ Hd Y (W.heap.size + 1) (.string ⟨r0.toArray⟩) (.string ⟨r1.toArray⟩) ∧ Below W.heap.size W Y ∧ KeepsOthers X2 Y)
      ?jm ?jb ?jp ?jxp ⟨⟨j1, j2, j3⟩, KeepsOthers.refl _, HB2.out, by simp⟩ ?b1 ?bassign ?bbody ?bleft ?bdone
    case jm => exact fun p Y h => HM.out.below h.1.2.2 hM1
    case jb => exact fun p Y Z _ h hb => ⟨⟨h.1.1.below hb, h.1.2.1.below hb, h.1.2.2.trans (hb.mono h.1.2.2.size)⟩, h.2.1.trans (keeps_below hb), (hb.block _ (Array.getElem?_eq_some_iff.1 h.2.2.1).1).trans h.2.2.1, h.2.2.2⟩
    case jp =>
      intro p Y q o o' hq h ho hc
      have hg := grownBy_putObj' Y q o'
      refine ⟨⟨h.1.1.put (by have := j1.lt; omega) _, h.1.2.1.put (by have := j2.lt; omega) _, h.1.2.2.trans ((Below.refl _ Y).grown hg h.1.2.2.size (fun r e => by cases e; have := j1.lt; omega))⟩, ⟨Nat.le_trans h.2.1.size hg.size, fun i oo hi hoo => ?_⟩, (World.putObj_heap_other (by omega)).trans h.2.2.1, h.2.2.2⟩
      have hil := (Array.getElem?_eq_some_iff.1 hi).1
      exact (World.putObj_heap_other (by omega)).trans (h.2.1.same i oo hi hoo)
    case jxp =>
      intro Y q o o' hq h ho hc
      have hg := grownBy_putObj' Y q o'
      refine ⟨h.1, h.2.1.put (by have := j2.lt; omega) _, h.2.2.1.trans ((Below.refl _ Y).grown hg h.2.2.1.size (fun r e => by cases e; have := j1.lt; omega)), ⟨Nat.le_trans h.2.2.2.size hg.size, fun i oo hi hoo => ?_⟩⟩
      have hil := (Array.getElem?_eq_some_iff.1 hi).1
      exact (World.putObj_heap_other (by omega)).trans (h.2.2.2.same i oo hi hoo)
    case bassign =>
      intro l' m' v Y K hK
      gi_wp2
      exact hK
    case bbody =>
      rintro l' m' p x Y ⟨rr, hrr⟩ hsY ⟨⟨k1, k2, k3⟩, k4, k5, k6⟩
      have cn := k1.cell
      by_cases hx : x = nm
      · have hdx : decide ((⟨x.toArray⟩ : ByteArray) = ⟨nm.toArray⟩) = true := by rw [hx]; simp
        subst hx
        have e0 : Y.cell? ⟨B, 0, none⟩ = some (.string ⟨r0.toArray⟩) := (cell_row k5 0).trans rfl
        have e1 : Y.cell? ⟨B, 1, none⟩ = some (.string ⟨r1.toArray⟩) := (cell_row k5 1).trans rfl
        obtain ⟨f0, f1, f2, f3⟩ := k2.cells
        have HK5 : Hid _ := k5
        have HK2 : Hid _ := k2
        have HK4 : Hid _ := k4
        have HHT : Hid (hit x k = true) := by unfold Hid; rw [HH.out, ← hrr]; simp
        have HBE : Hid (Below W.heap.size W ((Y.setCell ⟨W.heap.size + 1, 0, none⟩ (.string ⟨r0.toArray⟩)).setCell ⟨W.heap.size + 1, 1, none⟩ (.string ⟨r1.toArray⟩))) := (k3.setCell (p := ⟨W.heap.size + 1, 0, none⟩) (Nat.le_succ _) _).setCell (p := ⟨W.heap.size + 1, 1, none⟩) (Nat.le_succ _) _
        clear k5 k2 k3 k4
        gi_wp2
        refine ⟨((KeepsOthers.setCell _ _ _).trans (KeepsOthers.setCell _ _ _)).from _, HHT.out, Hd.set HK2.out, HBE.out, HK4.out.trans ((KeepsOthers.setCell _ _ _).trans (KeepsOthers.setCell _ _ _))⟩
      · have hdx : ¬ (⟨x.toArray⟩ : ByteArray) = ⟨nm.toArray⟩ := fun e => hx (by injection e with e; simpa using e)
        have hdy : ((⟨x.toArray⟩ : ByteArray) == ⟨nm.toArray⟩) = false := by show (x.toArray == nm.toArray) = false; simpa using hx
        have hdz : (x == nm) = false := by simpa using hx
        have HK5 : Hid _ := k5
        clear k5
        gi_wp2
        refine ⟨(KeepsOthers.refl _).from _, ⟨k1, k2, k3⟩, k4, HK5.out, ?_⟩
        intro hm
        rcases List.mem_append.1 hm with hm | hm
        · exact k6 hm
        · exact hx (List.mem_singleton.1 hm).symm
    case bleft =>
      rintro Y ⟨h1, h2, h3, h4⟩
      gi_wp2
      exact ⟨(HKX.out.trans h4).from _, HIX.out Y h1 h2 h3⟩
    case bdone =>
      rintro Y ⟨⟨h1, h2, h3⟩, h4, h5, h6⟩
      have HH5 : Hid _ := h5
      clear h5
      gi_wp2
      refine ⟨(HKX.out.trans h4).from _, h1, h2, h3, fun j hj => ?_⟩
      by_cases hjk : j = k
      · subst hjk
        rw [HH.out]; simpa using h6
      · exact i4 j (by omega)
  case left =>
    rintro D X hD ⟨k, hk, h1, h2, h3, h4⟩ hDX
    have HF : Hid (findT nm = _) := findT_some hk h1 h2
    have hr8 := h3.put (k := D) (by omega) (.deferred none)
    have HDX : Hid _ := hDX
    clear h3 hDX h1 h2
    gi_wp2
    refine ⟨by simp, .inl ⟨_, _, rfl, run_takeDeferred HDX.out, ?_⟩⟩
    refine ⟨_, Hd.res (p := 2) rfl _ hr8 rfl, by rw [HF.out], ?_⟩
    exact h4.trans (belowK_b (n₀ := W.heap.size) (w := W) (Nat.le_refl _) _ D _ (.deferred none) (by omega) HDX.out rfl rfl)
  case done =>
    rintro D X hD ⟨h1, h2, h3, h4⟩ hDX
    have HF : Hid (findT nm = _) := findT_none h4
    obtain ⟨f0, f1, f2, f3⟩ := h2.cells
    have H2 : Hid _ := h2
    have HDX : Hid _ := hDX
    have hr9 : Hd ((X.setCell ⟨W.heap.size + 1, 0, none⟩ (.string ⟨#[]⟩)).setCell ⟨W.heap.size + 1, 1, none⟩ (.string ⟨#[]⟩)) (W.heap.size + 1) (.string ⟨#[]⟩) (.string ⟨#[]⟩) := Hd.set h2
    have hr8 := hr9.put (k := D) (by omega) (.deferred none)
    have hBw := (h3.setCell (p := ⟨W.heap.size + 1, 0, none⟩) (Nat.le_succ _) (.string ⟨#[]⟩)).setCell (p := ⟨W.heap.size + 1, 1, none⟩) (Nat.le_succ _) (.string ⟨#[]⟩)
    have hwM : ((X.setCell ⟨W.heap.size + 1, 0, none⟩ (.string ⟨#[]⟩)).setCell ⟨W.heap.size + 1, 1, none⟩ (.string ⟨#[]⟩)).heap[D]? = some (.deferred (some [])) := (Below.heap_setCell _ ⟨W.heap.size + 1, 1, none⟩ _ D (show D ≠ W.heap.size + 1 by omega)).trans ((Below.heap_setCell _ ⟨W.heap.size + 1, 0, none⟩ _ D (show D ≠ W.heap.size + 1 by omega)).trans hDX)
    have HR8 : Hid _ := hr8
    have HBW : Hid _ := hBw
    have HWM : Hid _ := hwM
    clear h2 hDX hr9 hr8 hBw hwM
    gi_wp2
    refine ⟨by simp, .inl ⟨_, _, rfl, run_takeDeferred HWM.out, ?_⟩⟩
    refine ⟨_, Hd.res (p := 2) rfl _ HR8.out rfl, by rw [HF.out], ?_⟩
    exact Below.trans HBW.out (belowK_b (n₀ := W.heap.size) (w := W) (Nat.le_refl _) _ D _ (.deferred none) (by omega) HWM.out rfl rfl)
end Go.Proofs.YtpgecdhieakilaaGreatDoor

namespace Go.Proofs.YtpgecdhieakilaaGreatDoor
open Go.RowKit Go.Shelf
set_option linter.unusedVariables false
set_option linter.unusedSimpArgs false

set_option maxRecDepth 100000 in
set_option maxHeartbeats 4000000 in
theorem form_any (nm : List UInt8) (W : World) (hM : MaxL W) :
    Calls Tryz.prog 10 #[.string ⟨nm.toArray⟩] W fun e w' => e = .returned (.string ⟨(findT nm).2.toArray⟩) ∧ Below W.heap.size W w' := by
  have k40 := find_any nm W hM
  generalize (findT nm).1 = x at k40 ⊢
  generalize (findT nm).2 = y at k40 ⊢
  clear hM
  go_enter Tryz.func10, Tryz.ntmps10
  go_wp2_with fail
  refine k40.mono ?_
  rintro e w1 ⟨rfl, hb⟩
  have hfd : ∀ w : World, (Instr.field 72 (.agg #[.string ⟨x.toArray⟩, .string ⟨y.toArray⟩]) 1).run Tryz.prog w = .ok (.string ⟨y.toArray⟩) w := fun _ => by first | rfl | with_unfolding_all rfl
  go_wp2
  go_ret
  exact ⟨rfl, hb⟩

set_option maxRecDepth 100000 in
set_option maxHeartbeats 4000000 in
theorem family_any (nm : List UInt8) (W : World) (hM : MaxL W) :
    Calls Tryz.prog 12 #[.string ⟨nm.toArray⟩] W fun e w' => e = .returned (.string ⟨(findT nm).1.toArray⟩) ∧ Below W.heap.size W w' := by
  have k40 := find_any nm W hM
  generalize (findT nm).1 = x at k40 ⊢
  generalize (findT nm).2 = y at k40 ⊢
  clear hM
  go_enter Tryz.func12, Tryz.ntmps12
  go_wp2_with fail
  refine k40.mono ?_
  rintro e w1 ⟨rfl, hb⟩
  have hfd : ∀ w : World, (Instr.field 72 (.agg #[.string ⟨x.toArray⟩, .string ⟨y.toArray⟩]) 0).run Tryz.prog w = .ok (.string ⟨x.toArray⟩) w := fun _ => by first | rfl | with_unfolding_all rfl
  go_wp2
  go_ret
  exact ⟨rfl, hb⟩
end Go.Proofs.YtpgecdhieakilaaGreatDoor
