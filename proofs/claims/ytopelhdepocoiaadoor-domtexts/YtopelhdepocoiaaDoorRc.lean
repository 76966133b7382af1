/-
  What is proved here: what dom.parseRange and dom.Parse read of any text.
-/
import Derived.Test.YtopelhdepocoiaaDoorPa
namespace Go.Proofs.YtopelhdepocoiaaDoor
open Go.RowKit Go.Shelf
set_option linter.unusedVariables false

/-- The library's two error variables hold some error, or none. -/
def ErrV (W : World) : Prop := 3 < W.heap.size ∧ (∃ ev, W.cell? ⟨2, 0, none⟩ = some ev ∧ (ev = .nilIface ∨ ∃ te pe, ev = .iface te pe)) ∧ ∃ ev, W.cell? ⟨3, 0, none⟩ = some ev ∧ (ev = .nilIface ∨ ∃ te pe, ev = .iface te pe)
theorem ErrV.below {B : Nat} {W W' : World} (h : ErrV W) (hb : Below B W W') (hB : 3 < B) : ErrV W' := by
  obtain ⟨h1, ⟨e2, h2, h3⟩, e4, h4, h5⟩ := h
  exact ⟨Nat.lt_of_lt_of_le h1 hb.size, ⟨e2, (hb.cell (p := ⟨2, 0, none⟩) (by show 2 < B; omega)).trans h2, h3⟩, e4, (hb.cell (p := ⟨3, 0, none⟩) hB).trans h4, h5⟩
/-- What strconv.ParseInt answers. -/
def PintE (l : List UInt8) (x : Ending) : Prop := (∃ v, okv (Lib.parseIntB 64 l) = some v ∧ x = .returned (.tuple #[.int .i64 v, .nilIface])) ∨ (okv (Lib.parseIntB 64 l) = none ∧ ∃ v t p, x = .returned (.tuple #[.int .i64 v, .iface t p]))
theorem pint_any (s : ByteArray) (hs : s.size ≤ 65536) (w : World) (hE : ErrV w) :
    Calls Tryd.prog 27 #[.string s, .int .i64 10, .int .i64 64] w fun e w' => PintE s.data.toList e ∧ Below w.heap.size w w' := by
  obtain ⟨_, ⟨e2, h2, h3⟩, e4, h4, h5⟩ := hE
  cases h : Lib.parseIntB 64 s.data.toList with
  | ok v => exact (pint_at s v w (by omega) h).mono fun e w' ⟨he, hb⟩ => ⟨.inl ⟨v, by rw [h]; rfl, he⟩, hb⟩
  | «syntax» => exact (Any.strconv_ParseInt_10_at64_syntax Tryd.laysPint s (by omega) h e2 w h2 h3).mono fun e w' ⟨n, he, _, _, hb⟩ => ⟨.inr ⟨by rw [h]; rfl, _, _, _, he⟩, hb⟩
  | range => exact (Any.strconv_ParseInt_10_at64_range Tryd.laysPint s (by omega) h e4 w h4 h5).mono fun e w' ⟨n, he, _, _, hb⟩ => ⟨.inr ⟨by rw [h]; rfl, _, _, _, he⟩, hb⟩

/-- What dom.parseRange answers. -/
def PrE (l : List UInt8) (x : Ending) : Prop := (∃ r : Rg, pr l = some r ∧ x = .returned (.tuple #[.agg #[.int .i64 r.1, .int .i64 r.2], .bool true])) ∨ (pr l = none ∧ ∃ u v, x = .returned (.tuple #[.agg #[.int .i64 u, .int .i64 v], .bool false]))
theorem PrE.yes {l : List UInt8} (u v : Int) (h : pr l = some (u, v)) : PrE l (.returned (.tuple #[.agg #[.int .i64 u, .int .i64 v], .bool true])) := .inl ⟨(u, v), h, rfl⟩
theorem PrE.no {l : List UInt8} (u v : Int) (h : pr l = none) : PrE l (.returned (.tuple #[.agg #[.int .i64 u, .int .i64 v], .bool false])) := .inr ⟨h, u, v, rfl⟩
theorem cut_le (l sep : List UInt8) : (Lib.cut l sep).1.length ≤ l.length ∧ (Lib.cut l sep).2.1.length ≤ l.length := by
  unfold Lib.cut
  split
  · simp only [List.length_take, List.length_drop]; omega
  · simp

set_option maxRecDepth 100000 in
set_option maxHeartbeats 4000000 in
theorem prange_any (p : ByteArray) (W : World) (hM : MaxL W) (hE : ErrV W) (hs : p.size ≤ 65536) :
    Calls Tryd.prog 14 #[.string p] W fun e w' => PrE p.data.toList e ∧ Below W.heap.size W w' := by
  have hc := fun X (hX : MaxL X) => cut_at p ⟨#[46, 46]⟩ X hX (by omega)
  have hle := cut_le p.data.toList [46, 46]
  have hpl : p.data.toList.length = p.size := by simp
  have hpr : pr p.data.toList = pr p.data.toList := rfl
  unfold pr at hpr
  rw [hpl] at hle
  simp only at hc
  obtain ⟨⟨l1, l2, two⟩, hcut⟩ : ∃ c, Lib.cut p.data.toList [46, 46] = c := ⟨_, rfl⟩
  simp only [hcut] at hc hle
  have HPR : Hid (pr p.data.toList = (match okv (Lib.parseIntB 64 l1), okv (Lib.parseIntB 64 (if two then l2 else l1)) with | some x, some y => some (x, y) | _, _ => none)) := by
    unfold Hid pr; rw [hcut]; rfl
  obtain ⟨A1, hA1⟩ : ∃ A : ByteArray, (⟨l1.toArray⟩ : ByteArray) = A := ⟨_, rfl⟩
  obtain ⟨A2, hA2⟩ : ∃ A : ByteArray, (⟨l2.toArray⟩ : ByteArray) = A := ⟨_, rfl⟩
  have e1 : A1.data.toList = l1 := by rw [← hA1]
  have e2 : A2.data.toList = l2 := by rw [← hA2]
  have hp1 := fun X (hX : ErrV X) => pint_any A1 (by rw [← hA1]; simp [ByteArray.size]; omega) X hX
  have hp2 := fun X (hX : ErrV X) => pint_any A2 (by rw [← hA2]; simp [ByteArray.size]; omega) X hX
  rw [hA1, hA2] at hc
  rw [e1] at hp1
  rw [e2] at hp2
  have hM0 := hM.1
  have hE0 := hE.1
  have HM : Hid (MaxL W) := hM
  have HE : Hid (ErrV W) := hE
  clear hcut hM hE hA1 hA2 e1 e2 hle hpl hpr hs
  have mixed : Tryd.prog.follows .mixedOrders = true := by kernel_rfl
  by_cases htwo : two = true
  · subst htwo
    go_enter Tryd.func14, Tryd.ntmps14
    go_wp2_with fail
    refine (hc _ (HM.out.below ((Below.refl W.heap.size W).alloc (Nat.le_refl _) _) hM0)).mono ?_
    rintro e w1 ⟨rfl, nq, rfl⟩
    clear hc
    have hB1 : Below W.heap.size W ((W.alloc (Obj.cells #[Value.int IntKind.i64 0, Value.int IntKind.i64 0] 34)).drewN nq) := below_drewN ((Below.refl _ W).alloc (Nat.le_refl _) _) _
    have hE1 := HE.out.below hB1 hE0
    go_wp2_with fail
    refine (hp1 _ hE1).mono ?_
    rintro e w2 ⟨hP1, hb2⟩
    have hE2 := hE1.below (hb2.mono hB1.size) hE0
    have HP2 := hp2 w2 hE2
    clear hp1 hp2 hE1 hE2
    rcases hP1 with ⟨v1, k1, rfl⟩ | ⟨k1, v1, t1, p1, rfl⟩
    · have K1 : Hid _ := k1
      clear k1
      go_wp2_with fail
      refine HP2.mono ?_
      rintro e w3 ⟨hP2, hb3⟩
      clear HP2
      rcases hP2 with ⟨v2, k2, rfl⟩ | ⟨k2, v2, t2, p2, rfl⟩
      · have K2 : Hid _ := k2
        clear k2
        have hT : (w3.heap[W.heap.size]? = some (.cells #[.int .i64 0, .int .i64 0] 34 (0, 0))) := by
          refine (hb3.block _ ?_).trans ((hb2.block _ ?_).trans ?_)
          · have := hb2.size; simp at this; omega
          · simp
          · exact World.alloc_heap_new W _
        have hB2 : Below W.heap.size W w2 := hB1.trans (hb2.mono hB1.size)
        have hB3 : Below W.heap.size W w3 := hB2.trans (hb3.mono hB2.size)
        clear hb2 hb3
        have c0 : w3.cell? ⟨W.heap.size, 0, none⟩ = some (.int .i64 0) := by simp [World.cell?, hT]
        have c1 : w3.cell? ⟨W.heap.size, 1, none⟩ = some (.int .i64 0) := by simp [World.cell?, hT]
        have f0 : w3.frozen? ⟨W.heap.size, 0, none⟩ = false := by simp [World.frozen?, hT]
        have f1 : w3.frozen? ⟨W.heap.size, 1, none⟩ = false := by simp [World.frozen?, hT]
        go_wp2
        go_region
        go_wp2
        have h1 := row_set (row_set hT 0 (.int .i64 v1)) 1 (.int .i64 v2)
        have h2 : (((w3.setCell ⟨W.heap.size, 0, none⟩ (.int .i64 v1)).setCell ⟨W.heap.size, 1, none⟩ (.int .i64 v2)).drew).heap[W.heap.size]? = some (.cells #[.int .i64 v1, .int .i64 v2] 34 (0, 0)) := by
          have h3 : ((w3.setCell ⟨W.heap.size, 0, none⟩ (.int .i64 v1)).setCell ⟨W.heap.size, 1, none⟩ (.int .i64 v2)).heap[W.heap.size]? = some (.cells #[.int .i64 v1, .int .i64 v2] 34 (0, 0)) := by simpa using h1
          exact h3
        have e0 : (((w3.setCell ⟨W.heap.size, 0, none⟩ (.int .i64 v1)).setCell ⟨W.heap.size, 1, none⟩ (.int .i64 v2)).drew).cell? ⟨W.heap.size, 0, none⟩ = some (.int .i64 v1) := by simp only [World.cell?, h2]; rfl
        have e1 : (((w3.setCell ⟨W.heap.size, 0, none⟩ (.int .i64 v1)).setCell ⟨W.heap.size, 1, none⟩ (.int .i64 v2)).drew).cell? ⟨W.heap.size, 1, none⟩ = some (.int .i64 v2) := by simp only [World.cell?, h2]; rfl
        have hB4 : Below W.heap.size W (((w3.setCell ⟨W.heap.size, 0, none⟩ (.int .i64 v1)).setCell ⟨W.heap.size, 1, none⟩ (.int .i64 v2)).drew) := ((hB3.setCell (p := ⟨W.heap.size, 0, none⟩) (Nat.le_refl _) _).setCell (p := ⟨W.heap.size, 1, none⟩) (Nat.le_refl _) _).drew
        obtain ⟨X, hX⟩ : ∃ X, ((w3.setCell ⟨W.heap.size, 0, none⟩ (.int .i64 v1)).setCell ⟨W.heap.size, 1, none⟩ (.int .i64 v2)).drew = X := ⟨_, rfl⟩
        rw [hX] at e0 e1 hB4 ⊢
        refine ⟨rfl, .tuple #[.agg #[.int .i64 v1, .int .i64 v2], .bool true], ?_, PrE.yes _ _ (by rw [HPR.out]; simp [K1.out, K2.out]), hB4⟩
        simp [results, Tryd.results14, go_sem, e0, e1]
      · have K2 : Hid _ := k2
        clear k2
        have hT : (w3.heap[W.heap.size]? = some (.cells #[.int .i64 0, .int .i64 0] 34 (0, 0))) := by
          refine (hb3.block _ ?_).trans ((hb2.block _ ?_).trans ?_)
          · have := hb2.size; simp at this; omega
          · simp
          · exact World.alloc_heap_new W _
        have hB2 : Below W.heap.size W w2 := hB1.trans (hb2.mono hB1.size)
        have hB3 : Below W.heap.size W w3 := hB2.trans (hb3.mono hB2.size)
        clear hb2 hb3
        have c0 : w3.cell? ⟨W.heap.size, 0, none⟩ = some (.int .i64 0) := by simp [World.cell?, hT]
        have c1 : w3.cell? ⟨W.heap.size, 1, none⟩ = some (.int .i64 0) := by simp [World.cell?, hT]
        have f0 : w3.frozen? ⟨W.heap.size, 0, none⟩ = false := by simp [World.frozen?, hT]
        have f1 : w3.frozen? ⟨W.heap.size, 1, none⟩ = false := by simp [World.frozen?, hT]
        go_wp2
        go_region
        go_wp2
        have h1 := row_set (row_set hT 0 (.int .i64 v1)) 1 (.int .i64 v2)
        have h2 : (((w3.setCell ⟨W.heap.size, 0, none⟩ (.int .i64 v1)).setCell ⟨W.heap.size, 1, none⟩ (.int .i64 v2)).drew).heap[W.heap.size]? = some (.cells #[.int .i64 v1, .int .i64 v2] 34 (0, 0)) := by
          have h3 : ((w3.setCell ⟨W.heap.size, 0, none⟩ (.int .i64 v1)).setCell ⟨W.heap.size, 1, none⟩ (.int .i64 v2)).heap[W.heap.size]? = some (.cells #[.int .i64 v1, .int .i64 v2] 34 (0, 0)) := by simpa using h1
          exact h3
        have e0 : (((w3.setCell ⟨W.heap.size, 0, none⟩ (.int .i64 v1)).setCell ⟨W.heap.size, 1, none⟩ (.int .i64 v2)).drew).cell? ⟨W.heap.size, 0, none⟩ = some (.int .i64 v1) := by simp only [World.cell?, h2]; rfl
        have e1 : (((w3.setCell ⟨W.heap.size, 0, none⟩ (.int .i64 v1)).setCell ⟨W.heap.size, 1, none⟩ (.int .i64 v2)).drew).cell? ⟨W.heap.size, 1, none⟩ = some (.int .i64 v2) := by simp only [World.cell?, h2]; rfl
        have hB4 : Below W.heap.size W (((w3.setCell ⟨W.heap.size, 0, none⟩ (.int .i64 v1)).setCell ⟨W.heap.size, 1, none⟩ (.int .i64 v2)).drew) := ((hB3.setCell (p := ⟨W.heap.size, 0, none⟩) (Nat.le_refl _) _).setCell (p := ⟨W.heap.size, 1, none⟩) (Nat.le_refl _) _).drew
        obtain ⟨X, hX⟩ : ∃ X, ((w3.setCell ⟨W.heap.size, 0, none⟩ (.int .i64 v1)).setCell ⟨W.heap.size, 1, none⟩ (.int .i64 v2)).drew = X := ⟨_, rfl⟩
        rw [hX] at e0 e1 hB4 ⊢
        refine ⟨rfl, .tuple #[.agg #[.int .i64 v1, .int .i64 v2], .bool false], ?_, PrE.no _ _ (by rw [HPR.out]; simp [K1.out, K2.out]), hB4⟩
        simp [results, Tryd.results14, go_sem, e0, e1]
    · have K1 : Hid _ := k1
      clear k1
      go_wp2_with fail
      refine HP2.mono ?_
      rintro e w3 ⟨hP2, hb3⟩
      clear HP2
      rcases hP2 with ⟨v2, k2, rfl⟩ | ⟨k2, v2, t2, p2, rfl⟩
      · have K2 : Hid _ := k2
        clear k2
        have hT : (w3.heap[W.heap.size]? = some (.cells #[.int .i64 0, .int .i64 0] 34 (0, 0))) := by
          refine (hb3.block _ ?_).trans ((hb2.block _ ?_).trans ?_)
          · have := hb2.size; simp at this; omega
          · simp
          · exact World.alloc_heap_new W _
        have hB2 : Below W.heap.size W w2 := hB1.trans (hb2.mono hB1.size)
        have hB3 : Below W.heap.size W w3 := hB2.trans (hb3.mono hB2.size)
        clear hb2 hb3
        have c0 : w3.cell? ⟨W.heap.size, 0, none⟩ = some (.int .i64 0) := by simp [World.cell?, hT]
        have c1 : w3.cell? ⟨W.heap.size, 1, none⟩ = some (.int .i64 0) := by simp [World.cell?, hT]
        have f0 : w3.frozen? ⟨W.heap.size, 0, none⟩ = false := by simp [World.frozen?, hT]
        have f1 : w3.frozen? ⟨W.heap.size, 1, none⟩ = false := by simp [World.frozen?, hT]
        go_wp2
        go_region
        go_wp2
        have h1 := row_set (row_set hT 0 (.int .i64 v1)) 1 (.int .i64 v2)
        have h2 : (((w3.setCell ⟨W.heap.size, 0, none⟩ (.int .i64 v1)).setCell ⟨W.heap.size, 1, none⟩ (.int .i64 v2)).drew).heap[W.heap.size]? = some (.cells #[.int .i64 v1, .int .i64 v2] 34 (0, 0)) := by
          have h3 : ((w3.setCell ⟨W.heap.size, 0, none⟩ (.int .i64 v1)).setCell ⟨W.heap.size, 1, none⟩ (.int .i64 v2)).heap[W.heap.size]? = some (.cells #[.int .i64 v1, .int .i64 v2] 34 (0, 0)) := by simpa using h1
          exact h3
        have e0 : (((w3.setCell ⟨W.heap.size, 0, none⟩ (.int .i64 v1)).setCell ⟨W.heap.size, 1, none⟩ (.int .i64 v2)).drew).cell? ⟨W.heap.size, 0, none⟩ = some (.int .i64 v1) := by simp only [World.cell?, h2]; rfl
        have e1 : (((w3.setCell ⟨W.heap.size, 0, none⟩ (.int .i64 v1)).setCell ⟨W.heap.size, 1, none⟩ (.int .i64 v2)).drew).cell? ⟨W.heap.size, 1, none⟩ = some (.int .i64 v2) := by simp only [World.cell?, h2]; rfl
        have hB4 : Below W.heap.size W (((w3.setCell ⟨W.heap.size, 0, none⟩ (.int .i64 v1)).setCell ⟨W.heap.size, 1, none⟩ (.int .i64 v2)).drew) := ((hB3.setCell (p := ⟨W.heap.size, 0, none⟩) (Nat.le_refl _) _).setCell (p := ⟨W.heap.size, 1, none⟩) (Nat.le_refl _) _).drew
        obtain ⟨X, hX⟩ : ∃ X, ((w3.setCell ⟨W.heap.size, 0, none⟩ (.int .i64 v1)).setCell ⟨W.heap.size, 1, none⟩ (.int .i64 v2)).drew = X := ⟨_, rfl⟩
        rw [hX] at e0 e1 hB4 ⊢
        refine ⟨rfl, .tuple #[.agg #[.int .i64 v1, .int .i64 v2], .bool false], ?_, PrE.no _ _ (by rw [HPR.out]; simp [K1.out]), hB4⟩
        simp [results, Tryd.results14, go_sem, e0, e1]
      · have K2 : Hid _ := k2
        clear k2
        have hT : (w3.heap[W.heap.size]? = some (.cells #[.int .i64 0, .int .i64 0] 34 (0, 0))) := by
          refine (hb3.block _ ?_).trans ((hb2.block _ ?_).trans ?_)
          · have := hb2.size; simp at this; omega
          · simp
          · exact World.alloc_heap_new W _
        have hB2 : Below W.heap.size W w2 := hB1.trans (hb2.mono hB1.size)
        have hB3 : Below W.heap.size W w3 := hB2.trans (hb3.mono hB2.size)
        clear hb2 hb3
        have c0 : w3.cell? ⟨W.heap.size, 0, none⟩ = some (.int .i64 0) := by simp [World.cell?, hT]
        have c1 : w3.cell? ⟨W.heap.size, 1, none⟩ = some (.int .i64 0) := by simp [World.cell?, hT]
        have f0 : w3.frozen? ⟨W.heap.size, 0, none⟩ = false := by simp [World.frozen?, hT]
        have f1 : w3.frozen? ⟨W.heap.size, 1, none⟩ = false := by simp [World.frozen?, hT]
        go_wp2
        go_region
        go_wp2
        have h1 := row_set (row_set hT 0 (.int .i64 v1)) 1 (.int .i64 v2)
        have h2 : (((w3.setCell ⟨W.heap.size, 0, none⟩ (.int .i64 v1)).setCell ⟨W.heap.size, 1, none⟩ (.int .i64 v2)).drew).heap[W.heap.size]? = some (.cells #[.int .i64 v1, .int .i64 v2] 34 (0, 0)) := by
          have h3 : ((w3.setCell ⟨W.heap.size, 0, none⟩ (.int .i64 v1)).setCell ⟨W.heap.size, 1, none⟩ (.int .i64 v2)).heap[W.heap.size]? = some (.cells #[.int .i64 v1, .int .i64 v2] 34 (0, 0)) := by simpa using h1
          exact h3
        have e0 : (((w3.setCell ⟨W.heap.size, 0, none⟩ (.int .i64 v1)).setCell ⟨W.heap.size, 1, none⟩ (.int .i64 v2)).drew).cell? ⟨W.heap.size, 0, none⟩ = some (.int .i64 v1) := by simp only [World.cell?, h2]; rfl
        have e1 : (((w3.setCell ⟨W.heap.size, 0, none⟩ (.int .i64 v1)).setCell ⟨W.heap.size, 1, none⟩ (.int .i64 v2)).drew).cell? ⟨W.heap.size, 1, none⟩ = some (.int .i64 v2) := by simp only [World.cell?, h2]; rfl
        have hB4 : Below W.heap.size W (((w3.setCell ⟨W.heap.size, 0, none⟩ (.int .i64 v1)).setCell ⟨W.heap.size, 1, none⟩ (.int .i64 v2)).drew) := ((hB3.setCell (p := ⟨W.heap.size, 0, none⟩) (Nat.le_refl _) _).setCell (p := ⟨W.heap.size, 1, none⟩) (Nat.le_refl _) _).drew
        obtain ⟨X, hX⟩ : ∃ X, ((w3.setCell ⟨W.heap.size, 0, none⟩ (.int .i64 v1)).setCell ⟨W.heap.size, 1, none⟩ (.int .i64 v2)).drew = X := ⟨_, rfl⟩
        rw [hX] at e0 e1 hB4 ⊢
        refine ⟨rfl, .tuple #[.agg #[.int .i64 v1, .int .i64 v2], .bool false], ?_, PrE.no _ _ (by rw [HPR.out]; simp [K1.out]), hB4⟩
        simp [results, Tryd.results14, go_sem, e0, e1]
  · have htwo' : two = false := by simpa using htwo
    subst htwo'
    clear htwo
    go_enter Tryd.func14, Tryd.ntmps14
    go_wp2_with fail
    refine (hc _ (HM.out.below ((Below.refl W.heap.size W).alloc (Nat.le_refl _) _) hM0)).mono ?_
    rintro e w1 ⟨rfl, nq, rfl⟩
    clear hc
    have hB1 : Below W.heap.size W ((W.alloc (Obj.cells #[Value.int IntKind.i64 0, Value.int IntKind.i64 0] 34)).drewN nq) := below_drewN ((Below.refl _ W).alloc (Nat.le_refl _) _) _
    have hE1 := HE.out.below hB1 hE0
    go_wp2_with fail
    refine (hp1 _ hE1).mono ?_
    rintro e w2 ⟨hP1, hb2⟩
    have hE2 := hE1.below (hb2.mono hB1.size) hE0
    have HP2 := hp1 w2 hE2
    clear hp1 hp2 hE1 hE2
    rcases hP1 with ⟨v1, k1, rfl⟩ | ⟨k1, v1, t1, p1, rfl⟩
    · have K1 : Hid _ := k1
      clear k1
      go_wp2_with fail
      refine HP2.mono ?_
      rintro e w3 ⟨hP2, hb3⟩
      clear HP2
      rcases hP2 with ⟨v2, k2, rfl⟩ | ⟨k2, v2, t2, p2, rfl⟩
      · have K2 : Hid _ := k2
        clear k2
        have hT : (w3.heap[W.heap.size]? = some (.cells #[.int .i64 0, .int .i64 0] 34 (0, 0))) := by
          refine (hb3.block _ ?_).trans ((hb2.block _ ?_).trans ?_)
          · have := hb2.size; simp at this; omega
          · simp
          · exact World.alloc_heap_new W _
        have hB2 : Below W.heap.size W w2 := hB1.trans (hb2.mono hB1.size)
        have hB3 : Below W.heap.size W w3 := hB2.trans (hb3.mono hB2.size)
        clear hb2 hb3
        have c0 : w3.cell? ⟨W.heap.size, 0, none⟩ = some (.int .i64 0) := by simp [World.cell?, hT]
        have c1 : w3.cell? ⟨W.heap.size, 1, none⟩ = some (.int .i64 0) := by simp [World.cell?, hT]
        have f0 : w3.frozen? ⟨W.heap.size, 0, none⟩ = false := by simp [World.frozen?, hT]
        have f1 : w3.frozen? ⟨W.heap.size, 1, none⟩ = false := by simp [World.frozen?, hT]
        go_wp2
        go_region
        go_wp2
        have h1 := row_set (row_set hT 0 (.int .i64 v1)) 1 (.int .i64 v2)
        have h2 : (((w3.setCell ⟨W.heap.size, 0, none⟩ (.int .i64 v1)).setCell ⟨W.heap.size, 1, none⟩ (.int .i64 v2)).drew).heap[W.heap.size]? = some (.cells #[.int .i64 v1, .int .i64 v2] 34 (0, 0)) := by
          have h3 : ((w3.setCell ⟨W.heap.size, 0, none⟩ (.int .i64 v1)).setCell ⟨W.heap.size, 1, none⟩ (.int .i64 v2)).heap[W.heap.size]? = some (.cells #[.int .i64 v1, .int .i64 v2] 34 (0, 0)) := by simpa using h1
          exact h3
        have e0 : (((w3.setCell ⟨W.heap.size, 0, none⟩ (.int .i64 v1)).setCell ⟨W.heap.size, 1, none⟩ (.int .i64 v2)).drew).cell? ⟨W.heap.size, 0, none⟩ = some (.int .i64 v1) := by simp only [World.cell?, h2]; rfl
        have e1 : (((w3.setCell ⟨W.heap.size, 0, none⟩ (.int .i64 v1)).setCell ⟨W.heap.size, 1, none⟩ (.int .i64 v2)).drew).cell? ⟨W.heap.size, 1, none⟩ = some (.int .i64 v2) := by simp only [World.cell?, h2]; rfl
        have hB4 : Below W.heap.size W (((w3.setCell ⟨W.heap.size, 0, none⟩ (.int .i64 v1)).setCell ⟨W.heap.size, 1, none⟩ (.int .i64 v2)).drew) := ((hB3.setCell (p := ⟨W.heap.size, 0, none⟩) (Nat.le_refl _) _).setCell (p := ⟨W.heap.size, 1, none⟩) (Nat.le_refl _) _).drew
        obtain ⟨X, hX⟩ : ∃ X, ((w3.setCell ⟨W.heap.size, 0, none⟩ (.int .i64 v1)).setCell ⟨W.heap.size, 1, none⟩ (.int .i64 v2)).drew = X := ⟨_, rfl⟩
        rw [hX] at e0 e1 hB4 ⊢
        refine ⟨rfl, .tuple #[.agg #[.int .i64 v1, .int .i64 v2], .bool true], ?_, PrE.yes _ _ (by rw [HPR.out]; have h8 := K1.out.symm.trans K2.out; simp at h8; subst h8; simp [K1.out]), hB4⟩
        simp [results, Tryd.results14, go_sem, e0, e1]
      · have K2 : Hid _ := k2
        clear k2
        have hT : (w3.heap[W.heap.size]? = some (.cells #[.int .i64 0, .int .i64 0] 34 (0, 0))) := by
          refine (hb3.block _ ?_).trans ((hb2.block _ ?_).trans ?_)
          · have := hb2.size; simp at this; omega
          · simp
          · exact World.alloc_heap_new W _
        have hB2 : Below W.heap.size W w2 := hB1.trans (hb2.mono hB1.size)
        have hB3 : Below W.heap.size W w3 := hB2.trans (hb3.mono hB2.size)
        clear hb2 hb3
        have c0 : w3.cell? ⟨W.heap.size, 0, none⟩ = some (.int .i64 0) := by simp [World.cell?, hT]
        have c1 : w3.cell? ⟨W.heap.size, 1, none⟩ = some (.int .i64 0) := by simp [World.cell?, hT]
        have f0 : w3.frozen? ⟨W.heap.size, 0, none⟩ = false := by simp [World.frozen?, hT]
        have f1 : w3.frozen? ⟨W.heap.size, 1, none⟩ = false := by simp [World.frozen?, hT]
        go_wp2
        go_region
        go_wp2
        have h1 := row_set (row_set hT 0 (.int .i64 v1)) 1 (.int .i64 v2)
        have h2 : (((w3.setCell ⟨W.heap.size, 0, none⟩ (.int .i64 v1)).setCell ⟨W.heap.size, 1, none⟩ (.int .i64 v2)).drew).heap[W.heap.size]? = some (.cells #[.int .i64 v1, .int .i64 v2] 34 (0, 0)) := by
          have h3 : ((w3.setCell ⟨W.heap.size, 0, none⟩ (.int .i64 v1)).setCell ⟨W.heap.size, 1, none⟩ (.int .i64 v2)).heap[W.heap.size]? = some (.cells #[.int .i64 v1, .int .i64 v2] 34 (0, 0)) := by simpa using h1
          exact h3
        have e0 : (((w3.setCell ⟨W.heap.size, 0, none⟩ (.int .i64 v1)).setCell ⟨W.heap.size, 1, none⟩ (.int .i64 v2)).drew).cell? ⟨W.heap.size, 0, none⟩ = some (.int .i64 v1) := by simp only [World.cell?, h2]; rfl
        have e1 : (((w3.setCell ⟨W.heap.size, 0, none⟩ (.int .i64 v1)).setCell ⟨W.heap.size, 1, none⟩ (.int .i64 v2)).drew).cell? ⟨W.heap.size, 1, none⟩ = some (.int .i64 v2) := by simp only [World.cell?, h2]; rfl
        have hB4 : Below W.heap.size W (((w3.setCell ⟨W.heap.size, 0, none⟩ (.int .i64 v1)).setCell ⟨W.heap.size, 1, none⟩ (.int .i64 v2)).drew) := ((hB3.setCell (p := ⟨W.heap.size, 0, none⟩) (Nat.le_refl _) _).setCell (p := ⟨W.heap.size, 1, none⟩) (Nat.le_refl _) _).drew
        obtain ⟨X, hX⟩ : ∃ X, ((w3.setCell ⟨W.heap.size, 0, none⟩ (.int .i64 v1)).setCell ⟨W.heap.size, 1, none⟩ (.int .i64 v2)).drew = X := ⟨_, rfl⟩
        rw [hX] at e0 e1 hB4 ⊢
        refine ⟨rfl, .tuple #[.agg #[.int .i64 v1, .int .i64 v2], .bool false], ?_, PrE.no _ _ (absurd (K1.out.symm.trans K2.out) (by simp)), hB4⟩
        simp [results, Tryd.results14, go_sem, e0, e1]
    · have K1 : Hid _ := k1
      clear k1
      go_wp2_with fail
      refine HP2.mono ?_
      rintro e w3 ⟨hP2, hb3⟩
      clear HP2
      rcases hP2 with ⟨v2, k2, rfl⟩ | ⟨k2, v2, t2, p2, rfl⟩
      · have K2 : Hid _ := k2
        clear k2
        have hT : (w3.heap[W.heap.size]? = some (.cells #[.int .i64 0, .int .i64 0] 34 (0, 0))) := by
          refine (hb3.block _ ?_).trans ((hb2.block _ ?_).trans ?_)
          · have := hb2.size; simp at this; omega
          · simp
          · exact World.alloc_heap_new W _
        have hB2 : Below W.heap.size W w2 := hB1.trans (hb2.mono hB1.size)
        have hB3 : Below W.heap.size W w3 := hB2.trans (hb3.mono hB2.size)
        clear hb2 hb3
        have c0 : w3.cell? ⟨W.heap.size, 0, none⟩ = some (.int .i64 0) := by simp [World.cell?, hT]
        have c1 : w3.cell? ⟨W.heap.size, 1, none⟩ = some (.int .i64 0) := by simp [World.cell?, hT]
        have f0 : w3.frozen? ⟨W.heap.size, 0, none⟩ = false := by simp [World.frozen?, hT]
        have f1 : w3.frozen? ⟨W.heap.size, 1, none⟩ = false := by simp [World.frozen?, hT]
        go_wp2
        go_region
        go_wp2
        have h1 := row_set (row_set hT 0 (.int .i64 v1)) 1 (.int .i64 v2)
        have h2 : (((w3.setCell ⟨W.heap.size, 0, none⟩ (.int .i64 v1)).setCell ⟨W.heap.size, 1, none⟩ (.int .i64 v2)).drew).heap[W.heap.size]? = some (.cells #[.int .i64 v1, .int .i64 v2] 34 (0, 0)) := by
          have h3 : ((w3.setCell ⟨W.heap.size, 0, none⟩ (.int .i64 v1)).setCell ⟨W.heap.size, 1, none⟩ (.int .i64 v2)).heap[W.heap.size]? = some (.cells #[.int .i64 v1, .int .i64 v2] 34 (0, 0)) := by simpa using h1
          exact h3
        have e0 : (((w3.setCell ⟨W.heap.size, 0, none⟩ (.int .i64 v1)).setCell ⟨W.heap.size, 1, none⟩ (.int .i64 v2)).drew).cell? ⟨W.heap.size, 0, none⟩ = some (.int .i64 v1) := by simp only [World.cell?, h2]; rfl
        have e1 : (((w3.setCell ⟨W.heap.size, 0, none⟩ (.int .i64 v1)).setCell ⟨W.heap.size, 1, none⟩ (.int .i64 v2)).drew).cell? ⟨W.heap.size, 1, none⟩ = some (.int .i64 v2) := by simp only [World.cell?, h2]; rfl
        have hB4 : Below W.heap.size W (((w3.setCell ⟨W.heap.size, 0, none⟩ (.int .i64 v1)).setCell ⟨W.heap.size, 1, none⟩ (.int .i64 v2)).drew) := ((hB3.setCell (p := ⟨W.heap.size, 0, none⟩) (Nat.le_refl _) _).setCell (p := ⟨W.heap.size, 1, none⟩) (Nat.le_refl _) _).drew
        obtain ⟨X, hX⟩ : ∃ X, ((w3.setCell ⟨W.heap.size, 0, none⟩ (.int .i64 v1)).setCell ⟨W.heap.size, 1, none⟩ (.int .i64 v2)).drew = X := ⟨_, rfl⟩
        rw [hX] at e0 e1 hB4 ⊢
        refine ⟨rfl, .tuple #[.agg #[.int .i64 v1, .int .i64 v2], .bool false], ?_, PrE.no _ _ (by rw [HPR.out]; simp [K1.out]), hB4⟩
        simp [results, Tryd.results14, go_sem, e0, e1]
      · have K2 : Hid _ := k2
        clear k2
        have hT : (w3.heap[W.heap.size]? = some (.cells #[.int .i64 0, .int .i64 0] 34 (0, 0))) := by
          refine (hb3.block _ ?_).trans ((hb2.block _ ?_).trans ?_)
          · have := hb2.size; simp at this; omega
          · simp
          · exact World.alloc_heap_new W _
        have hB2 : Below W.heap.size W w2 := hB1.trans (hb2.mono hB1.size)
        have hB3 : Below W.heap.size W w3 := hB2.trans (hb3.mono hB2.size)
        clear hb2 hb3
        have c0 : w3.cell? ⟨W.heap.size, 0, none⟩ = some (.int .i64 0) := by simp [World.cell?, hT]
        have c1 : w3.cell? ⟨W.heap.size, 1, none⟩ = some (.int .i64 0) := by simp [World.cell?, hT]
        have f0 : w3.frozen? ⟨W.heap.size, 0, none⟩ = false := by simp [World.frozen?, hT]
        have f1 : w3.frozen? ⟨W.heap.size, 1, none⟩ = false := by simp [World.frozen?, hT]
        go_wp2
        go_region
        go_wp2
        have h1 := row_set (row_set hT 0 (.int .i64 v1)) 1 (.int .i64 v2)
        have h2 : (((w3.setCell ⟨W.heap.size, 0, none⟩ (.int .i64 v1)).setCell ⟨W.heap.size, 1, none⟩ (.int .i64 v2)).drew).heap[W.heap.size]? = some (.cells #[.int .i64 v1, .int .i64 v2] 34 (0, 0)) := by
          have h3 : ((w3.setCell ⟨W.heap.size, 0, none⟩ (.int .i64 v1)).setCell ⟨W.heap.size, 1, none⟩ (.int .i64 v2)).heap[W.heap.size]? = some (.cells #[.int .i64 v1, .int .i64 v2] 34 (0, 0)) := by simpa using h1
          exact h3
        have e0 : (((w3.setCell ⟨W.heap.size, 0, none⟩ (.int .i64 v1)).setCell ⟨W.heap.size, 1, none⟩ (.int .i64 v2)).drew).cell? ⟨W.heap.size, 0, none⟩ = some (.int .i64 v1) := by simp only [World.cell?, h2]; rfl
        have e1 : (((w3.setCell ⟨W.heap.size, 0, none⟩ (.int .i64 v1)).setCell ⟨W.heap.size, 1, none⟩ (.int .i64 v2)).drew).cell? ⟨W.heap.size, 1, none⟩ = some (.int .i64 v2) := by simp only [World.cell?, h2]; rfl
        have hB4 : Below W.heap.size W (((w3.setCell ⟨W.heap.size, 0, none⟩ (.int .i64 v1)).setCell ⟨W.heap.size, 1, none⟩ (.int .i64 v2)).drew) := ((hB3.setCell (p := ⟨W.heap.size, 0, none⟩) (Nat.le_refl _) _).setCell (p := ⟨W.heap.size, 1, none⟩) (Nat.le_refl _) _).drew
        obtain ⟨X, hX⟩ : ∃ X, ((w3.setCell ⟨W.heap.size, 0, none⟩ (.int .i64 v1)).setCell ⟨W.heap.size, 1, none⟩ (.int .i64 v2)).drew = X := ⟨_, rfl⟩
        rw [hX] at e0 e1 hB4 ⊢
        refine ⟨rfl, .tuple #[.agg #[.int .i64 v1, .int .i64 v2], .bool false], ?_, PrE.no _ _ (by rw [HPR.out]; simp [K1.out]), hB4⟩
        simp [results, Tryd.results14, go_sem, e0, e1]
end Go.Proofs.YtopelhdepocoiaaDoor
