/-
  What is proved here: the reference's Meet and Less of any lists.
-/
import Derived.Test.YtacnhkaibcjjgaaGreatDoorRa
import Derived.Test.YtacnhkaibcjjgaaGreatDoorNb
namespace Go.Proofs.YtacnhkaibcjjgaaGreatDoor
open Go.RowKit Go.Shelf
set_option linter.unusedVariables false
set_option linter.unusedSimpArgs false

theorem one_si (w : World) (x : Int) : Si (w.alloc (Obj.cells #[.int .i64 x] 2)) (.slice (some ⟨w.heap.size, 0, none⟩) 1 1) [x] := by
  refine ⟨_, _, rfl, fun _ => ⟨_, _, rfl, by rw [World.size_alloc]; omega, fun i hi => ?_⟩⟩
  have hi0 : i = 0 := by simp at hi; omega
  subst hi0
  have := World.alloc_heap_new w (Obj.cells #[.int .i64 x] 2)
  show (w.alloc (Obj.cells #[.int .i64 x] 2)).cell? ⟨w.heap.size, 0 + 0, none⟩ = _
  rw [cell_row this]
  rfl
theorem take_next (l : List Int) (k : Nat) (h : k < l.length) : l.take (k + 1) = l.take k ++ [nth l k] := by
  rw [List.take_add_one, List.getElem?_eq_getElem h]; simp [nth, h]
theorem filt_yes (l : List Int) (f : Int → Bool) (k : Nat) (h : k < l.length) (hf : f (nth l k) = true) : (l.take (k + 1)).filter f = (l.take k).filter f ++ [nth l k] := by
  rw [take_next l k h, List.filter_append]; simp [hf]
theorem filt_no (l : List Int) (f : Int → Bool) (k : Nat) (h : k < l.length) (hf : f (nth l k) = false) : (l.take (k + 1)).filter f = (l.take k).filter f := by
  rw [take_next l k h, List.filter_append]; simp [hf]
theorem filt_len (l : List Int) (f : Int → Bool) (k : Nat) : ((l.take k).filter f).length ≤ k := Nat.le_trans (List.length_filter_le _ _) (by simp; omega)

set_option maxRecDepth 100000 in
set_option maxHeartbeats 4000000 in
theorem refmeet_any (s1 s2 : Value) (a b : List Int) (W : World) (h1 : Si W s1 a) (h2 : Si W s2 b) :
    Calls Tryz.prog 16 #[s1, s2] W fun e w' => ∃ v, e = .returned v ∧ w'.ownsRow W.heap.size 2 1 v (meetL (tkS a) (tkS b)).length (intv (meetL (tkS a) (tkS b))) ∧ Below W.heap.size W w' := by
  have hk := taken_any s1 a W h1
  have kin := fun v X (hX : Below W.heap.size W X) => refin_any v s2 b X (h2.below hX)
  have hspec : meetL (tkS a) (tkS b) = (tkS a).filter (fun x => (tkS b).contains x) := rfl
  rw [hspec]
  obtain ⟨f, hf⟩ : ∃ f : Int → Bool, (fun x => (tkS b).contains x) = f := ⟨_, rfl⟩
  have HF : Hid (∀ x, f x = (tkS b).contains x) := fun x => by rw [← hf]
  rw [hf]
  clear hspec hf
  have hset := (tkS_set a).1
  generalize tkS a = A at hk hset ⊢
  obtain ⟨a1, c1, rfl, _⟩ := h1
  obtain ⟨a2, c2, rfl, _⟩ := h2
  generalize a.length = n1 at *
  generalize b.length = n2 at *
  go_enter Tryz.func16, Tryz.ntmps16
  go_wp2_with fail
  refine hk.mono ?_
  rintro e w1 ⟨a3, n3, c3, rfl, HS, HN3, m1, hw1⟩
  have hb1 : Below W.heap.size W w1 := by rw [hw1]; exact below_drewN (Below.refl _ _) _
  have hS := HS.out
  obtain ⟨a3', c3', e3, hc⟩ := hS
  rw [← HN3.out] at e3 hc
  injection e3 with e4 _ e5
  subst e4 e5
  have HC : Hid _ := hc
  have HN : Hid (A.length = n3) := HN3.out.symm
  have hn3 : n3 ≤ 64 := by rw [HN3.out]; exact hset
  clear hk hc HS HN3 hw1 hset
  go_wp2
  go_loopw [5, 6] (fun o i wr => ∃ k : Nat, k ≤ n3 ∧ i = .int .i64 k ∧ wr.ownsRow W.heap.size 2 1 o ((A.take k).filter f).length (intv ((A.take k).filter f)) ∧ Below W.heap.size W wr) (fun _ i _ => n3 - (intOf i).toNat)
  case atStart => exact ⟨0, Nat.zero_le _, rfl, by simpa [intv] using World.ownsRow_nil _ _ _ _, hb1⟩
  case round =>
    obtain ⟨k, hk, rfl, hrow, hB⟩ := hrel
    have HROW : Hid _ := hrow
    clear hrow
    by_cases hlt2 : k < n3
    · obtain ⟨bb, off, rfl, hb, hcell⟩ := HC.out (by omega)
      have d0 := hcell k hlt2
      obtain ⟨x, hx⟩ : ∃ x, nth A k = x := ⟨_, rfl⟩
      have HX : Hid (nth A k = x) := hx
      rw [hx] at d0
      have hlt' : (k : Int) < (n3 : Int) := by omega
      have d1 := (hB.cell (p := ⟨bb, off + k, none⟩) hb).trans d0
      have ki := kin x wr hB
      clear hx hcell d0
      obtain ⟨bo, hbo⟩ : ∃ bo, (tkS b).contains x = bo := ⟨_, rfl⟩
      rw [hbo] at ki
      have HB : Hid (f x = bo) := by unfold Hid; rw [HF.out, hbo]
      clear hbo
      cases bo
      · go_wp2_with fail
        refine ki.mono ?_
        rintro e w3 ⟨rfl, q, hq⟩
        have hb3' : Below wr.heap.size wr w3 := by rw [hq]; exact below_drewN (Below.refl _ _) _
        have hB3 : Below W.heap.size W w3 := hB.trans (hb3'.mono hB.size)
        have HNX : Hid (((A.take (k + 1)).filter f) = (A.take k).filter f) := by unfold Hid; rw [filt_no A f k (by rw [HN.out]; exact hlt2) (by rw [HX.out]; exact HB.out)]
        have HR3 : Hid _ := own_keepB HROW.out hb3'
        clear hq hb3' ki d1 hB
        go_wp2
        go_roundw
        case rel => exact ⟨k + 1, by omega, by go_num, by rw [HNX.out]; exact HR3.out, hB3⟩
        case measure => simp [intOf]; omega
      · go_wp2_with fail
        refine ki.mono ?_
        rintro e w3 ⟨rfl, q, hq⟩
        have hb3' : Below wr.heap.size wr w3 := by rw [hq]; exact below_drewN (Below.refl _ _) _
        have d2 := (hb3'.cell (p := ⟨bb, off + k, none⟩) (Nat.lt_of_lt_of_le hb hB.size)).trans d1
        have hB3 : Below W.heap.size W w3 := hB.trans (hb3'.mono hB.size)
        have hrow3 := World.ownsRow.alloc (own_keepB HROW.out hb3') (Obj.cells #[.int .i64 x] 2)
        have hlen := filt_len A f k
        have HNX : Hid (((A.take (k + 1)).filter f) = (A.take k).filter f ++ [x]) := by unfold Hid; rw [filt_yes A f k (by rw [HN.out]; exact hlt2) (by rw [HX.out]; exact HB.out), HX.out]
        have HBA : Hid (Below W.heap.size W (w3.alloc (Obj.cells #[.int .i64 x] 2))) := hB3.alloc hB3.size _
        have hsz := HBA.out.size
        generalize (A.take k).filter f = L at *
        clear hq hb3' ki d1 hB
        go_wp2_with (at_builtin; refine wpList_app_sr _ rfl _ _ rfl W.heap.size _ _ L rfl hrow3 rfl _ [x] rfl (one_si w3 x) (by simp; omega) hsz ?_; intro v' w4 hown' hbel)
        go_roundw
        case rel => exact ⟨k + 1, by omega, by go_num, by rw [HNX.out, List.length_append]; exact hown', HBA.out.trans hbel⟩
        case measure => simp [intOf]; omega
    · have hlt' : ¬ (k : Int) < (n3 : Int) := by omega
      obtain rfl : k = n3 := by omega
      have HTK : Hid (A.take k = A) := by unfold Hid; rw [← HN.out]; exact List.take_length
      have HR4 := HROW.out
      rw [HTK.out] at HR4
      obtain ⟨p, c, rfl⟩ := own_slice HR4
      have HR5 : Hid _ := HR4
      clear HR4 HROW
      generalize hLL : (A.filter f).length = LL at HR5
      have HLL : Hid ((A.filter f).length = LL) := hLL
      clear hLL
      go_wp2
      go_ret
      exact ⟨_, rfl, by rw [HLL.out]; exact HR5.out, hB⟩

set_option maxRecDepth 100000 in
set_option maxHeartbeats 4000000 in
theorem refless_any (s1 s2 : Value) (a b : List Int) (W : World) (h1 : Si W s1 a) (h2 : Si W s2 b) :
    Calls Tryz.prog 17 #[s1, s2] W fun e w' => ∃ v, e = .returned v ∧ w'.ownsRow W.heap.size 2 1 v (lessL (tkS a) (tkS b)).length (intv (lessL (tkS a) (tkS b))) ∧ Below W.heap.size W w' := by
  have hk := taken_any s1 a W h1
  have kin := fun v X (hX : Below W.heap.size W X) => refin_any v s2 b X (h2.below hX)
  have hspec : lessL (tkS a) (tkS b) = (tkS a).filter (fun x => !(tkS b).contains x) := rfl
  rw [hspec]
  obtain ⟨f, hf⟩ : ∃ f : Int → Bool, (fun x => !(tkS b).contains x) = f := ⟨_, rfl⟩
  have HF : Hid (∀ x, f x = !(tkS b).contains x) := fun x => by rw [← hf]
  rw [hf]
  clear hspec hf
  have hset := (tkS_set a).1
  generalize tkS a = A at hk hset ⊢
  obtain ⟨a1, c1, rfl, _⟩ := h1
  obtain ⟨a2, c2, rfl, _⟩ := h2
  generalize a.length = n1 at *
  generalize b.length = n2 at *
  go_enter Tryz.func17, Tryz.ntmps17
  go_wp2_with fail
  refine hk.mono ?_
  rintro e w1 ⟨a3, n3, c3, rfl, HS, HN3, m1, hw1⟩
  have hb1 : Below W.heap.size W w1 := by rw [hw1]; exact below_drewN (Below.refl _ _) _
  have hS := HS.out
  obtain ⟨a3', c3', e3, hc⟩ := hS
  rw [← HN3.out] at e3 hc
  injection e3 with e4 _ e5
  subst e4 e5
  have HC : Hid _ := hc
  have HN : Hid (A.length = n3) := HN3.out.symm
  have hn3 : n3 ≤ 64 := by rw [HN3.out]; exact hset
  clear hk hc HS HN3 hw1 hset
  go_wp2
  go_loopw [5, 6] (fun o i wr => ∃ k : Nat, k ≤ n3 ∧ i = .int .i64 k ∧ wr.ownsRow W.heap.size 2 1 o ((A.take k).filter f).length (intv ((A.take k).filter f)) ∧ Below W.heap.size W wr) (fun _ i _ => n3 - (intOf i).toNat)
  case atStart => exact ⟨0, Nat.zero_le _, rfl, by simpa [intv] using World.ownsRow_nil _ _ _ _, hb1⟩
  case round =>
    obtain ⟨k, hk, rfl, hrow, hB⟩ := hrel
    have HROW : Hid _ := hrow
    clear hrow
    by_cases hlt2 : k < n3
    · obtain ⟨bb, off, rfl, hb, hcell⟩ := HC.out (by omega)
      have d0 := hcell k hlt2
      obtain ⟨x, hx⟩ : ∃ x, nth A k = x := ⟨_, rfl⟩
      have HX : Hid (nth A k = x) := hx
      rw [hx] at d0
      have hlt' : (k : Int) < (n3 : Int) := by omega
      have d1 := (hB.cell (p := ⟨bb, off + k, none⟩) hb).trans d0
      have ki := kin x wr hB
      clear hx hcell d0
      obtain ⟨bo, hbo⟩ : ∃ bo, (tkS b).contains x = bo := ⟨_, rfl⟩
      rw [hbo] at ki
      have HB : Hid (f x = !bo) := by unfold Hid; rw [HF.out, hbo]
      clear hbo
      cases bo
      · go_wp2_with fail
        refine ki.mono ?_
        rintro e w3 ⟨rfl, q, hq⟩
        have hb3' : Below wr.heap.size wr w3 := by rw [hq]; exact below_drewN (Below.refl _ _) _
        have d2 := (hb3'.cell (p := ⟨bb, off + k, none⟩) (Nat.lt_of_lt_of_le hb hB.size)).trans d1
        have hB3 : Below W.heap.size W w3 := hB.trans (hb3'.mono hB.size)
        have hrow3 := World.ownsRow.alloc (own_keepB HROW.out hb3') (Obj.cells #[.int .i64 x] 2)
        have hlen := filt_len A f k
        have HNX : Hid (((A.take (k + 1)).filter f) = (A.take k).filter f ++ [x]) := by unfold Hid; rw [filt_yes A f k (by rw [HN.out]; exact hlt2) (by rw [HX.out]; exact HB.out), HX.out]
        have HBA : Hid (Below W.heap.size W (w3.alloc (Obj.cells #[.int .i64 x] 2))) := hB3.alloc hB3.size _
        have hsz := HBA.out.size
        generalize (A.take k).filter f = L at *
        clear hq hb3' ki d1 hB
        go_wp2_with (at_builtin; refine wpList_app_sr _ rfl _ _ rfl W.heap.size _ _ L rfl hrow3 rfl _ [x] rfl (one_si w3 x) (by simp; omega) hsz ?_; intro v' w4 hown' hbel)
        go_roundw
        case rel => exact ⟨k + 1, by omega, by go_num, by rw [HNX.out, List.length_append]; exact hown', HBA.out.trans hbel⟩
        case measure => simp [intOf]; omega
      · go_wp2_with fail
        refine ki.mono ?_
        rintro e w3 ⟨rfl, q, hq⟩
        have hb3' : Below wr.heap.size wr w3 := by rw [hq]; exact below_drewN (Below.refl _ _) _
        have hB3 : Below W.heap.size W w3 := hB.trans (hb3'.mono hB.size)
        have HNX : Hid (((A.take (k + 1)).filter f) = (A.take k).filter f) := by unfold Hid; rw [filt_no A f k (by rw [HN.out]; exact hlt2) (by rw [HX.out]; exact HB.out)]
        have HR3 : Hid _ := own_keepB HROW.out hb3'
        clear hq hb3' ki d1 hB
        go_wp2
        go_roundw
        case rel => exact ⟨k + 1, by omega, by go_num, by rw [HNX.out]; exact HR3.out, hB3⟩
        case measure => simp [intOf]; omega
    · have hlt' : ¬ (k : Int) < (n3 : Int) := by omega
      obtain rfl : k = n3 := by omega
      have HTK : Hid (A.take k = A) := by unfold Hid; rw [← HN.out]; exact List.take_length
      have HR4 := HROW.out
      rw [HTK.out] at HR4
      obtain ⟨p, c, rfl⟩ := own_slice HR4
      have HR5 : Hid _ := HR4
      clear HR4 HROW
      generalize hLL : (A.filter f).length = LL at HR5
      have HLL : Hid ((A.filter f).length = LL) := hLL
      clear hLL
      go_wp2
      go_ret
      exact ⟨_, rfl, by rw [HLL.out]; exact HR5.out, hB⟩
end Go.Proofs.YtacnhkaibcjjgaaGreatDoor
