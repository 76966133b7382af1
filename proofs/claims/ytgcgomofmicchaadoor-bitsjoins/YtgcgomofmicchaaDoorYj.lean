/-
  What is proved here: what the reference's Has and Values return.
-/
import Derived.Test.YtgcgomofmicchaaDoorYi
namespace Go.Proofs.YtgcgomofmicchaaDoor
open Go.RowKit Go.Shelf

theorem lat_of (L : List Bool) (v f : Int) (n : Nat) (h : v - f = (n : Int)) : lat L (v - f).toNat = lat L n := by rw [h]; rfl
set_option maxHeartbeats 1000000 in
theorem refhas_any (b g c : Nat) (f v : Int) (L : List Bool) (W : World) (h : Ref W b g c f L) (hz : Rz f L) :
    Calls Tryd.prog 50 #[.pointer (some ⟨b, 0, none⟩), .int .i64 v] W fun e w' => e = .returned (.bool (fitB f L.length v && lat L (v - f).toNat)) ∧ ∃ m, w' = W.drewN m := by
  have c0 := h.c0; have c1 := h.c1
  have z1 := hz.lo; have z2 := hz.one; have z3 := hz.most; have z4 := hz.hi
  have k1 := fun m => reffits_any b g c f v L (W.drewN m) (h.drawn m) hz
  by_cases hf : f ≤ v ∧ v < f + L.length
  · rw [fitB_yes hf] at k1 ⊢
    obtain ⟨n, hn⟩ : ∃ n : Nat, v - f = (n : Int) := ⟨(v - f).toNat, by omega⟩
    rw [lat_of L v f n hn]
    have hcw := (h.cw n (by omega)).1
    obtain ⟨t, ht⟩ : ∃ t, lat L n = t := ⟨_, rfl⟩
    obtain ⟨N, hN⟩ : ∃ N, L.length = N := ⟨_, rfl⟩
    rw [ht] at hcw ⊢
    rw [hN] at c1 hf z2 z3 z4
    obtain ⟨hf1, hf2⟩ := hf
    have hn1 : (n : Int) < (N : Int) := by omega
    have hvf : wrap64 (v - f) = (n : Int) := by rw [hn]; unfold wrap64; omega
    clear h hz ht hN
    go_enter Tryd.func50, Tryd.ntmps50
    go_wp2
    go_quiet ((go_at_call 53; exact Calls.quiet_of (k1 _)))
    go_wp2
    go_ret
    exact ⟨rfl, _, rfl⟩
  · rw [fitB_no hf] at k1 ⊢
    clear h hz hf
    go_enter Tryd.func50, Tryd.ntmps50
    go_wp2
    go_quiet ((go_at_call 53; exact Calls.quiet_of (k1 _)))
    go_wp2
    go_ret
    exact ⟨rfl, _, rfl⟩

theorem Tryd.info2 : (Tryd.prog.info? 2).map (fun i => (i.zero, i.size, i.bytes)) = some (some (.int .i64 0), 1, 8) := by kernel_rfl
/-- Numbers as values. -/
def nums (ds : List Int) : List Value := ds.map (Value.int .i64)
theorem bv_len (f : Int) (p : Nat → Bool) (n : Nat) : (bv f p n).length ≤ n := by
  induction n with
  | zero => simp [bv]
  | succ n ih => unfold bv; rw [List.length_append]; split <;> simp <;> omega
theorem bv_yes (f : Int) (p : Nat → Bool) (n : Nat) (h : p n = true) : bv f p (n + 1) = bv f p n ++ [f + (n : Int)] := by
  show bv f p n ++ _ = _
  rw [h]; rfl
theorem bv_no (f : Int) (p : Nat → Bool) (n : Nat) (h : p n = false) : bv f p (n + 1) = bv f p n := by
  show bv f p n ++ _ = _
  rw [h]; simp
set_option maxRecDepth 100000 in
set_option maxHeartbeats 2000000 in
theorem refvalues_any (b g c : Nat) (f : Int) (L : List Bool) (W : World) (h : Ref W b g c f L) (hz : Rz f L) :
    Calls Tryd.prog 23 #[.pointer (some ⟨b, 0, none⟩)] W fun e w' => ∃ s, e = .returned s ∧ w'.ownsRow W.heap.size 2 1 s (bv f (lat L) L.length).length (nums (bv f (lat L) L.length)) ∧ Below W.heap.size W w' := by
  obtain ⟨i0, hi0, hz0, hz1, hz2⟩ := info_parts Tryd.info2
  have c0 := h.c0; have c1 := h.c1
  have hbl := h.b_lt; have hgl := h.g_lt
  have z1 := hz.lo; have z2 := hz.one; have z3 := hz.most; have z4 := hz.hi
  have hcw : ∀ k, k < L.length → W.cell? ⟨g, k, none⟩ = some (.bool (lat L k)) := fun k hk => (h.cw k hk).1
  obtain ⟨n, hn⟩ : ∃ n, L.length = n := ⟨_, rfl⟩
  rw [hn] at c1 hcw z2 z3 z4 ⊢
  have HCW : Hid (∀ k, k < n → W.cell? ⟨g, k, none⟩ = some (.bool (lat L k))) := hcw
  clear h hz hn hcw
  go_enter Tryd.func23, Tryd.ntmps23
  go_wp2
  go_loopw [3, 4] (fun o i wr => ∃ k : Nat, k ≤ n ∧ i = .int .i64 k ∧ wr.ownsRow W.heap.size 2 1 o (bv f (lat L) k).length (nums (bv f (lat L) k)) ∧ Below W.heap.size W wr) (fun _ i _ => n - (intOf i).toNat)
  case atStart => exact ⟨0, Nat.zero_le _, rfl, World.ownsRow_nil _ _ _ _, Below.refl _ _⟩
  case round =>
    obtain ⟨k, hk, rfl, hrow, hB⟩ := hrel
    have d0 := (hB.cell (p := ⟨b, 0, none⟩) hbl).trans c0
    have d1 := (hB.cell (p := ⟨b, 1, none⟩) hbl).trans c1
    have hsz := hB.size
    by_cases hlt : k < n
    · have d2 := (hB.cell (p := ⟨g, k, none⟩) hgl).trans (HCW.out k hlt)
      by_cases ht : lat L k = true
      · rw [ht] at d2
        have hy := bv_yes f (lat L) k ht
        have hl := bv_len f (lat L) k
        have HY : Hid (bv f (lat L) (k + 1) = bv f (lat L) k ++ [f + (k : Int)]) := hy
        obtain ⟨ds, hds⟩ : ∃ ds, bv f (lat L) k = ds := ⟨_, rfl⟩
        rw [hds] at hrow hl
        have HDS : Hid (bv f (lat L) k = ds) := hds
        obtain ⟨m, hm⟩ : ∃ m, ds.length = m := ⟨_, rfl⟩
        rw [hm] at hrow hl
        have HM : Hid (ds.length = m) := hm
        clear hy ht hds hm
        go_wp2_with (at_builtin; refine wpList_append_own _ rfl _ _ 48 rfl W.heap.size 2 i0 (.int .i64 0) 1 8 Tryd.underlying48 hi0 hz0 hz1 hz2 rfl (by decide) _ _ _ rfl (World.ownsRow.alloc hrow _) ⟨wr.heap.size, 0, none⟩ 1 1 [.int .i64 (f + (k : Int))] rfl rfl (cell_one_new _ _ _) (by simp [Value.oneCell']) (by unfold maxLen; omega) (by omega) (by simp; omega) ?_; intro v' w1 hown' hgrow _; have hB1 : Below W.heap.size W w1 := (hB.alloc hsz _).grown hgrow (by simp; omega) (fun j e => (World.ownsRow.lt hrow j e).1); clear hgrow)
        go_roundw
        case rel =>
          refine ⟨k + 1, by omega, by go_num, ?_, hB1⟩
          rw [HY.out, HDS.out]
          unfold nums at hown' ⊢
          rw [List.length_append, List.map_append, HM.out]
          exact hown'
        case measure => simp [intOf]; omega
      · have ht' : lat L k = false := by simpa using ht
        rw [ht'] at d2
        have hy := bv_no f (lat L) k ht'
        have HY : Hid (bv f (lat L) (k + 1) = bv f (lat L) k) := hy
        clear hy ht ht'
        go_wp2
        go_roundw
        case rel => exact ⟨k + 1, by omega, by go_num, by rw [HY.out]; exact hrow, hB⟩
        case measure => simp [intOf]; omega
    · obtain rfl : k = n := by omega
      go_wp2
      go_ret
      exact ⟨_, rfl, hrow, hB⟩
end Go.Proofs.YtgcgomofmicchaaDoor
