/-
  What is proved here: what the reference's Ranges returns.
-/
import Derived.Test.YtgcgomofmicchaaDoorYj
namespace Go.Proofs.YtgcgomofmicchaaDoor
open Go.RowKit Go.Shelf

theorem runs_last (vs : List Int) (v : Int) : 0 < (runs (vs ++ [v])).length ∧ hi (runs (vs ++ [v])) ((runs (vs ++ [v])).length - 1) = v := by
  rw [runs_snoc]
  generalize runs vs = o
  unfold step
  split
  · rename_i h
    refine ⟨by rw [List.length_set]; exact h.1, ?_⟩
    rw [List.length_set]
    unfold hi
    rw [List.getElem?_set, if_pos rfl, if_pos (by omega)]
    rfl
  · refine ⟨by simp, ?_⟩
    rw [List.length_append, List.length_singleton, Nat.add_sub_cancel, hi_last]
theorem step_yes (f : Int) (p : Nat → Bool) (k : Nat) (h0 : 0 < k) (h : p (k - 1) = true) : 0 < (runs (bv f p k)).length ∧ step (runs (bv f p k)) (f + (k : Int)) = (runs (bv f p k)).set ((runs (bv f p k)).length - 1) (lo (runs (bv f p k)) ((runs (bv f p k)).length - 1), f + (k : Int)) := by
  obtain ⟨m, rfl⟩ : ∃ m, k = m + 1 := ⟨k - 1, by omega⟩
  rw [Nat.add_sub_cancel] at h
  rw [bv_yes f p m h]
  obtain ⟨h1, h2⟩ := runs_last (bv f p m) (f + (m : Int))
  refine ⟨h1, ?_⟩
  generalize runs (bv f p m ++ [f + (m : Int)]) = o at h1 h2 ⊢
  unfold step
  rw [if_pos ⟨h1, by omega⟩]
theorem step_no (f : Int) (p : Nat → Bool) (k : Nat) (h : k = 0 ∨ p (k - 1) = false) : step (runs (bv f p k)) (f + (k : Int)) = runs (bv f p k) ++ [(f + (k : Int), f + (k : Int))] := by
  unfold step
  rw [if_neg]
  rintro ⟨h1, h2⟩
  cases k with
  | zero => simp [bv, runs] at h1
  | succ m =>
    have hf : p m = false := by simpa using h
    rw [bv_no f p m hf] at h1 h2
    rcases List.eq_nil_or_concat (bv f p m) with e | ⟨ys, u, e⟩
    · rw [e] at h1; simp [runs] at h1
    · rw [List.concat_eq_append] at e
      have hu : u ∈ bv f p m := by rw [e]; simp
      rw [mem_bv] at hu
      obtain ⟨i, hi', _, hu⟩ := hu
      rw [e] at h2
      rw [(runs_last ys u).2] at h2
      omega
theorem runs_len (f : Int) (p : Nat → Bool) (n : Nat) : (runs (bv f p n)).length ≤ n := by
  induction n with
  | zero => simp [bv, runs]
  | succ n ih =>
    by_cases h : p n = true
    · rw [bv_yes f p n h, runs_snoc]
      have := (step_length (runs (bv f p n)) (f + (n : Int))).2
      omega
    · rw [bv_no f p n (by simpa using h)]; omega

set_option maxRecDepth 100000 in
set_option maxHeartbeats 2000000 in
theorem refranges_any (b g c : Nat) (f : Int) (L : List Bool) (W : World) (h : Ref W b g c f L) (hz : Rz f L) (hle : (runs (bv f (lat L) L.length)).length ≤ 4096) :
    Calls Tryd.prog 47 #[.pointer (some ⟨b, 0, none⟩)] W fun e w' => ∃ s, e = .returned (.tuple #[s, .int .i64 0]) ∧ w'.ownsRow W.heap.size 62 2 s (runs (bv f (lat L) L.length)).length (flat (runs (bv f (lat L) L.length))) ∧ Below W.heap.size W w' := by
  obtain ⟨i0, hi0, hz0, hz1, hz2⟩ := info_parts Tryd.info62
  have c0 := h.c0; have c1 := h.c1
  have hbl := h.b_lt; have hgl := h.g_lt
  have z1 := hz.lo; have z2 := hz.one; have z3 := hz.most; have z4 := hz.hi
  have hcw : ∀ k, k < L.length → W.cell? ⟨g, k, none⟩ = some (.bool (lat L k)) := fun k hk => (h.cw k hk).1
  obtain ⟨n, hn⟩ : ∃ n, L.length = n := ⟨_, rfl⟩
  rw [hn] at c1 hcw z2 z3 z4 hle ⊢
  have HCW : Hid (∀ k, k < n → W.cell? ⟨g, k, none⟩ = some (.bool (lat L k))) := hcw
  have HLE : Hid ((runs (bv f (lat L) n)).length ≤ 4096) := hle
  clear h hz hn hcw hle
  go_enter Tryd.func47, Tryd.ntmps47
  go_wp2
  go_loopw [4, 5] (fun o i wr => ∃ k : Nat, k ≤ n ∧ i = .int .i64 k ∧ wr.ownsRow W.heap.size 62 2 o (runs (bv f (lat L) k)).length (flat (runs (bv f (lat L) k))) ∧ Below W.heap.size W wr) (fun _ i _ => n - (intOf i).toNat)
  case atStart => exact ⟨0, Nat.zero_le _, rfl, World.ownsRow_nil _ _ _ _, Below.refl _ _⟩
  case round =>
    obtain ⟨k, hk, rfl, hrow, hB⟩ := hrel
    have d0 := (hB.cell (p := ⟨b, 0, none⟩) hbl).trans c0
    have d1 := (hB.cell (p := ⟨b, 1, none⟩) hbl).trans c1
    have hsz := hB.size
    by_cases hlt : k < n
    · have d2 := (hB.cell (p := ⟨g, k, none⟩) hgl).trans (HCW.out k hlt)
      by_cases ht : lat L k = true
      · rw [ht] at d2
        have hy : runs (bv f (lat L) (k + 1)) = step (runs (bv f (lat L) k)) (f + (k : Int)) := by rw [bv_yes f (lat L) k ht, runs_snoc]
        have hl := runs_len f (lat L) k
        by_cases hj : 0 < k ∧ lat L (k - 1) = true
        · obtain ⟨hk0, hj⟩ := hj
          have d3 := (hB.cell (p := ⟨g, k - 1, none⟩) hgl).trans (HCW.out (k - 1) (by omega))
          rw [hj] at d3
          obtain ⟨s1, s2⟩ := step_yes f (lat L) k hk0 hj
          rw [s2] at hy
          obtain ⟨o, ho⟩ : ∃ o, runs (bv f (lat L) k) = o := ⟨_, rfl⟩
          rw [ho] at hrow hl hy s1
          have HY : Hid (runs (bv f (lat L) (k + 1)) = o.set (o.length - 1) (lo o (o.length - 1), f + (k : Int))) := hy
          obtain ⟨go, co, e1, hg1, hg2, hcells⟩ := own_some hrow s1
          subst e1
          have hset := own_set (j := (o.length - 1) * 2 + 1) hrow (.int .i64 (f + (k : Int)))
          rw [flat_set o (o.length - 1) (f + (k : Int)) (by omega)] at hset
          have hBs : Below W.heap.size W (wr.setCell ⟨go, (o.length - 1) * 2 + 1, none⟩ (.int .i64 (f + (k : Int)))) := hB.setCell (p := ⟨go, _, none⟩) (by show W.heap.size ≤ go; omega) _
          obtain ⟨e3, e4⟩ := flat_even o (o.length - 1) (by omega)
          have d4 := hcells _ _ e4
          have fz := own_frozen hrow ((o.length - 1) * 2 + 1)
          obtain ⟨m, hm⟩ : ∃ m, o.length = m := ⟨_, rfl⟩
          have HM : Hid (o.length = m) := hm
          rw [hm] at hset hBs d4 fz s1 hl
          have HF : Hid ((wr.setCell ⟨go, (m - 1) * 2 + 1, none⟩ (.int .i64 (f + (k : Int)))).ownsRow W.heap.size 62 2 (.slice (some ⟨go, 0, none⟩) m co) m (flat (o.set (m - 1) (lo o (m - 1), f + (k : Int)))) ∧ Below W.heap.size W (wr.setCell ⟨go, (m - 1) * 2 + 1, none⟩ (.int .i64 (f + (k : Int))))) := ⟨hset, hBs⟩
          have hd0 : decide (0 < k) = true := by simpa using hk0
          have hk1 : (k : Int) - 1 = ((k - 1 : Nat) : Int) := by omega
          have hm1 : (m : Int) - 1 = ((m - 1 : Nat) : Int) := by omega
          rw [hm]
          clear hset hBs hy ho hm ht hj s2 hrow hcells e3 e4 hB
          go_wp2
          go_roundw
          case rel => exact ⟨k + 1, by omega, by go_num, by rw [HY.out, List.length_set, HM.out]; exact HF.out.1, HF.out.2⟩
          case measure => simp [intOf]; omega
        · have hj' : k = 0 ∨ lat L (k - 1) = false := by
            rcases Nat.eq_zero_or_pos k with e | e
            · exact .inl e
            · exact .inr (by cases h9 : lat L (k - 1) with
                | true => exact absurd ⟨e, h9⟩ hj
                | false => rfl)
          rw [step_no f (lat L) k hj'] at hy
          have d3 : 0 < k → wr.cell? ⟨g, k - 1, none⟩ = some (.bool false) := fun e => by
            have := (hB.cell (p := ⟨g, k - 1, none⟩) hgl).trans (HCW.out (k - 1) (by omega))
            rcases hj' with e' | e'
            · omega
            · rw [e'] at this; exact this
          obtain ⟨o, ho⟩ : ∃ o, runs (bv f (lat L) k) = o := ⟨_, rfl⟩
          rw [ho] at hrow hl hy
          obtain ⟨m, hm⟩ : ∃ m, o.length = m := ⟨_, rfl⟩
          have HM : Hid (o.length = m) := hm
          rw [hm] at hrow hl
          have HY : Hid (runs (bv f (lat L) (k + 1)) = o ++ [(f + (k : Int), f + (k : Int))]) := hy
          clear hy ho hm ht hj hj'
          rcases Nat.eq_zero_or_pos k with hk0 | hk0
          · have hd0 : decide (0 < k) = false := by simp; omega
            clear d3
            subst hk0
            have HY0 : Hid (runs (bv f (lat L) 1) = o ++ [(f, f)]) := by
              have h9 := HY.out
              rw [show f + ((0 : Nat) : Int) = f by omega] at h9
              exact h9
            go_wp2_with (at_builtin; refine wpList_append_own _ rfl _ _ 22 rfl W.heap.size 62 i0 (.agg #[.int .i64 0, .int .i64 0]) 2 16 Tryd.underlying22 hi0 hz0 hz1 hz2 rfl (by decide) _ _ _ rfl (World.ownsRow.alloc hrow _) ⟨wr.heap.size, 0, none⟩ 1 1 [.int .i64 f, .int .i64 f] rfl rfl (cell_two_new _ _ _ _) (by simp [Value.oneCell']) (by unfold maxLen; omega) (by omega) (by simp; omega) ?_; intro v' w1 hown' hgrow _; have hB1 : Below W.heap.size W w1 := (hB.alloc hsz _).grown hgrow (by simp; omega) (fun j e => (World.ownsRow.lt hrow j e).1); clear hgrow)
            go_roundw
            case rel =>
              refine ⟨1, by omega, rfl, ?_, hB1⟩
              rw [HY0.out, List.length_append, flat_snoc, HM.out]
              exact hown'
            case measure => simp [intOf]; omega
          · have hd0 : decide (0 < k) = true := by simpa using hk0
            have hk1 : (k : Int) - 1 = ((k - 1 : Nat) : Int) := by omega
            have d4 := d3 hk0
            clear d3
            go_wp2_with (at_builtin; refine wpList_append_own _ rfl _ _ 22 rfl W.heap.size 62 i0 (.agg #[.int .i64 0, .int .i64 0]) 2 16 Tryd.underlying22 hi0 hz0 hz1 hz2 rfl (by decide) _ _ _ rfl (World.ownsRow.alloc hrow _) ⟨wr.heap.size, 0, none⟩ 1 1 [.int .i64 (f + (k : Int)), .int .i64 (f + (k : Int))] rfl rfl (cell_two_new _ _ _ _) (by simp [Value.oneCell']) (by unfold maxLen; omega) (by omega) (by simp; omega) ?_; intro v' w1 hown' hgrow _; have hB1 : Below W.heap.size W w1 := (hB.alloc hsz _).grown hgrow (by simp; omega) (fun j e => (World.ownsRow.lt hrow j e).1); clear hgrow)
            go_roundw
            case rel =>
              refine ⟨k + 1, by omega, by go_num, ?_, hB1⟩
              rw [HY.out, List.length_append, flat_snoc, HM.out]
              exact hown'
            case measure => simp [intOf]; omega
      · have ht' : lat L k = false := by simpa using ht
        rw [ht'] at d2
        have HY : Hid (bv f (lat L) (k + 1) = bv f (lat L) k) := bv_no f (lat L) k ht'
        clear ht ht'
        go_wp2
        go_roundw
        case rel => exact ⟨k + 1, by omega, by go_num, by rw [HY.out]; exact hrow, hB⟩
        case measure => simp [intOf]; omega
    · obtain rfl : k = n := by omega
      have hle := HLE.out
      obtain ⟨o, ho⟩ : ∃ o, runs (bv f (lat L) k) = o := ⟨_, rfl⟩
      have HO : Hid (runs (bv f (lat L) k) = o) := ho
      rw [ho] at hrow hle
      obtain ⟨av, cv, rfl⟩ : ∃ a c, u4 = .slice a o.length c := by
        rcases hrow.2 with ⟨e1, e2⟩ | ⟨g', cap', cur, e1, _⟩
        · exact ⟨none, 0, by rw [e1]; congr 1; have := hrow.1; rw [e2] at this; simp at this; omega⟩
        · exact ⟨_, _, e1⟩
      have hle2 : decide (4096 < (o.length : Int)) = false := by simp; omega
      clear ho hle
      go_wp2
      go_ret2
      exact ⟨_, rfl, by rw [HO.out]; exact hrow, hB⟩
end Go.Proofs.YtgcgomofmicchaaDoor
