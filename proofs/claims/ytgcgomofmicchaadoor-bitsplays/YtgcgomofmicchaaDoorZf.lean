/-
  What is proved here: Minus of a set of the reference with itself; Or.
-/
import Derived.Test.YtgcgomofmicchaaDoorZe
import Derived.Test.YtgcgomofmicchaaDoorYo
namespace Go.Proofs.YtgcgomofmicchaaDoor
open Go.RowKit Go.Shelf
set_option linter.unusedVariables false

theorem no_bits (f : Int) (L : List Bool) : decide (0 < (bv f (lat L) L.length).length) = decide (opL (fun i => lat L i && !lat L i) L.length ≠ L) := by
  by_cases h : opL (fun i => lat L i && !lat L i) L.length = L
  · have : bv f (lat L) L.length = [] := by
      have := bv_gap f (lat L) 0 L.length (Nat.zero_le _) (fun i _ hi => by
        have h2 : lat (opL (fun i => lat L i && !lat L i) L.length) i = lat L i := by rw [h]
        rw [opL_lat _ _ _ hi] at h2
        rw [← h2]; simp)
      rw [this]; rfl
    rw [this, decide_eq_false (show ¬ (opL (fun i => lat L i && !lat L i) L.length ≠ L) from fun q => q h)]; rfl
  · have : 0 < (bv f (lat L) L.length).length := by
      apply Classical.byContradiction
      intro hno
      apply h
      have h0 : bv f (lat L) L.length = [] := List.eq_nil_of_length_eq_zero (by omega)
      refine lat_ext (opL_len _ _) (fun i hi => ?_)
      rw [opL_len] at hi
      rw [opL_lat _ _ _ hi]
      cases e : lat L i
      · rfl
      · have : f + (i : Int) ∈ bv f (lat L) L.length := (mem_bv f (lat L) L.length _).2 ⟨i, hi, e, rfl⟩
        rw [h0] at this; cases this
    rw [decide_eq_true this, decide_eq_true h]

set_option maxRecDepth 100000 in
set_option maxHeartbeats 4000000 in
theorem refminus_self (b g c : Nat) (f : Int) (L : List Bool) (W : World) (hR : Ref W b g c f L) (hz : Rz f L) (n₀ : Nat) (hn₀ : n₀ ≤ b) :
    Calls Tryd.prog 57 #[.pointer (some ⟨b, 0, none⟩), .pointer (some ⟨b, 0, none⟩)] W fun e w' => e = .returned (.bool (decide (opL (fun i => lat L i && !lat L i) L.length ≠ L))) ∧ (∃ g' c', W.heap.size ≤ g' ∧ Ref w' b g' c' f (opL (fun i => lat L i && !lat L i) L.length)) ∧ Below n₀ W w' ∧ (∀ B, B < W.heap.size → B ≠ b → w'.heap[B]? = W.heap[B]?) := by
  have z1 := hz.lo; have z2 := hz.one; have z3 := hz.most; have z4 := hz.hi
  have kh := fun m k (hk : k < L.length) => by have q := refhas_any b g c f (f + (k : Nat)) L (W.drewN m) (hR.drawn m) hz; rw [has_self hk] at q; exact q
  have kv := fun m => refvalues_any b g c f L (W.drewN m) (hR.drawn m) hz
  rw [← no_bits f L]
  have d0 := hR.c0
  have d1 := hR.c1
  have hbl := hR.b_lt
  have hcw : ∀ k, k < L.length → W.cell? ⟨g, k, none⟩ = some (.bool (lat L k)) := fun k hk => (hR.cw k hk).1
  have hbr := hR.1
  obtain ⟨n, hn⟩ : ∃ n, L.length = n := ⟨_, rfl⟩
  rw [hn] at z2 z3 z4 d1 hcw kh
  have HCW : Hid (∀ k, k < n → W.cell? ⟨g, k, none⟩ = some (.bool (lat L k))) := hcw
  have KH : Hid _ := kh
  have KV : Hid _ := kv
  have HN : Hid (L.length = n) := hn
  have HBR : Hid _ := hbr
  have hp1 := neq_ptr_same ⟨b, 0, none⟩
  have hp2 := eql_ptr_same ⟨b, 0, none⟩
  clear hn hR hz hcw kh kv hbr
  go_enter Tryd.func57, Tryd.ntmps57
  go_wp2
  go_loopw [5, 6, 7] (fun a i _ wr => ∃ k m : Nat, k ≤ n ∧ i = .int .i64 k ∧ a = .bool false ∧ wr = W.drewN m) (fun _ i _ _ => n - (intOf i).toNat)
  case atStart => exact ⟨0, 0, Nat.zero_le _, rfl, rfl, rfl⟩
  case round =>
    obtain ⟨k, m, hk, rfl, rfl, rfl⟩ := hrel
    by_cases hlt : k < n
    · have dw := HCW.out k hlt
      have k1 := KH.out m k hlt
      have hlt' : (k : Int) < (n : Int) := by omega
      cases e1 : lat L k
      · rw [e1] at dw
        clear k1 e1
        go_wp2
        all_goals
          go_roundw
          case rel => exact ⟨k + 1, _, by omega, by go_num, rfl, rfl⟩
          case measure => simp [intOf]; omega
      · rw [e1] at dw k1
        clear e1
        go_wp2_with (go_at_call 50; refine k1.mono ?_; clear k1; rintro e w1 ⟨rfl, m1, rfl⟩)
        all_goals
          go_roundw
          case rel => exact ⟨k + 1, _, by omega, by go_num, rfl, rfl⟩
          case measure => simp [intOf]; omega
    · obtain rfl : k = n := by omega
      go_wp2_with fail
      refine (KV.out m).mono ?_
      rintro e w1 ⟨s, rfl, hown, hb1⟩
      obtain ⟨sa, sc, rfl⟩ : ∃ a c, s = .slice a (bv f (lat L) L.length).length c := by
        rcases hown.2 with ⟨e1, e2⟩ | ⟨g', cap', cur, e1, _⟩
        · exact ⟨none, 0, by rw [e1, e2]⟩
        · exact ⟨_, _, e1⟩
      have hcnt := bv_len f (lat L) L.length
      rw [HN.out] at hcnt ⊢
      obtain ⟨q, hq⟩ : ∃ q, (bv f (lat L) k).length = q := ⟨_, rfl⟩
      rw [hq] at hcnt ⊢
      have HQ : Hid ((bv f (lat L) k).length = q) := hq
      have hs1 : W.heap.size ≤ w1.heap.size := hb1.size
      have e0 := (hb1.cell (p := ⟨b, 0, none⟩) hbl).trans d0
      have e1 := (hb1.cell (p := ⟨b, 1, none⟩) hbl).trans d1
      have hrow : w1.heap[b]? = some (.cells #[.int .i64 f, .slice (some ⟨g, 0, none⟩) L.length c] 40 (0, 0)) := (hb1.block b hbl).trans HBR.out
      have fb : w1.frozen? ⟨b, 1, none⟩ = false := by simp [World.frozen?, hrow]
      have HB1 : Hid (Below W.heap.size W w1) := (below_drewN (Below.refl W.heap.size W) m).trans hb1
      have HRW : Hid (w1.heap[b]? = some (.cells #[.int .i64 f, .slice (some ⟨g, 0, none⟩) L.length c] 40 (0, 0))) := hrow
      clear hown hb1 hq hrow
      have hmk := run_make_row' (P := Tryd.prog) 38 4 (.bool false) 1 Tryd.underlying38 Tryd.info4 rfl .i64 .i64 k (by omega) (by omega)
      have hra : (w1.alloc (Obj.cells (madeCells #[Value.bool false] k) 4)).heap[b]? = w1.heap[b]? := Below.heap_alloc w1 _ b (by omega)
      have ea := Lib.cell?_alloc_some (Obj.cells (madeCells #[Value.bool false] k) 4) e1
      have fa : (w1.alloc (Obj.cells (madeCells #[Value.bool false] k) 4)).frozen? ⟨b, 1, none⟩ = false := by
        have := HRW.out; rw [← hra] at this; simp [World.frozen?, this]
      have HRA : Hid ((w1.alloc (Obj.cells (madeCells #[Value.bool false] k) 4)).heap[b]? = w1.heap[b]?) := hra
      clear hra hp1 hp2
      go_wp2
      go_ret
      refine ⟨by rw [HN.out, HQ.out]; rfl, ⟨w1.heap.size, k, hs1, ?_⟩, ?_, fun B hB1 hB2 => ?_⟩
      · rw [HN.out]
        refine ref_of (p := fun i => lat L i && !lat L i) (by omega) ?_ ?_
        · have h9 := row_set (HRA.out.trans HRW.out) 1 (.slice (some ⟨w1.heap.size, 0, none⟩) k k)
          exact h9
        · exact ((World.rowIs_made w1 (.bool false) k 4).setOther (a := ⟨b, 1, none⟩) (by show w1.heap.size ≠ b; omega) _).congr (fun i _ => by simp)
      · exact ((HB1.out.mono (show n₀ ≤ W.heap.size by omega)).alloc (by omega) _).setCell (p := ⟨b, 1, none⟩) hn₀ _
      · exact (Below.heap_setCell _ _ _ B hB2).trans ((Below.heap_alloc w1 _ B (by omega)).trans (HB1.out.block B hB1))

/-- The places with some values put in. -/
def orL (f : Int) (L : List Bool) (vs : List Int) : List Bool := opL (fun i => lat L i || decide (f + (i : Int) ∈ vs)) L.length
theorem orL_len (f : Int) (L : List Bool) (vs : List Int) : (orL f L vs).length = L.length := opL_len _ _
theorem orL_lat (f : Int) (L : List Bool) (vs : List Int) (i : Nat) (hi : i < L.length) : lat (orL f L vs) i = (lat L i || decide (f + (i : Int) ∈ vs)) := opL_lat _ _ _ hi
theorem orL_nil (f : Int) (L : List Bool) : orL f L [] = L := lat_ext (orL_len _ _ _) (fun i hi => by rw [orL_len] at hi; rw [orL_lat _ _ _ _ hi]; simp)
theorem orL_snoc (f : Int) (L : List Bool) (vs : List Int) (v : Int) (n : Nat) (hn : v - f = (n : Int)) (hL : n < L.length) : (orL f L vs).set n true = orL f L (vs ++ [v]) := lat_ext (by rw [List.length_set, orL_len, orL_len]) (fun i hi => by
  rw [List.length_set, orL_len] at hi
  rw [lat_set _ _ _ _ (by rw [orL_len]; exact hL), orL_lat _ _ _ _ hi, orL_lat _ _ _ _ hi]
  by_cases e : n = i
  · subst e
    have : f + (n : Int) ∈ vs ++ [v] := by simp; right; omega
    simp [this]
  · rw [if_neg e]
    have : (f + (i : Int) ∈ vs ++ [v]) ↔ (f + (i : Int) ∈ vs) := by
      simp; omega
    simp [this])
theorem orL_dif (f : Int) (L : List Bool) (vs : List Int) (v : Int) (n : Nat) (hn : v - f = (n : Int)) (hL : n < L.length) : decide (orL f L (vs ++ [v]) ≠ L) = (decide (orL f L vs ≠ L) || (lat (orL f L vs) n != true)) := by
  rw [← orL_snoc f L vs v n hn hL]
  cases e : lat (orL f L vs) n
  · have : (orL f L vs).set n true ≠ L := fun q => by
      have h1 : lat ((orL f L vs).set n true) n = true := by rw [lat_set _ _ _ _ (by rw [orL_len]; exact hL), if_pos rfl]
      rw [q] at h1
      rw [orL_lat _ _ _ _ hL, h1] at e
      simp at e
    rw [decide_eq_true this]; simp
  · have : (orL f L vs).set n true = orL f L vs := lat_ext (List.length_set) (fun i hi => by
      rw [lat_set _ _ _ _ (by rw [orL_len]; exact hL)]
      split
      · rename_i h; subst h; exact e.symm
      · rfl)
    rw [this]; simp

set_option maxRecDepth 100000 in
set_option maxHeartbeats 4000000 in
theorem refor_yes (b g c ob og oc : Nat) (f of : Int) (L oL : List Bool) (W : World) (hR : Ref W b g c f L) (hz : Rz f L) (hO : Ref W ob og oc of oL) (hzo : Rz of oL) (hall : ∀ v ∈ bv of (lat oL) oL.length, f ≤ v ∧ v < f + L.length) (n₀ : Nat) (hn₀ : n₀ ≤ g) :
    Calls Tryd.prog 56 #[.pointer (some ⟨b, 0, none⟩), .pointer (some ⟨ob, 0, none⟩)] W fun e w' => e = .returned (.tuple #[.bool (decide (orL f L (bv of (lat oL) oL.length) ≠ L)), .int .i64 0]) ∧ Ref w' b g c f (orL f L (bv of (lat oL) oL.length)) ∧ Below n₀ W w' ∧ (∀ B, B < W.heap.size → B ≠ g → w'.heap[B]? = W.heap[B]?) := by
  have k1 := refvalues_any ob og oc of oL W hO hzo
  have hcnt := bv_len of (lat oL) oL.length
  have hcn := hzo.most
  have hgl := hR.g_lt; have hbl := hR.b_lt
  obtain ⟨vs, hvs⟩ : ∃ vs, bv of (lat oL) oL.length = vs := ⟨_, rfl⟩
  rw [hvs] at k1 hcnt hall ⊢
  have HALL : Hid (∀ v ∈ vs, f ≤ v ∧ v < f + L.length) := hall
  have HR : Hid (Ref W b g c f L) := hR
  have HZ : Hid (Rz f L) := hz
  clear hvs hall hR hz hO hzo
  go_enter Tryd.func56, Tryd.ntmps56
  go_wp2_with fail
  refine k1.mono ?_
  rintro e w1 ⟨s, rfl, hown, hb1⟩
  obtain ⟨sa, sc, rfl⟩ : ∃ a c, s = .slice a vs.length c := by
    rcases hown.2 with ⟨e1, e2⟩ | ⟨g', cap', cur, e1, _⟩
    · exact ⟨none, 0, by rw [e1, e2]⟩
    · exact ⟨_, _, e1⟩
  have hrow : 0 < vs.length → ∃ gv, sa = some ⟨gv, 0, none⟩ ∧ W.heap.size ≤ gv ∧ ∀ i, i < vs.length → w1.cell? ⟨gv, i, none⟩ = some (.int .i64 (vs[i]?.getD 0)) := fun h0 => by
    obtain ⟨gv, cap, e, hg1, h2, h3⟩ := own_some hown h0
    injection e with e1 _ _
    exact ⟨gv, e1, hg1, fun i hi => h3 i _ (by unfold nums; simp [hi])⟩
  have HROW : Hid (0 < vs.length → ∃ gv, sa = some ⟨gv, 0, none⟩ ∧ W.heap.size ≤ gv ∧ ∀ i, i < vs.length → w1.cell? ⟨gv, i, none⟩ = some (.int .i64 (vs[i]?.getD 0))) := hrow
  have HB1 : Hid (Below W.heap.size W w1) := hb1
  have HR1 : Hid (Ref w1 b g c f L) := HR.out.below hb1 hbl hgl
  obtain ⟨n, hn⟩ : ∃ n, vs.length = n := ⟨_, rfl⟩
  have HN : Hid (vs.length = n) := hn
  rw [hn] at hcnt ⊢
  have hn4 : (n : Int) ≤ 65536 := by omega
  clear hown hrow hb1 hn k1
  go_wp2
  go_loopw [7] (fun i wr => ∃ k m : Nat, k ≤ n ∧ i = .int .i64 k ∧ wr = w1.drewN m) (fun i _ => n - (intOf i).toNat)
  case atStart => exact ⟨0, 0, Nat.zero_le _, rfl, rfl⟩
  case round =>
    obtain ⟨k, m, hk, rfl, rfl⟩ := hrel
    by_cases hlt : k < n
    · obtain ⟨gv, rfl, hgv, hcells⟩ := HROW.out (by rw [HN.out]; omega)
      have dc := hcells k (by rw [HN.out]; exact hlt)
      have hkv : k < vs.length := by rw [HN.out]; exact hlt
      obtain ⟨x, hx⟩ : ∃ x, vs[k]?.getD 0 = x := ⟨_, rfl⟩
      have hfx := HALL.out x (by rw [← hx, List.getElem?_eq_getElem hkv]; exact List.getElem_mem _)
      rw [hx] at dc
      have k2 := reffits_any b g c f x L (w1.drewN m) (HR1.out.drawn m) HZ.out
      rw [fitB_yes hfx] at k2
      have hlt' : (k : Int) < (n : Int) := by omega
      clear hcells hx hfx hkv
      go_wp2_with (go_at_call 53; refine k2.mono ?_; clear k2; rintro e w2 ⟨rfl, m2, rfl⟩)
      go_roundw
      case rel => exact ⟨k + 1, _, by omega, by go_num, rfl⟩
      case measure => simp [intOf]; omega
    · obtain rfl : k = n := by omega
      have h0 : Ref (w1.drewN m) b g c f (orL f L (vs.take 0)) := by rw [List.take_zero, orL_nil]; exact HR1.out
      have hd0 : decide (orL f L (vs.take 0) ≠ L) = false := by rw [List.take_zero, orL_nil]; simp
      have H0 : Hid (Ref (w1.drewN m) b g c f (orL f L (vs.take 0))) := h0
      have HD0 : Hid (decide (orL f L (vs.take 0) ≠ L) = false) := hd0
      clear h0 hd0
      go_wp2
      go_loopw [8, 9] (fun a i wr => ∃ j : Nat, j ≤ k ∧ i = .int .i64 j ∧ a = .bool (decide (orL f L (vs.take j) ≠ L)) ∧ Ref wr b g c f (orL f L (vs.take j)) ∧ Below n₀ w1 wr ∧ (∀ B, B ≠ g → wr.heap[B]? = w1.heap[B]?)) (fun _ i _ => k - (intOf i).toNat)
      case atStart => exact ⟨0, Nat.zero_le _, rfl, by rw [HD0.out], H0.out, below_drewN (Below.refl _ _) m, fun _ _ => rfl⟩
      case round =>
        obtain ⟨j, hj, rfl, rfl, hB, hbw, hoff⟩ := hrel
        by_cases hlt2 : j < k
        · obtain ⟨gv, rfl, hgv, hcells⟩ := HROW.out (by rw [HN.out]; omega)
          have hjv : j < vs.length := by rw [HN.out]; exact hlt2
          have dc : wr.cell? ⟨gv, j, none⟩ = some (.int .i64 (vs[j]?.getD 0)) := by
            rw [← hcells j hjv]
            simp only [World.cell?, hoff gv (by omega)]
          obtain ⟨x, hx⟩ : ∃ x, vs[j]?.getD 0 = x := ⟨_, rfl⟩
          have hfx := HALL.out x (by rw [← hx, List.getElem?_eq_getElem hjv]; exact List.getElem_mem _)
          obtain ⟨q, hq⟩ : ∃ q : Nat, x - f = (q : Int) := ⟨(x - f).toNat, by omega⟩
          have hqL : q < L.length := by omega
          have htk : vs.take (j + 1) = vs.take j ++ [x] := by
            rw [List.take_add_one, List.getElem?_eq_getElem hjv]
            rw [List.getElem?_eq_getElem hjv] at hx
            simp at hx; simp [hx]
          have hrz : Rz f (orL f L (vs.take j)) := ⟨HZ.out.lo, by rw [orL_len]; exact HZ.out.one, by rw [orL_len]; exact HZ.out.most, by rw [orL_len]; exact HZ.out.hi⟩
          have k2 := refput_any b g c q f x true _ wr hB hrz hq (by rw [orL_len]; exact hqL)
          have hset := hB.set q true
          rw [orL_snoc f L (vs.take j) x q hq hqL, ← htk] at hset
          have hdd := orL_dif f L (vs.take j) x q hq hqL
          rw [← htk] at hdd
          have HSET : Hid (Ref (wr.setCell ⟨g, q, none⟩ (.bool true)) b g c f (orL f L (vs.take (j + 1)))) := hset
          rw [hx] at dc
          obtain ⟨t, ht⟩ : ∃ t, decide (orL f L (vs.take j) ≠ L) = t := ⟨_, rfl⟩
          obtain ⟨t2, ht2⟩ : ∃ t2, (lat (orL f L (vs.take j)) q != true) = t2 := ⟨_, rfl⟩
          rw [ht, ht2] at hdd
          rw [ht2] at k2
          rw [ht]
          have HDD : Hid (decide (orL f L (vs.take (j + 1)) ≠ L) = (t || t2)) := hdd
          have hlt2' : (j : Int) < (k : Int) := by omega
          clear hcells hx hfx hjv htk hrz hset hdd ht ht2 hB hq hqL
          cases t2
          · go_wp2_with (go_at_call 54; refine k2.mono ?_; clear k2; rintro e w2 ⟨rfl, m2, rfl⟩)
            go_roundw
            case rel => exact ⟨j + 1, by omega, by go_num, by rw [HDD.out]; simp, HSET.out.drawn m2, below_drewN (hbw.setCell (p := ⟨g, q, none⟩) hn₀ _) m2, fun B hB' => (set_same wr g q m2 _ B hB').trans (hoff B hB')⟩
            case measure => simp [intOf]; omega
          · go_wp2_with (go_at_call 54; refine k2.mono ?_; clear k2; rintro e w2 ⟨rfl, m2, rfl⟩)
            go_roundw
            case rel => exact ⟨j + 1, by omega, by go_num, by rw [HDD.out]; simp, HSET.out.drawn m2, below_drewN (hbw.setCell (p := ⟨g, q, none⟩) hn₀ _) m2, fun B hB' => (set_same wr g q m2 _ B hB').trans (hoff B hB')⟩
            case measure => simp [intOf]; omega
        · obtain rfl : j = k := by omega
          have htk : vs.take j = vs := by rw [← HN.out]; exact List.take_length
          rw [htk] at hB ⊢
          have HB : Hid (Ref wr b g c f (orL f L vs)) := hB
          obtain ⟨t, ht⟩ : ∃ t, decide (orL f L vs ≠ L) = t := ⟨_, rfl⟩
          have HTT : Hid (decide (orL f L vs ≠ L) = t) := ht
          rw [ht]
          clear hB htk ht
          go_wp2
          go_ret2
          exact ⟨by rw [HTT.out]; rfl, HB.out, (HB1.out.mono (show n₀ ≤ W.heap.size by omega)).trans hbw, fun B hB1 hB2 => (hoff B hB2).trans (HB1.out.block B hB1)⟩

set_option maxRecDepth 100000 in
set_option maxHeartbeats 4000000 in
theorem refor_no (b g c ob og oc : Nat) (f of : Int) (L oL : List Bool) (W : World) (hR : Ref W b g c f L) (hz : Rz f L) (hO : Ref W ob og oc of oL) (hzo : Rz of oL) (hno : ¬ ∀ v ∈ bv of (lat oL) oL.length, fitB f L.length v = true) :
    Calls Tryd.prog 56 #[.pointer (some ⟨b, 0, none⟩), .pointer (some ⟨ob, 0, none⟩)] W fun e w' => e = .returned (.tuple #[.bool false, .int .i64 20]) ∧ Below W.heap.size W w' := by
  have k1 := refvalues_any ob og oc of oL W hO hzo
  have hcnt := bv_len of (lat oL) oL.length
  have hcn := hzo.most
  have hgl := hR.g_lt; have hbl := hR.b_lt
  obtain ⟨vs, hvs⟩ : ∃ vs, bv of (lat oL) oL.length = vs := ⟨_, rfl⟩
  rw [hvs] at k1 hcnt hno
  have HNO : Hid (¬ ∀ v ∈ vs, fitB f L.length v = true) := hno
  have HR : Hid (Ref W b g c f L) := hR
  have HZ : Hid (Rz f L) := hz
  clear hvs hno hR hz hO hzo
  go_enter Tryd.func56, Tryd.ntmps56
  go_wp2_with fail
  refine k1.mono ?_
  rintro e w1 ⟨s, rfl, hown, hb1⟩
  obtain ⟨sa, sc, rfl⟩ : ∃ a c, s = .slice a vs.length c := by
    rcases hown.2 with ⟨e1, e2⟩ | ⟨g', cap', cur, e1, _⟩
    · exact ⟨none, 0, by rw [e1, e2]⟩
    · exact ⟨_, _, e1⟩
  have hrow : 0 < vs.length → ∃ gv, sa = some ⟨gv, 0, none⟩ ∧ W.heap.size ≤ gv ∧ ∀ i, i < vs.length → w1.cell? ⟨gv, i, none⟩ = some (.int .i64 (vs[i]?.getD 0)) := fun h0 => by
    obtain ⟨gv, cap, e, hg1, h2, h3⟩ := own_some hown h0
    injection e with e1 _ _
    exact ⟨gv, e1, hg1, fun i hi => h3 i _ (by unfold nums; simp [hi])⟩
  have HROW : Hid (0 < vs.length → ∃ gv, sa = some ⟨gv, 0, none⟩ ∧ W.heap.size ≤ gv ∧ ∀ i, i < vs.length → w1.cell? ⟨gv, i, none⟩ = some (.int .i64 (vs[i]?.getD 0))) := hrow
  have HB1 : Hid (Below W.heap.size W w1) := hb1
  have HR1 : Hid (Ref w1 b g c f L) := HR.out.below hb1 hbl hgl
  obtain ⟨n, hn⟩ : ∃ n, vs.length = n := ⟨_, rfl⟩
  have HN : Hid (vs.length = n) := hn
  rw [hn] at hcnt ⊢
  have hn4 : (n : Int) ≤ 65536 := by omega
  clear hown hrow hb1 hn k1
  go_wp2
  go_loopw [7] (fun i wr => ∃ k m : Nat, k ≤ n ∧ i = .int .i64 k ∧ wr = w1.drewN m ∧ ∀ j, j < k → fitB f L.length (vs[j]?.getD 0) = true) (fun i _ => n - (intOf i).toNat)
  case atStart => exact ⟨0, 0, Nat.zero_le _, rfl, rfl, fun j hj => absurd hj (Nat.not_lt_zero _)⟩
  case round =>
    obtain ⟨k, m, hk, rfl, rfl, hbef⟩ := hrel
    have HBEF : Hid (∀ j, j < k → fitB f L.length (vs[j]?.getD 0) = true) := hbef
    clear hbef
    by_cases hlt : k < n
    · obtain ⟨gv, rfl, hgv, hcells⟩ := HROW.out (by rw [HN.out]; omega)
      have dc := hcells k (by rw [HN.out]; exact hlt)
      obtain ⟨x, hx⟩ : ∃ x, vs[k]?.getD 0 = x := ⟨_, rfl⟩
      have HX : Hid (vs[k]?.getD 0 = x) := hx
      rw [hx] at dc
      have k2 := reffits_any b g c f x L (w1.drewN m) (HR1.out.drawn m) HZ.out
      have hlt' : (k : Int) < (n : Int) := by omega
      obtain ⟨t, ht⟩ : ∃ t, fitB f L.length x = t := ⟨_, rfl⟩
      have HTT : Hid (fitB f L.length x = t) := ht
      rw [ht] at k2
      clear hcells hx ht
      cases t
      · go_wp2_with (go_at_call 53; refine k2.mono ?_; clear k2; rintro e w2 ⟨rfl, m2, rfl⟩)
        go_ret2
        exact ⟨rfl, below_drewN HB1.out _⟩
      · go_wp2_with (go_at_call 53; refine k2.mono ?_; clear k2; rintro e w2 ⟨rfl, m2, rfl⟩)
        go_roundw
        case rel =>
          refine ⟨k + 1, _, by omega, by go_num, rfl, fun j hj => ?_⟩
          by_cases e : j = k
          · subst e; rw [HX.out]; exact HTT.out
          · exact HBEF.out j (by omega)
        case measure => simp [intOf]; omega
    · exfalso
      apply HNO.out
      intro v hv
      obtain ⟨i, hi, rfl⟩ := List.mem_iff_getElem.1 hv
      have := HBEF.out i (by rw [HN.out] at hi; omega)
      rw [List.getElem?_eq_getElem hi] at this
      exact this
end Go.Proofs.YtgcgomofmicchaaDoor
