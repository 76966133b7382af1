/-
  What is proved here: what dom.Parse reads of any text.
-/
import Derived.Test.YtopelhdepocoiaaDoorRc
import Derived.Test.YtopelhdepocoiaaDoorRb
namespace Go.Proofs.YtopelhdepocoiaaDoor
open Go.RowKit Go.Shelf
set_option linter.unusedVariables false

/-- What Parse answers: the document's words. -/
def ParsE (b : List UInt8) (x : Ending) (w' : World) : Prop :=
  (65536 < b.length ∧ x = .returned (.tuple #[.slice none 0 0, .int .i64 3])) ∨
  (b.length ≤ 65536 ∧ b = [123, 125] ∧ x = .returned (.tuple #[.slice none 0 0, .int .i64 0])) ∨
  (b.length ≤ 65536 ∧ b ≠ [123, 125] ∧ ((∃ l v, Some' l ∧ txN l l.length = b ∧ x = .returned (.tuple #[v, .int .i64 0]) ∧ Sr w' v l) ∨ ((∀ l, Some' l → txN l l.length ≠ b) ∧ x = .returned (.tuple #[.slice none 0 0, .int .i64 20]))))

theorem pr_fits {p : List UInt8} {r : Rg} (h : pr p = some r) : Fits r.1 ∧ Fits r.2 := by
  have key : ∀ q v, okv (Lib.parseIntB 64 q) = some v → Fits v := by
    intro q v hq
    cases hp : Lib.parseIntB 64 q with
    | ok u =>
      rw [hp] at hq
      have : u = v := Option.some.inj hq
      subst this
      have := Lib.parseIntB_bounds hp
      unfold Fits
      simp at this
      omega
    | «syntax» => rw [hp] at hq; cases hq
    | range => rw [hp] at hq; cases hq
  unfold pr at h
  simp only at h
  split at h
  · rename_i x y h1 h2
    have := Option.some.inj h
    subst this
    exact ⟨key _ _ h1, key _ _ h2⟩
  · cases h
/-- Parts that are read one by one are those of the ranges whose text is s. -/
theorem parts_of {ps : List (List UInt8)} {b : List UInt8} (hps : ps = Lib.split b [44]) {L : List Rg} (hL : Some' L) (hb : txN L L.length = b) : ps = tparts L := by
  rw [hps, ← hb, split_txN L hL.2]
theorem parts_pr {ps : List (List UInt8)} {b : List UInt8} (hps : ps = Lib.split b [44]) {L : List Rg} (hL : Some' L) (hb : txN L L.length = b) (k : Nat) (hk : k < ps.length) : pr ps[k] = L[k]? ∧ k < L.length := by
  have e := parts_of hps hL hb
  subst e
  exact ⟨pr_parts L hL.1 k hk, by simpa [tparts] using hk⟩
theorem parts_all {ps : List (List UInt8)} {b : List UInt8} (hps : ps = Lib.split b [44]) {L l : List Rg} (hL : Some' L) (hb : txN L L.length = b) (hlen : l.length = ps.length) (h : ∀ j (hj : j < ps.length), pr ps[j] = l[j]?) : l = L := by
  have e := parts_of hps hL hb
  have hl : L.length = ps.length := by rw [e]; simp [tparts]
  refine List.ext_getElem? fun j => ?_
  by_cases hj : j < ps.length
  · rw [← h j hj, (parts_pr hps hL hb j hj).1]
  · rw [List.getElem?_eq_none (by omega), List.getElem?_eq_none (by omega)]
theorem list_snoc {l : List Rg} {r : Rg} {ps : List (List UInt8)} {k : Nat} (hk : k < ps.length) (hl : l.length = k) (h : ∀ j (hj : j < k), pr (ps[j]'(by omega)) = l[j]?) (hr : pr ps[k] = some r) : ∀ j (hj : j < k + 1), pr (ps[j]'(by omega)) = (l ++ [r])[j]? := by
  intro j hj
  by_cases hjk : j < k
  · rw [List.getElem?_append_left (by omega)]; exact h j hjk
  · obtain rfl : j = k := by omega
    rw [List.getElem?_append_right (by omega), hl, Nat.sub_self]; exact hr
theorem fitsR_snoc {l : List Rg} {r : Rg} (h : FitsR l) (hr : Fits r.1 ∧ Fits r.2) : FitsR (l ++ [r]) := by
  intro i hi'
  by_cases hil : i < l.length
  · have e1 : lo (l ++ [r]) i = lo l i := by simp [lo, List.getElem?_append_left hil]
    have e2 : hi (l ++ [r]) i = hi l i := by simp [hi, List.getElem?_append_left hil]
    rw [e1, e2]; exact h i hil
  · have : i = l.length := by simp at hi'; omega
    subst this
    have e1 : lo (l ++ [r]) l.length = r.1 := by simp [lo]
    have e2 : hi (l ++ [r]) l.length = r.2 := by simp [hi]
    rw [e1, e2]; exact hr
theorem flat_snoc2 (l : List Rg) (r : Rg) : flat (l ++ [r]) = flat l ++ [.int .i64 r.1, .int .i64 r.2] := by simp [flat]

theorem splitK_le (sep : List UInt8) : ∀ (k : Nat) (s p : List UInt8), p ∈ Lib.splitK sep 0 k s → p.length ≤ s.length
  | 0, s, p, h => by simp only [Lib.splitK, List.mem_singleton] at h; subst h; exact Nat.le_refl _
  | k + 1, s, p, h => by
    rw [Lib.splitK] at h
    split at h
    · simp only [List.mem_singleton] at h; subst h; exact Nat.le_refl _
    · rw [List.mem_cons] at h
      rcases h with rfl | h
      · rw [List.length_take]; omega
      · have := splitK_le sep k _ p h
        rw [List.length_drop] at this; omega
theorem str_cells (w : World) (ps : List ByteArray) (k : Nat) (h : k < ps.length) : (w.alloc (.cells (ps.map Value.string).toArray 9)).cell? ⟨w.heap.size, k, none⟩ = some (.string ps[k]) := by
  have hnw := World.alloc_heap_new w (Obj.cells (ps.map Value.string).toArray 9)
  simp only [World.cell?, hnw]
  simp [h]
theorem beq_str (l : List UInt8) (s : ByteArray) (b : Bool) (h : decide (l = s.data.toList) = b) : (l == s.toList) = b := by
  rw [ByteArray.toList_eq, ← h]
  by_cases e : l = s.data.toList
  · rw [e]; simp
  · rw [decide_eq_false e]; simpa using e

set_option maxHeartbeats 1000000 in
theorem parse_long (s : ByteArray) (h : 65536 < s.size) (W : World) :
    Calls Tryd.prog 5 #[.string s] W fun e w' => e = .returned (.tuple #[.slice none 0 0, .int .i64 3]) ∧ w' = W := by
  have h' : (65536 : Int) < (s.size : Int) := by omega
  go_enter Tryd.func5, Tryd.ntmps5
  go_wp2
  go_ret2
  exact ⟨rfl, rfl⟩
set_option maxHeartbeats 1000000 in
theorem parse_none (W : World) :
    Calls Tryd.prog 5 #[.string ⟨#[123, 125]⟩] W fun e w' => e = .returned (.tuple #[.slice none 0 0, .int .i64 0]) ∧ w' = W := by
  go_enter Tryd.func5, Tryd.ntmps5
  go_wp2
  go_ret2
  exact ⟨rfl, rfl⟩

set_option maxRecDepth 100000 in
set_option maxHeartbeats 4000000 in
theorem parse_some (s : ByteArray) (hs : s.size ≤ 65536) (hne : s.data.toList ≠ [123, 125]) (W : World) (hM : MaxL W) (hE : ErrV W) (hT : Tens W.heap.size W) :
    Calls Tryd.prog 5 #[.string s] W fun e w' => ParsE s.data.toList e w' ∧ Below W.heap.size W w' := by
  obtain ⟨i0, hi0, hz0, hz1, hz2⟩ := info_parts Tryd.info34
  have hsp := split_at s ⟨#[44]⟩ W hM (by omega) (by decide)
  have hcl := Lib.countB_le ⟨#[44]⟩ (by decide) s.size s (Nat.le_refl _)
  have hal := Lib.splitB_all ⟨#[44]⟩ (by decide) 0 _ s rfl
  obtain ⟨ps, hps⟩ : ∃ ps, Lib.splitB ⟨#[44]⟩ 0 (Lib.countB s ⟨#[44]⟩) s = ps := ⟨_, rfl⟩
  have HPS : Hid (ps.map (·.data.toList) = Lib.split s.data.toList [44]) := by
    unfold Hid; rw [← hps, Lib.splitB_data]; rfl
  rw [hps] at hsp hal
  rw [← hal] at hsp
  have hn0 : 0 < ps.length := by omega
  have hn1 : ps.length ≤ 65537 := by omega
  have hsz : ∀ k (h : k < ps.length), ps[k].size ≤ 65536 := by
    intro k h
    have hm : ps[k].data.toList ∈ Lib.split s.data.toList [44] := by rw [← HPS.out]; exact List.mem_map_of_mem (List.getElem_mem h)
    have := splitK_le _ _ _ _ hm
    simp at this; omega
  have HSZ : Hid _ := hsz
  clear hal hcl hps hsz
  obtain ⟨n, hn⟩ : ∃ n, ps.length = n := ⟨_, rfl⟩
  have HN : Hid (ps.length = n) := hn
  rw [hn] at hsp hn0 hn1
  have hM0 := hM.1
  have hE0 := hE.1
  have HM : Hid (MaxL W) := hM
  have HE : Hid (ErrV W) := hE
  have HT : Hid (Tens W.heap.size W) := hT
  have HNE : Hid (s.data.toList ≠ [123, 125]) := hne
  have hne' : (s.toList == [123, 125]) = false := by rw [ByteArray.toList_eq]; simpa using hne
  have hs' : ¬ (65536 : Int) < (s.size : Int) := by omega
  have hln : s.data.toList.length ≤ 65536 := by simpa using hs
  have HL : Hid (s.data.toList.length ≤ 65536) := hln
  clear hM hE hT hne hln hn
  go_enter Tryd.func5, Tryd.ntmps5
  go_wp2_with fail
  refine hsp.mono ?_
  clear hsp
  rintro e w1 ⟨rfl, rfl⟩
  go_wp2
  have hb1 : Below W.heap.size W (W.alloc (Obj.cells (ps.map Value.string).toArray 9)) := (Below.refl _ W).alloc (Nat.le_refl _) _
  have hM1 := HM.out.below hb1 hM0
  have hE1 := HE.out.below hb1 hE0
  have hcell := fun k (h : k < ps.length) => str_cells W ps k h
  obtain ⟨W1, hW1⟩ : ∃ W1, W.alloc (Obj.cells (ps.map Value.string).toArray 9) = W1 := ⟨_, rfl⟩
  have hsz1 : W.heap.size + 1 = W1.heap.size := by rw [← hW1]; simp
  rw [hW1] at hb1 hM1 hE1 hcell ⊢
  obtain ⟨N1, hN1⟩ : ∃ N1, W1.heap.size = N1 := ⟨_, rfl⟩
  rw [hN1] at hsz1
  have HM1 : Hid (MaxL W1) := hM1
  have HE1 : Hid (ErrV W1) := hE1
  have HC : Hid (∀ k (h : k < ps.length), W1.cell? ⟨W.heap.size, k, none⟩ = some (.string ps[k])) := hcell
  clear hW1 hM1 hE1 hcell
  go_loopw [4, 17] (fun o i wr => ∃ (k : Nat) (l : List Rg), k ≤ n ∧ i = .int .i64 k ∧ l.length = k ∧ Hid (FitsR l) ∧ Hid (∀ j (hj : j < k), (ps[j]?.map fun q => pr q.data.toList) = some (l[j]?)) ∧ wr.ownsRow N1 34 2 o k (flat l) ∧ Below N1 W1 wr) (fun _ i _ => n - (intOf i).toNat)
  case atStart => exact ⟨0, [], by omega, rfl, rfl, fun i hi => by simp at hi, fun j hj => by omega, by simpa [flat] using World.ownsRow_nil _ _ _ _, Below.refl _ _⟩
  case round =>
    obtain ⟨k, l, hk, rfl, hlk, HF, HP, hrow, hB⟩ := hrel
    have HLK : Hid (l.length = k) := hlk
    clear hlk
    have hsz := hB.size
    by_cases hlt : k < n
    · have hlt' : (k : Int) < (n : Int) := by omega
      have hkp : k < ps.length := by rw [HN.out]; exact hlt
      have d1 := (hB.cell (p := ⟨W.heap.size, k, none⟩) (by show W.heap.size < N1; omega)).trans (HC.out k hkp)
      have hMr := HM1.out.below hB (by omega)
      have hEr := HE1.out.below hB (by omega)
      have hpr := prange_any ps[k] wr hMr hEr (HSZ.out k hkp)
      have hgk : ps[k]? = some ps[k] := List.getElem?_eq_getElem hkp
      obtain ⟨q, hq⟩ : ∃ q, ps[k] = q := ⟨_, rfl⟩
      rw [hq] at d1 hpr hgk
      have HG : Hid (ps[k]? = some q) := hgk
      clear hMr hEr hgk hq hkp
      go_wp2_with fail
      refine hpr.mono ?_
      clear hpr
      rintro e w2 ⟨hP, hb2⟩
      have hB2 : Below N1 W1 w2 := hB.trans (hb2.mono (by rw [← hN1]; exact hB.size))
      rcases hP with ⟨⟨x, y⟩, h1, rfl⟩ | ⟨h1, x, y, rfl⟩
      · have HR : Hid (pr q.data.toList = some (x, y)) := h1
        have hfit := pr_fits h1
        have HFT : Hid _ := hfit
        have hr2 := own_keepB hrow hb2
        have hs2 := hB2.size
        have hr3 := World.ownsRow.alloc hr2 (Obj.cells #[Value.int IntKind.i64 x, Value.int IntKind.i64 y] 34)
        clear hrow hb2 hr2 h1 hfit
        go_wp2_with (at_builtin; refine wpList_append_own _ rfl _ _ 22 rfl N1 34 i0 (.agg #[.int .i64 0, .int .i64 0]) 2 16 Tryd.underlying22 hi0 hz0 hz1 hz2 rfl (by decide) _ _ _ rfl (World.ownsRow.alloc hr3 _) ⟨w2.heap.size + 1, 0, none⟩ 1 1 [.int .i64 x, .int .i64 y] rfl rfl (by have h9 := cell_two_new (w2.alloc (Obj.cells #[Value.int IntKind.i64 x, Value.int IntKind.i64 y] 34)) (.int .i64 x) (.int .i64 y) 34; rw [World.size_alloc] at h9; exact h9) (by simp [Value.oneCell']) (by unfold maxLen; omega) (by omega) (by simp; omega) ?_; intro v' w3 hown' hgrow hnl; have hB3 : Below N1 W1 w3 := ((hB2.alloc (by omega) _).alloc (by simp; omega) _).grown hgrow (by simp; omega) (fun j e => (World.ownsRow.lt hr3 j e).1); clear hgrow)
        go_roundw
        case rel =>
          refine ⟨k + 1, l ++ [(x, y)], by omega, by go_num, by rw [List.length_append, HLK.out]; rfl, fitsR_snoc HF.out HFT.out, ?_, by rw [flat_snoc2]; exact hown', hB3⟩
          intro j hj
          by_cases hjk : j < k
          · rw [HP.out j hjk, List.getElem?_append_left (by rw [HLK.out]; exact hjk)]
          · obtain rfl : j = k := by omega
            rw [HG.out, List.getElem?_append_right (by rw [HLK.out]; exact Nat.le_refl _), HLK.out, Nat.sub_self]
            simp [HR.out]
        case measure => simp [intOf]; omega
      · have HR : Hid (pr q.data.toList = none) := h1
        clear h1
        have hBW : Below W.heap.size W w2 := hb1.trans (hB2.mono (by omega))
        go_wp2
        go_ret2
        refine ⟨.inr (.inr ⟨HL.out, HNE.out, .inr ⟨fun L hL hb => ?_, rfl⟩⟩), hBW.alloc hBW.size _⟩
        have hkp : k < (ps.map (·.data.toList)).length := by rw [List.length_map, HN.out]; exact hlt
        have h9 := parts_pr HPS.out hL hb k hkp
        have e9 : (ps.map (·.data.toList))[k] = q.data.toList := by
          have h8 := HG.out
          rw [List.getElem?_eq_getElem (by rw [HN.out]; exact hlt)] at h8
          rw [List.getElem_map, Option.some.inj h8]
        rw [e9, HR.out, List.getElem?_eq_getElem h9.2] at h9
        exact absurd h9.1 (by simp)
    · obtain rfl : k = n := by omega
      have hS : Sr wr u4 l := own_srl (l := l) (base := N1) (by rw [HLK.out]; exact hrow)
      have hBW : Below W.heap.size W wr := hb1.trans (hB.mono (by omega))
      have hall : ∀ L, Some' L → txN L L.length = s.data.toList → l = L := fun L hL hb =>
        parts_all HPS.out hL hb (by rw [HLK.out, List.length_map, HN.out]) (fun j hj => by
          have hj' : j < ps.length := by simpa using hj
          have h8 := HP.out j (by rw [← HN.out]; exact hj')
          rw [List.getElem?_eq_getElem hj'] at h8
          rw [List.getElem_map]
          exact Option.some.inj h8)
      have HALL : Hid _ := hall
      have HS : Hid (Sr wr u4 l) := hS
      by_cases hsome : Some' l
      · have htx := domtext_yes u4 l wr hS HF.out hsome (tens_here HT.out hBW)
        obtain ⟨tx, hx⟩ : ∃ tx, txN l l.length = tx := ⟨_, rfl⟩
        rw [hx] at htx
        have HX : Hid (txN l l.length = tx) := hx
        have HSM : Hid (Some' l) := hsome
        obtain ⟨a4, c4, rfl, _⟩ := hS
        clear hrow hall hx hsome
        by_cases heq : tx = s.data.toList
        · have hcmp := beq_str tx s true (decide_eq_true heq)
          have HEQ : Hid _ := heq
          clear heq
          go_wp2_with fail
          refine htx.mono ?_
          clear htx
          rintro e w2 ⟨rfl, hb2⟩
          go_wp2
          go_ret2
          exact ⟨.inr (.inr ⟨HL.out, HNE.out, .inl ⟨l, _, HSM.out, HX.out.trans HEQ.out, rfl, HS.out.below hb2⟩⟩), hBW.trans (hb2.mono hBW.size)⟩
        · have hcmp := beq_str tx s false (decide_eq_false heq)
          have HEQ : Hid (¬ tx = s.data.toList) := heq
          clear heq
          go_wp2_with fail
          refine htx.mono ?_
          clear htx
          rintro e w2 ⟨rfl, hb2⟩
          go_wp2
          go_ret2
          refine ⟨.inr (.inr ⟨HL.out, HNE.out, .inr ⟨fun L hL hb => ?_, rfl⟩⟩), hBW.trans (hb2.mono hBW.size)⟩
          have h9 := HALL.out L hL hb
          subst h9
          exact HEQ.out (HX.out.symm.trans hb)
      · have htx := domtext_no u4 l wr hS HF.out hsome
        have HSM : Hid (¬ Some' l) := hsome
        obtain ⟨a4, c4, rfl, _⟩ := hS
        have hcmp := beq_str [123, 125] s false (decide_eq_false fun h => HNE.out h.symm)
        clear hrow hall hsome
        go_wp2_with fail
        refine htx.mono ?_
        clear htx
        rintro e w2 ⟨rfl, hb2⟩
        go_wp2
        go_ret2
        refine ⟨.inr (.inr ⟨HL.out, HNE.out, .inr ⟨fun L hL hb => ?_, rfl⟩⟩), hBW.trans (hb2.mono hBW.size)⟩
        have h9 := HALL.out L hL hb
        subst h9
        exact HSM.out hL

theorem parse_any (s : ByteArray) (W : World) (hM : MaxL W) (hE : ErrV W) (hT : Tens W.heap.size W) :
    Calls Tryd.prog 5 #[.string s] W fun e w' => ParsE s.data.toList e w' ∧ Below W.heap.size W w' := by
  have hl : s.data.toList.length = s.size := by simp
  by_cases h : 65536 < s.size
  · exact (parse_long s h W).mono fun e w' ⟨he, hw⟩ => ⟨.inl ⟨by rw [hl]; exact h, he⟩, by rw [hw]; exact Below.refl _ _⟩
  · by_cases hn : s.data.toList = [123, 125]
    · have hs : s = ⟨#[123, 125]⟩ := by rw [show s = ⟨s.data.toList.toArray⟩ by simp, hn]
      subst hs
      exact (parse_none W).mono fun e w' ⟨he, hw⟩ => ⟨.inr (.inl ⟨by decide, rfl, he⟩), by rw [hw]; exact Below.refl _ _⟩
    · exact parse_some s (by omega) hn W hM hE hT
end Go.Proofs.YtopelhdepocoiaaDoor
