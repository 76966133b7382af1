/-
  What is proved here: what sets.Parse reads of any text.
-/
import Derived.Test.YtacnhkaibcjjgaaGreatDoorSo
namespace Go.Proofs.YtacnhkaibcjjgaaGreatDoor
open Go.RowKit Go.Shelf
set_option linter.unusedVariables false
set_option linter.unusedSimpArgs false

/-- The library's variable for the longest text that is searched holds some number. -/
def MaxL (W : World) : Prop := 3 < W.heap.size ∧ ∃ m, W.cell? ⟨3, 0, none⟩ = some (.int .i64 m)
theorem MaxL.below {B : Nat} {W W' : World} (h : MaxL W) (hb : Below B W W') (hB : 3 < B) : MaxL W' := by
  obtain ⟨h1, m, hm⟩ := h
  exact ⟨Nat.lt_of_lt_of_le h1 hb.size, m, (hb.cell (p := ⟨3, 0, none⟩) hB).trans hm⟩
/-- The library's two error variables hold some error, or none. -/
def ErrV (W : World) : Prop := 1 < W.heap.size ∧ (∃ ev, W.cell? ⟨0, 0, none⟩ = some ev ∧ (ev = .nilIface ∨ ∃ te pe, ev = .iface te pe)) ∧ ∃ ev, W.cell? ⟨1, 0, none⟩ = some ev ∧ (ev = .nilIface ∨ ∃ te pe, ev = .iface te pe)
theorem ErrV.below {B : Nat} {W W' : World} (h : ErrV W) (hb : Below B W W') (hB : 1 < B) : ErrV W' := by
  obtain ⟨h1, ⟨e2, h2, h3⟩, e4, h4, h5⟩ := h
  exact ⟨Nat.lt_of_lt_of_le h1 hb.size, ⟨e2, (hb.cell (p := ⟨0, 0, none⟩) (by show 0 < B; omega)).trans h2, h3⟩, e4, (hb.cell (p := ⟨1, 0, none⟩) hB).trans h4, h5⟩
theorem split_at (s sep : ByteArray) (w : World) (hM : MaxL w) (hs : s.size < 4294967281) (h1 : 1 ≤ sep.size) :
    Calls Tryz.prog 66 #[.string s, .string sep] w fun e w' => e = .returned (.slice (some ⟨w.heap.size, 0, none⟩) (Lib.countB s sep + 1) (Lib.countB s sep + 1)) ∧ w' = w.alloc (.cells ((Lib.splitB sep 0 (Lib.countB s sep) s).map Value.string).toArray 9) := by
  obtain ⟨_, m, hm⟩ := hM
  exact Any.strings_Split { Tryz.laysSplit with } Tryz.laysSplit.i9 s sep m w hs hm h1
theorem trim_at (s : ByteArray) (w : World) (hs : s.size ≤ 65536) :
    Calls Tryz.prog 67 #[.string s, .string ⟨#[123, 125]⟩] w fun e w' => e = .returned (.string ⟨(Lib.trimS s.data.toList [123, 125]).toArray⟩) ∧ Below w.heap.size w w' :=
  Any.strings_Trim_laid Tryz.laysTrim (by kernel_rfl) s ⟨#[123, 125]⟩ w (by omega) (by decide) (ascii_of_all (by decide))
/-- What strconv.ParseInt answers. -/
def PintE (l : List UInt8) (x : Ending) : Prop := (∃ v, prn l = some v ∧ x = .returned (.tuple #[.int .i64 v, .nilIface])) ∨ (prn l = none ∧ ∃ v t p, x = .returned (.tuple #[.int .i64 v, .iface t p]))
theorem pint_any (s : ByteArray) (hs : s.size ≤ 65536) (w : World) (hE : ErrV w) :
    Calls Tryz.prog 68 #[.string s, .int .i64 10, .int .i64 64] w fun e w' => PintE s.data.toList e ∧ Below w.heap.size w w' := by
  obtain ⟨_, ⟨e2, h2, h3⟩, e4, h4, h5⟩ := hE
  cases h : Lib.parseIntB 64 s.data.toList with
  | ok v =>
    refine (Any.strconv_ParseInt_10_at64_ok Tryz.laysPint s (by omega) v h w).mono fun e w' ⟨he, hw⟩ => ⟨.inl ⟨v, by unfold prn; rw [h]; rfl, he⟩, ?_⟩
    rcases hw with rfl | ⟨t, rfl⟩
    · exact Below.refl _ _
    · exact Joins.below_bytesWorld _ _ _ _ (Nat.le_refl _)
  | «syntax» => exact (Any.strconv_ParseInt_10_at64_syntax Tryz.laysPint s (by omega) h e2 w h2 h3).mono fun e w' ⟨n, he, _, _, hb⟩ => ⟨.inr ⟨by unfold prn; rw [h]; rfl, _, _, _, he⟩, hb⟩
  | range => exact (Any.strconv_ParseInt_10_at64_range Tryz.laysPint s (by omega) h e4 w h4 h5).mono fun e w' ⟨n, he, _, _, hb⟩ => ⟨.inr ⟨by unfold prn; rw [h]; rfl, _, _, _, he⟩, hb⟩

/-- What Parse answers: the document's words. -/
def ParsE (b : List UInt8) (x : Ending) (B : Nat) (w' : World) : Prop :=
  (65536 < b.length ∧ x = .returned (.tuple #[.slice none 0 0, .int .i64 3])) ∨
  (b.length ≤ 65536 ∧ b = [123, 125] ∧ x = .returned (.tuple #[.slice none 0 0, .int .i64 0])) ∨
  (b.length ≤ 65536 ∧ b ≠ [123, 125] ∧ ((∃ l v, IsSet l ∧ 0 < l.length ∧ stx l = b ∧ x = .returned (.tuple #[v, .int .i64 0]) ∧ w'.ownsRow B 2 1 v l.length (intv l)) ∨ ((∀ l, IsSet l → 0 < l.length → stx l ≠ b) ∧ x = .returned (.tuple #[.slice none 0 0, .int .i64 20]))))

theorem parts_of {ps : List (List UInt8)} {b : List UInt8} (hps : ps = Lib.split (Lib.trimS b [123, 125]) [44]) {L : List Int} (hL : IsSet L) (h0 : 0 < L.length) (hb : stx L = b) : ps = sparts L := by
  rw [hps, ← hb, trim_stx L h0, split_stx L h0]
theorem parts_pr {ps : List (List UInt8)} {b : List UInt8} (hps : ps = Lib.split (Lib.trimS b [123, 125]) [44]) {L : List Int} (hL : IsSet L) (h0 : 0 < L.length) (hb : stx L = b) (k : Nat) (hk : k < ps.length) : prn ps[k] = L[k]? ∧ k < L.length := by
  have e := parts_of hps hL h0 hb
  subst e
  exact ⟨prn_parts L hL k hk, by simpa [sparts] using hk⟩
theorem parts_all {ps : List (List UInt8)} {b : List UInt8} (hps : ps = Lib.split (Lib.trimS b [123, 125]) [44]) {L l : List Int} (hL : IsSet L) (h0 : 0 < L.length) (hb : stx L = b) (hlen : l.length = ps.length) (h : ∀ j (hj : j < ps.length), prn ps[j] = l[j]?) : l = L := by
  have e := parts_of hps hL h0 hb
  have hl : L.length = ps.length := by rw [e]; simp [sparts]
  refine List.ext_getElem? fun j => ?_
  by_cases hj : j < ps.length
  · rw [← h j hj, (parts_pr hps hL h0 hb j hj).1]
  · rw [List.getElem?_eq_none (by omega), List.getElem?_eq_none (by omega)]
theorem splitK_le (sep : List UInt8) : ∀ (k : Nat) (s p : List UInt8), p ∈ Lib.splitK sep 0 k s → p.length ≤ s.length
  | 0, s, p, h => by simp only [Lib.splitK, List.mem_singleton] at h; subst h; exact Nat.le_refl _
  | k + 1, s, p, h => by
    rw [Lib.splitK] at h
    split at h
    · simp only [List.mem_singleton] at h; subst h; exact Nat.le_refl _
    · rw [List.mem_cons] at h
      rcases h with rfl | h
      · rw [List.length_take]; omega
      · have := splitK_le sep k _ p h
        rw [List.length_drop] at this; omega
theorem trimS_le (s cs : List UInt8) : (Lib.trimS s cs).length ≤ s.length := by
  unfold Lib.trimS Lib.trimLeftS Lib.trimRightS
  refine Nat.le_trans (List.dropWhile_suffix _).length_le ?_
  rw [List.length_reverse]
  refine Nat.le_trans (List.dropWhile_suffix _).length_le ?_
  simp
theorem str_cells (w : World) (ps : List ByteArray) (k : Nat) (h : k < ps.length) : (w.alloc (.cells (ps.map Value.string).toArray 9)).cell? ⟨w.heap.size, k, none⟩ = some (.string ps[k]) := by
  have hnw := World.alloc_heap_new w (Obj.cells (ps.map Value.string).toArray 9)
  simp only [World.cell?, hnw]
  simp [h]
theorem beq_str (l : List UInt8) (s : ByteArray) (b : Bool) (h : decide (l = s.data.toList) = b) : (l == s.toList) = b := by
  rw [ByteArray.toList_eq, ← h]
  by_cases e : l = s.data.toList
  · rw [e]; simp
  · rw [decide_eq_false e]; simpa using e
theorem intv_snoc (l : List Int) (x : Int) : intv (l ++ [x]) = intv l ++ [.int .i64 x] := by simp [intv]
theorem cell_one_new2 (w : World) (v : Value) : ∀ j u, ([v] : List Value)[j]? = some u → (w.alloc (.cells #[v] 2)).cell? ((⟨w.heap.size, 0, none⟩ : Addr).add j) = some u := by
  intro j u hj
  rw [Addr.add_lit]
  have hnw := World.alloc_heap_new w (Obj.cells #[v] 2)
  have : j = 0 := by have := (List.getElem?_eq_some_iff.1 hj).1; simp at this; exact this
  subst this
  simp at hj; subst hj
  simp only [World.cell?, hnw]; rfl

set_option maxHeartbeats 1000000 in
theorem parse_long (s : ByteArray) (h : 65536 < s.size) (W : World) :
    Calls Tryz.prog 19 #[.string s] W fun e w' => e = .returned (.tuple #[.slice none 0 0, .int .i64 3]) ∧ w' = W := by
  have h' : (65536 : Int) < (s.size : Int) := by omega
  go_enter Tryz.func19, Tryz.ntmps19
  go_wp2
  go_ret2
  exact ⟨rfl, rfl⟩
set_option maxHeartbeats 1000000 in
theorem parse_none (W : World) :
    Calls Tryz.prog 19 #[.string ⟨#[123, 125]⟩] W fun e w' => e = .returned (.tuple #[.slice none 0 0, .int .i64 0]) ∧ w' = W := by
  go_enter Tryz.func19, Tryz.ntmps19
  go_wp2
  go_ret2
  exact ⟨rfl, rfl⟩

set_option maxRecDepth 100000 in
set_option maxHeartbeats 4000000 in
theorem parse_some (s : ByteArray) (hs : s.size ≤ 65536) (hne : s.data.toList ≠ [123, 125]) (W : World) (hM : MaxL W) (hE : ErrV W) (hT : Tens W.heap.size W) :
    Calls Tryz.prog 19 #[.string s] W fun e w' => ParsE s.data.toList e W.heap.size w' ∧ Below W.heap.size W w' := by
  obtain ⟨i0, hi0, hz0, hz1, hz2⟩ := info_parts Tryz.info2
  have htr := trim_at s W hs
  obtain ⟨q, hq⟩ : ∃ q : ByteArray, (⟨(Lib.trimS s.data.toList [123, 125]).toArray⟩ : ByteArray) = q := ⟨_, rfl⟩
  have hqd : q.data.toList = Lib.trimS s.data.toList [123, 125] := by rw [← hq]
  have hqs : q.size ≤ 65536 := by
    have := trimS_le s.data.toList [123, 125]
    rw [← hqd] at this
    simp at this; omega
  rw [hq] at htr
  have hM0 := hM.1
  have hE0 := hE.1
  have HM : Hid (MaxL W) := hM
  have HE : Hid (ErrV W) := hE
  have HT : Hid (Tens W.heap.size W) := hT
  have HNE : Hid (s.data.toList ≠ [123, 125]) := hne
  have hne' : (s.toList == [123, 125]) = false := by rw [ByteArray.toList_eq]; simpa using hne
  have hs' : ¬ (65536 : Int) < (s.size : Int) := by omega
  have HL : Hid (s.data.toList.length ≤ 65536) := by unfold Hid; simpa using hs
  have hsp := fun X (hX : MaxL X) => split_at q ⟨#[44]⟩ X hX (by omega) (by decide)
  have hcl := Lib.countB_le ⟨#[44]⟩ (by decide) q.size q (Nat.le_refl _)
  have hal := Lib.splitB_all ⟨#[44]⟩ (by decide) 0 _ q rfl
  obtain ⟨ps, hps⟩ : ∃ ps, Lib.splitB ⟨#[44]⟩ 0 (Lib.countB q ⟨#[44]⟩) q = ps := ⟨_, rfl⟩
  have HPS : Hid (ps.map (·.data.toList) = Lib.split (Lib.trimS s.data.toList [123, 125]) [44]) := by
    unfold Hid; rw [← hps, Lib.splitB_data, ← hqd]; rfl
  simp only [hps] at hsp hal
  simp only [← hal] at hsp
  have hn0 : 0 < ps.length := by omega
  have hn1 : ps.length ≤ 65537 := by omega
  have HSZ : Hid (∀ k (h : k < ps.length), ps[k].size ≤ 65536) := by
    unfold Hid
    intro k h
    have hm : ps[k].data.toList ∈ Lib.split (Lib.trimS s.data.toList [123, 125]) [44] := by rw [← HPS.out]; exact List.mem_map_of_mem (List.getElem_mem h)
    have h1 := splitK_le _ _ _ _ hm
    have h2 := trimS_le s.data.toList [123, 125]
    simp at h1 h2; omega
  clear hal hcl hps hq hqd hM hE hT hne
  obtain ⟨n, hn⟩ : ∃ n, ps.length = n := ⟨_, rfl⟩
  have HN : Hid (ps.length = n) := hn
  simp only [hn] at hsp hn0 hn1
  clear hn
  go_enter Tryz.func19, Tryz.ntmps19
  go_wp2_with fail
  refine htr.mono ?_
  clear htr
  rintro e w0 ⟨rfl, hb0⟩
  have hsp0 := hsp w0 (HM.out.below hb0 hM0)
  go_wp2_with fail
  refine hsp0.mono ?_
  clear hsp hsp0
  rintro e w1 ⟨rfl, rfl⟩
  go_wp2
  have hb1 : Below W.heap.size W (w0.alloc (Obj.cells (ps.map Value.string).toArray 9)) := hb0.alloc hb0.size _
  have hM1 := HM.out.below hb1 hM0
  have hE1 := HE.out.below hb1 hE0
  have hcell := fun k (h : k < ps.length) => str_cells w0 ps k h
  obtain ⟨P0, hP0⟩ : ∃ P, w0.heap.size = P := ⟨_, rfl⟩
  have hWP : W.heap.size ≤ P0 := by rw [← hP0]; exact hb0.size
  obtain ⟨W1, hW1⟩ : ∃ W1, w0.alloc (Obj.cells (ps.map Value.string).toArray 9) = W1 := ⟨_, rfl⟩
  have hsz1 : w0.heap.size + 1 = W1.heap.size := by rw [← hW1]; simp
  rw [hW1] at hb1 hM1 hE1 hcell ⊢
  rw [hP0] at hsz1 hcell ⊢
  obtain ⟨N1, hN1⟩ : ∃ N1, W1.heap.size = N1 := ⟨_, rfl⟩
  rw [hN1] at hsz1
  have HM1 : Hid (MaxL W1) := hM1
  have HE1 : Hid (ErrV W1) := hE1
  have HC : Hid (∀ k (h : k < ps.length), W1.cell? ⟨P0, k, none⟩ = some (.string ps[k])) := hcell
  clear hW1 hM1 hE1 hcell hb0
  go_loopw [4, 18] (fun o i wr => ∃ (k : Nat) (l : List Int), k ≤ n ∧ i = .int .i64 k ∧ l.length = k ∧ Hid (∀ j (hj : j < k), (ps[j]?.map fun q => prn q.data.toList) = some (l[j]?)) ∧ wr.ownsRow N1 2 1 o k (intv l) ∧ Below N1 W1 wr) (fun _ i _ => n - (intOf i).toNat)
  case atStart => exact ⟨0, [], by omega, rfl, rfl, fun j hj => by omega, by simpa [intv] using World.ownsRow_nil _ _ _ _, Below.refl _ _⟩
  case round =>
    obtain ⟨k, l, hk, rfl, hlk, HP, hrow, hB⟩ := hrel
    have HLK : Hid (l.length = k) := hlk
    clear hlk
    have hsz := hB.size
    by_cases hlt : k < n
    · have hlt' : (k : Int) < (n : Int) := by omega
      have hkp : k < ps.length := by rw [HN.out]; exact hlt
      have d1 := (hB.cell (p := ⟨P0, k, none⟩) (by show P0 < N1; omega)).trans (HC.out k hkp)
      have hEr := HE1.out.below hB (by omega)
      have hpr := pint_any ps[k] (HSZ.out k hkp) wr hEr
      have hgk : ps[k]? = some ps[k] := List.getElem?_eq_getElem hkp
      obtain ⟨q1, hq1⟩ : ∃ q, ps[k] = q := ⟨_, rfl⟩
      rw [hq1] at d1 hpr hgk
      have HG : Hid (ps[k]? = some q1) := hgk
      clear hEr hgk hq1 hkp
      go_wp2_with fail
      refine hpr.mono ?_
      clear hpr
      rintro e w2 ⟨hP, hb2⟩
      have hB2 : Below N1 W1 w2 := hB.trans (hb2.mono (by rw [← hN1]; exact hB.size))
      rcases hP with ⟨x, h1, rfl⟩ | ⟨h1, x, te, pe, rfl⟩
      · have HR : Hid (prn q1.data.toList = some x) := h1
        have hr2 := own_keepB hrow hb2
        have hs2 := hB2.size
        clear hrow hb2 h1
        go_wp2_with (at_builtin; refine wpList_append_own _ rfl _ _ 22 rfl N1 2 i0 (.int .i64 0) 1 8 Tryz.underlying22 hi0 hz0 hz1 hz2 rfl (by decide) _ _ _ rfl (World.ownsRow.alloc hr2 _) ⟨w2.heap.size, 0, none⟩ 1 1 [.int .i64 x] rfl rfl (cell_one_new2 w2 (.int .i64 x)) (by simp [Value.oneCell']) (by unfold maxLen; omega) (by omega) (by simp; omega) ?_; intro v' w3 hown' hgrow hnl; have hB3 : Below N1 W1 w3 := (hB2.alloc (by omega) _).grown hgrow (by simp; omega) (fun j e => (World.ownsRow.lt hr2 j e).1); clear hgrow)
        go_roundw
        case rel =>
          refine ⟨k + 1, l ++ [x], by omega, by go_num, by rw [List.length_append, HLK.out]; rfl, ?_, by rw [intv_snoc]; exact hown', hB3⟩
          intro j hj
          by_cases hjk : j < k
          · rw [HP.out j hjk, List.getElem?_append_left (by rw [HLK.out]; exact hjk)]
          · obtain rfl : j = k := by omega
            rw [HG.out, List.getElem?_append_right (by rw [HLK.out]; exact Nat.le_refl _), HLK.out, Nat.sub_self]
            simp [HR.out]
        case measure => simp [intOf]; omega
      · have HR : Hid (prn q1.data.toList = none) := h1
        clear h1
        have hBW : Below W.heap.size W w2 := hb1.trans (hB2.mono (by omega))
        go_wp2
        go_ret2
        refine ⟨.inr (.inr ⟨HL.out, HNE.out, .inr ⟨fun L hL h0 hb => ?_, rfl⟩⟩), hBW⟩
        have hkp : k < (ps.map (·.data.toList)).length := by rw [List.length_map, HN.out]; exact hlt
        have h9 := parts_pr HPS.out hL h0 hb k hkp
        have e9 : (ps.map (·.data.toList))[k] = q1.data.toList := by
          have h8 := HG.out
          rw [List.getElem?_eq_getElem (by rw [HN.out]; exact hlt)] at h8
          rw [List.getElem_map, Option.some.inj h8]
        rw [e9, HR.out, List.getElem?_eq_getElem h9.2] at h9
        exact absurd h9.1 (by simp)
    · obtain rfl : k = n := by omega
      have hlt' : ¬ (k : Int) < (k : Int) := by omega
      have hrow' : wr.ownsRow N1 2 1 u4 l.length (intv l) := by rw [HLK.out]; exact hrow
      have hS : Si wr u4 l := own_si hrow'
      have hBW : Below W.heap.size W wr := hb1.trans (hB.mono (by omega))
      have hall : ∀ L, IsSet L → 0 < L.length → stx L = s.data.toList → l = L := fun L hL h0 hb =>
        parts_all HPS.out hL h0 hb (by rw [HLK.out, List.length_map, HN.out]) (fun j hj => by
          have hj' : j < ps.length := by simpa using hj
          have h8 := HP.out j (by rw [← HN.out]; exact hj')
          rw [List.getElem?_eq_getElem hj'] at h8
          rw [List.getElem_map]
          exact Option.some.inj h8)
      have HALL : Hid _ := hall
      have HROW : Hid (wr.ownsRow W.heap.size 2 1 u4 l.length (intv l)) := own_base hrow' (by omega)
      have htx := text_any u4 l wr hS (tens_here HT.out hBW)
      have hl0 : 0 < l.length := by rw [HLK.out]; exact hn0
      obtain ⟨a4, c4, e4, _⟩ := hS
      rw [HLK.out] at e4
      by_cases hset : IsSet l
      · rw [tkS_yes hset] at htx
        obtain ⟨tx, hx⟩ : ∃ tx, stx l = tx := ⟨_, rfl⟩
        rw [hx] at htx
        have HX : Hid (stx l = tx) := hx
        have HSM : Hid (IsSet l ∧ 0 < l.length) := ⟨hset, hl0⟩
        subst e4
        clear hrow hrow' hall hx hset hl0
        by_cases heq : tx = s.data.toList
        · have hcmp := beq_str tx s true (decide_eq_true heq)
          have HEQ : Hid _ := heq
          clear heq
          go_wp2_with fail
          refine htx.mono ?_
          clear htx
          rintro e w2 ⟨rfl, hb2⟩
          go_wp2
          go_ret2
          exact ⟨.inr (.inr ⟨HL.out, HNE.out, .inl ⟨l, _, HSM.out.1, HSM.out.2, HX.out.trans HEQ.out, rfl, own_keepB HROW.out hb2⟩⟩), hBW.trans (hb2.mono hBW.size)⟩
        · have hcmp := beq_str tx s false (decide_eq_false heq)
          have HEQ : Hid (¬ tx = s.data.toList) := heq
          clear heq
          go_wp2_with fail
          refine htx.mono ?_
          clear htx
          rintro e w2 ⟨rfl, hb2⟩
          go_wp2
          go_ret2
          refine ⟨.inr (.inr ⟨HL.out, HNE.out, .inr ⟨fun L hL h0 hb => ?_, rfl⟩⟩), hBW.trans (hb2.mono hBW.size)⟩
          have h9 := HALL.out L hL h0 hb
          subst h9
          exact HEQ.out (HX.out.symm.trans hb)
      · rw [tkS_no hset] at htx
        have HSM : Hid (¬ IsSet l) := hset
        subst e4
        have hcmp := beq_str [123, 125] s false (decide_eq_false fun h => HNE.out h.symm)
        have e0 : stx [] = [123, 125] := rfl
        rw [e0] at htx
        clear hrow hrow' hall hset hl0 e0
        go_wp2_with fail
        refine htx.mono ?_
        clear htx
        rintro e w2 ⟨rfl, hb2⟩
        go_wp2
        go_ret2
        refine ⟨.inr (.inr ⟨HL.out, HNE.out, .inr ⟨fun L hL h0 hb => ?_, rfl⟩⟩), hBW.trans (hb2.mono hBW.size)⟩
        have h9 := HALL.out L hL h0 hb
        subst h9
        exact HSM.out hL

theorem parse_any (s : ByteArray) (W : World) (hM : MaxL W) (hE : ErrV W) (hT : Tens W.heap.size W) :
    Calls Tryz.prog 19 #[.string s] W fun e w' => ParsE s.data.toList e W.heap.size w' ∧ Below W.heap.size W w' := by
  have hl : s.data.toList.length = s.size := by simp
  by_cases h : 65536 < s.size
  · exact (parse_long s h W).mono fun e w' ⟨he, hw⟩ => ⟨.inl ⟨by rw [hl]; exact h, he⟩, by rw [hw]; exact Below.refl _ _⟩
  · by_cases hn : s.data.toList = [123, 125]
    · have hs : s = ⟨#[123, 125]⟩ := by rw [show s = ⟨s.data.toList.toArray⟩ by simp, hn]
      subst hs
      exact (parse_none W).mono fun e w' ⟨he, hw⟩ => ⟨.inr (.inl ⟨by decide, rfl, he⟩), by rw [hw]; exact Below.refl _ _⟩
    · exact parse_some s (by omega) hn W hM hE hT
end Go.Proofs.YtacnhkaibcjjgaaGreatDoor
