/-
  What is proved here: the reference's rules of a constraint beside its form.
  What is proved here: the rules of the reference are those of the code.
-/
import Derived.Test.YtpgecdhieakilaaGreatDoorKafj
import Derived.Test.YtpgecdhieakilaaGreatDoorHaj
import Derived.Test.YtpgecdhieakilaaGreatDoorFhj
namespace Go.Proofs.YtpgecdhieakilaaGreatDoor
open Go.RowKit Go.Shelf
set_option linter.unusedVariables false
set_option linter.unusedSimpArgs false

theorem nodup_len : ∀ {A B : List Int}, A.Nodup → (∀ x ∈ A, x ∈ B) → A.length ≤ B.length
  | [], B, _, _ => Nat.zero_le _
  | a :: A, B, h, hs => by
    have ha := List.nodup_cons.1 h
    have hb : a ∈ B := hs a (by simp)
    have := nodup_len (A := A) (B := B.erase a) ha.2 fun x hx => (List.mem_erase_of_ne (by rintro rfl; exact ha.1 hx)).2 (hs x (by simp [hx]))
    rw [List.length_erase_of_mem hb] at this
    have := List.length_pos_of_mem hb
    simp only [List.length_cons]
    omega
theorem cs_nodup (L : List Int) : (csL L).Nodup := (cs_st L).imp fun h => by omega
theorem twice_yes {g : Ag} (h : ∀ (i j : Nat) x y, j < i → i < g.l.length → g.l[i]? = some x → g.l[j]? = some y → x.n ≠ y.n) : twiceB g = true := by
  have hnd : (numL g).Nodup := by
    unfold numL
    rw [List.Nodup, List.pairwise_map, List.pairwise_iff_getElem]
    intro i j hi hj hij e
    exact h j i _ _ hij hj (List.getElem?_eq_getElem hj) (List.getElem?_eq_getElem hi) e.symm
  have h1 := cs_len (numL g)
  have h2 := nodup_len hnd (fun x hx => (cs_mem (numL g) x).2 hx)
  rw [numL_length] at h1 h2
  exact decide_eq_true (Nat.le_antisymm h1 h2)
theorem twice_no {g : Ag} {i j : Nat} {x y : Tm} (hj : j < i) (hx : g.l[i]? = some x) (hy : g.l[j]? = some y) (he : x.n = y.n) : twiceB g = false := by
  refine decide_eq_false fun hl => ?_
  have hi : i < (numL g).length := by rw [numL_length]; exact (List.getElem?_eq_some_iff.1 hx).1
  have hx' : (numL g)[i]? = some x.n := by simp [numL, hx]
  have hy' : (numL g)[j]? = some x.n := by simp [numL, hy, he]
  have := nodup_len (cs_nodup (numL g)) (B := (numL g).eraseIdx i) fun z hz => by
    have hz' := (cs_mem (numL g) z).1 hz
    obtain ⟨k, hk⟩ := List.mem_iff_getElem?.1 hz'
    by_cases hki : k = i
    · subst hki
      rw [hx'] at hk
      injection hk with hk
      exact List.mem_eraseIdx_iff_getElem?.2 ⟨j, by omega, by rw [← hk]; exact hy'⟩
    · exact List.mem_eraseIdx_iff_getElem?.2 ⟨k, hki, hk⟩
  rw [List.length_eraseIdx_of_lt hi] at this
  have hh : (csL (numL g)).length = (numL g).length := by rw [numL_length]; exact hl
  omega
/-- Have the arguments as many terms as the first of them? -/
def sameAt (ags : List Ag) (L : List Int) : Bool := L.all fun x => decide ((agAt ags x.toNat).l.length = (agAt ags (L.headD 0).toNat).l.length)
/-- The rule of the name. -/
def swB (nm : List UInt8) (ags : List Ag) : Bool :=
  if Lib.hasPrefix nm [102, 122, 110, 95, 103, 108, 111, 98, 97, 108] = true then twiceB (agAt ags 1) else
  if (nm == [102, 122, 110, 95, 109, 97, 120, 105, 109, 117, 109, 95, 105, 110, 116]) = true then decide (0 < (agAt ags 1).l.length) else
  if (nm == [102, 122, 110, 95, 109, 105, 110, 105, 109, 117, 109, 95, 105, 110, 116]) = true then decide (0 < (agAt ags 1).l.length) else
  if (nm == [102, 122, 110, 95, 116, 97, 98, 108, 101, 95, 105, 110, 116]) = true then decide (0 < (agAt ags 0).l.length) && decide ((agAt ags 1).l.length % (agAt ags 0).l.length = 0) else
  if (nm == [102, 122, 110, 95, 114, 101, 103, 117, 108, 97, 114]) = true then autoB (fstN (agAt ags 1)) (fstN (agAt ags 2)) (fstN (agAt ags 4)) (agAt ags 3) else
  if Lib.hasPrefix nm [102, 122, 110, 95, 98, 105, 110] = true then !lowB (agAt ags 2) else
  if (nm == [102, 122, 110, 95, 107, 110, 97, 112, 115, 97, 99, 107]) = true then !lowB (agAt ags 0) && !lowB (agAt ags 1) else true
def ruledB (nm : List UInt8) (ags : List Ag) : Bool := sameAt ags (eqL nm) && swB nm ags
theorem own_si3 {W : World} {base n : Nat} {s : Value} {l : List Int} (h : W.ownsRow base 3 1 s n (intv l)) : Si base W s l := by
  have hl : n = l.length := by have := h.1; simp [intv] at this; omega
  subst hl
  rcases h.2 with ⟨e1, e2⟩ | ⟨g, cap, cur, e1, hg, hgb, hn, hm, hs, ht⟩
  · exact ⟨none, 0, by rw [e1, e2], fun h0 => by omega⟩
  · refine ⟨_, cap, e1, fun _ => ⟨g, 0, rfl, hg, (Array.getElem?_eq_some_iff.1 hgb).1, fun i x hx => ?_⟩⟩
    have hi : i < l.length := (List.getElem?_eq_some_iff.1 hx).1
    rw [cell_row hgb, Nat.zero_add]
    have : (intv l)[i]? = some (.int .i64 x) := by simp [intv, hx]
    rw [← ht, List.getElem?_take, if_pos (by omega), Array.getElem?_toList] at this
    exact this
theorem Sa.nth {B : Nat} {W : World} {b off n c : Nat} {ags : List Ag} (h : Sa B W (.slice (some ⟨b, off, none⟩) n c) ags) {i : Nat} (hi : i < ags.length) : ∃ a' c', b < W.heap.size ∧ St B W (.slice a' (agAt ags i).l.length c') (agAt ags i).l ∧ W.cell? ⟨b, off + i * 2, none⟩ = some (.bool (agAt ags i).arr) ∧ W.cell? ⟨b, off + i * 2 + 1, none⟩ = some (.slice a' (agAt ags i).l.length c') := by
  obtain ⟨b', off', a', c', e, h1, h2, h3, h4⟩ := h.at (agAt_some hi)
  injection e with e; injection e with q1 q2; subst q1; subst q2
  exact ⟨a', c', h1, h2, h3, h4⟩

set_option maxRecDepth 100000 in
set_option maxHeartbeats 4000000 in
theorem ruled_any {B : Nat} {W : World} {a8 : Option Addr} {n c : Nat} {ags : List Ag} (nm : List UInt8) (h : Sa B W (.slice a8 n c) ags) (hlen : ags.length = n) (hn1 : 1 ≤ n) (hn : n ≤ 1000) (hl : ∀ g ∈ ags, g.l.length ≤ 1000) (hE : ∀ x ∈ eqL nm, 0 ≤ x ∧ x < n)
    (pG : Lib.hasPrefix nm [102, 122, 110, 95, 103, 108, 111, 98, 97, 108] = true → 2 ≤ n) (pX : (nm == [102, 122, 110, 95, 109, 97, 120, 105, 109, 117, 109, 95, 105, 110, 116]) = true → 2 ≤ n) (pN : (nm == [102, 122, 110, 95, 109, 105, 110, 105, 109, 117, 109, 95, 105, 110, 116]) = true → 2 ≤ n) (pT : (nm == [102, 122, 110, 95, 116, 97, 98, 108, 101, 95, 105, 110, 116]) = true → 2 ≤ n)
    (pR : (nm == [102, 122, 110, 95, 114, 101, 103, 117, 108, 97, 114]) = true → 5 ≤ n ∧ (agAt ags 1).l.length = 1 ∧ (agAt ags 2).l.length = 1 ∧ (agAt ags 4).l.length = 1) (pB : Lib.hasPrefix nm [102, 122, 110, 95, 98, 105, 110] = true → 3 ≤ n) (pK : (nm == [102, 122, 110, 95, 107, 110, 97, 112, 115, 97, 99, 107]) = true → 2 ≤ n) :
    Calls Tryz.prog 54 #[.agg #[.string (bs nm), .slice a8 n c]] W fun e w' => e = .returned (.bool (ruledB nm ags)) ∧ Below W.heap.size W w' := by
  obtain ⟨b, off, rfl⟩ : ∃ b off, a8 = some ⟨b, off, none⟩ := by
    obtain ⟨b, off, _, _, e, _⟩ := h.at (agAt_some (i := 0) (by omega))
    exact ⟨b, off, e⟩
  have HLEN : Hid (ags.length = n) := hlen
  have HL : Hid (∀ i, i < n → (agAt ags i).l.length ≤ 1000) := fun i hi => hl _ (List.mem_of_getElem? (agAt_some (i := i) (by omega)))
  obtain ⟨B0, hB0⟩ : ∃ x, W.heap.size = x := ⟨_, rfl⟩
  obtain ⟨W1, hW1⟩ : ∃ X, W.alloc (Obj.cells #[.string (bs nm), .slice (some ⟨b, off, none⟩) n c] 32) = X := ⟨_, rfl⟩
  have HB1 : Hid (Below B0 W W1) := by rw [Hid, ← hW1, ← hB0]; exact (Below.refl _ W).alloc (Nat.le_refl _) _
  have KC : Hid (Blk W1 B0 #[.string (bs nm), .slice (some ⟨b, off, none⟩) n c] 32) := by rw [Hid, ← hW1, ← hB0]; exact Blk.new W _ _
  have HW1 : Hid _ := hW1
  have HB0 : Hid (W.heap.size = B0) := hB0
  have HA : Hid (Sa B W (.slice (some ⟨b, off, none⟩) n c) ags) := h
  have HB01 : Hid (B0 < W1.heap.size) := by rw [Hid, ← hW1, ← hB0]; simp
  obtain ⟨L, hL⟩ : ∃ L, eqL nm = L := ⟨_, rfl⟩
  have k78 := equals_any nm W1
  rw [hL] at k78 hE
  have HE : Hid (∀ x ∈ L, 0 ≤ x ∧ x < n) := hE
  have HL4 : Hid (L.length ≤ 4) := by
    rw [Hid, ← hL]; unfold eqL; repeat' split
    all_goals simp
  have HRU : Hid (ruledB nm ags = (sameAt ags L && swB nm ags)) := by unfold Hid ruledB; rw [hL]
  obtain ⟨sw, hsw⟩ : ∃ s, swB nm ags = s := ⟨_, rfl⟩
  rw [hsw] at HRU
  obtain ⟨bG, hbG⟩ : ∃ x, Lib.hasPrefix nm [102, 122, 110, 95, 103, 108, 111, 98, 97, 108] = x := ⟨_, rfl⟩
  rw [hbG] at pG
  have kG : ∀ X, Calls Tryz.prog 79 #[.string (bs nm), .string ⟨#[102, 122, 110, 95, 103, 108, 111, 98, 97, 108]⟩] X fun e w' => e = .returned (.bool bG) ∧ w' = X := fun X => by rw [← hbG]; exact begins_at nm _ _ rfl X
  obtain ⟨bX, hbX⟩ : ∃ x, (nm == [102, 122, 110, 95, 109, 97, 120, 105, 109, 117, 109, 95, 105, 110, 116]) = x := ⟨_, rfl⟩
  rw [hbX] at pX
  obtain ⟨bN, hbN⟩ : ∃ x, (nm == [102, 122, 110, 95, 109, 105, 110, 105, 109, 117, 109, 95, 105, 110, 116]) = x := ⟨_, rfl⟩
  rw [hbN] at pN
  obtain ⟨bT, hbT⟩ : ∃ x, (nm == [102, 122, 110, 95, 116, 97, 98, 108, 101, 95, 105, 110, 116]) = x := ⟨_, rfl⟩
  rw [hbT] at pT
  obtain ⟨bR, hbR⟩ : ∃ x, (nm == [102, 122, 110, 95, 114, 101, 103, 117, 108, 97, 114]) = x := ⟨_, rfl⟩
  rw [hbR] at pR
  obtain ⟨bB, hbB⟩ : ∃ x, Lib.hasPrefix nm [102, 122, 110, 95, 98, 105, 110] = x := ⟨_, rfl⟩
  rw [hbB] at pB
  have kB : ∀ X, Calls Tryz.prog 79 #[.string (bs nm), .string ⟨#[102, 122, 110, 95, 98, 105, 110]⟩] X fun e w' => e = .returned (.bool bB) ∧ w' = X := fun X => by rw [← hbB]; exact begins_at nm _ _ rfl X
  obtain ⟨bK, hbK⟩ : ∃ x, (nm == [102, 122, 110, 95, 107, 110, 97, 112, 115, 97, 99, 107]) = x := ⟨_, rfl⟩
  rw [hbK] at pK
  have HSW : Hid (sw = if bG = true then twiceB (agAt ags 1) else if bX = true then decide (0 < (agAt ags 1).l.length) else if bN = true then decide (0 < (agAt ags 1).l.length) else if bT = true then decide (0 < (agAt ags 0).l.length) && decide ((agAt ags 1).l.length % (agAt ags 0).l.length = 0) else if bR = true then autoB (fstN (agAt ags 1)) (fstN (agAt ags 2)) (fstN (agAt ags 4)) (agAt ags 3) else if bB = true then !lowB (agAt ags 2) else if bK = true then !lowB (agAt ags 0) && !lowB (agAt ags 1) else true) := by
    rw [Hid, ← hsw]; unfold swB
    rw [hbG, hbX, hbN, hbT, hbR, hbB, hbK]
  have hls : (bs nm).toList = nm := bs_toList nm
  have k80 := fun (X : World) (hX : Sa B X (.slice (some ⟨b, off, none⟩) n c) ags) (h5 : 5 ≤ n) (q1 : (agAt ags 1).l.length = 1) (q2 : (agAt ags 2).l.length = 1) (q4 : (agAt ags 4).l.length = 1) => (by
    obtain ⟨t1, e1⟩ := List.length_eq_one_iff.1 q1
    obtain ⟨t2, e2⟩ := List.length_eq_one_iff.1 q2
    obtain ⟨t4, e4⟩ := List.length_eq_one_iff.1 q4
    have := refauto_any (x1 := (agAt ags 1).arr) (x2 := (agAt ags 2).arr) (x4 := (agAt ags 4).arr) (t1 := t1) (t2 := t2) (t4 := t4) (g3 := agAt ags 3) (bs nm) hX HLEN.out h5 hn (by rw [← e1]; exact agAt_some (by have := HLEN.out; omega)) (by rw [← e2]; exact agAt_some (by have := HLEN.out; omega)) (agAt_some (by have := HLEN.out; omega)) (by rw [← e4]; exact agAt_some (by have := HLEN.out; omega)) (HL.out 3 (by omega))
    unfold fstN
    rw [e1, e2, e4]
    exact this : Calls Tryz.prog 80 #[.agg #[.string (bs nm), .slice (some ⟨b, off, none⟩) n c]] X fun e w' => e = .returned (.bool (autoB (fstN (agAt ags 1)) (fstN (agAt ags 2)) (fstN (agAt ags 4)) (agAt ags 3))) ∧ Below X.heap.size X w')
  have k81 := fun (i : Nat) (hi : i < n) (X : World) (a' : Option Addr) (c' : Nat) (hX : St B X (.slice a' (agAt ags i).l.length c') (agAt ags i).l) => low_any (agAt ags i) hX (by have := HL.out i hi; omega) (agAt ags i).arr
  obtain ⟨r, hr⟩ : ∃ r, ruledB nm ags = r := ⟨_, rfl⟩
  rw [hr] at HRU
  rw [hr]
  obtain ⟨S, hS⟩ : ∃ S, bs nm = S := ⟨_, rfl⟩
  rw [hS] at hls k78 KC kG kB k80 HW1
  have eX : (S.toList == [102, 122, 110, 95, 109, 97, 120, 105, 109, 117, 109, 95, 105, 110, 116]) = bX := by rw [hls]; exact hbX
  have eN : (S.toList == [102, 122, 110, 95, 109, 105, 110, 105, 109, 117, 109, 95, 105, 110, 116]) = bN := by rw [hls]; exact hbN
  have eT : (S.toList == [102, 122, 110, 95, 116, 97, 98, 108, 101, 95, 105, 110, 116]) = bT := by rw [hls]; exact hbT
  have eR : (S.toList == [102, 122, 110, 95, 114, 101, 103, 117, 108, 97, 114]) = bR := by rw [hls]; exact hbR
  have eK : (S.toList == [102, 122, 110, 95, 107, 110, 97, 112, 115, 97, 99, 107]) = bK := by rw [hls]; exact hbK
  rw [hS]
  clear hS hls hbG hbX hbN hbT hbR hbB hbK hr hsw hL hB0 hW1 h hlen hl hE
  have xc := KC.out.cell 1
  have xn := KC.out.cell 0
  simp only [List.getElem?_toArray, List.getElem?_cons_succ, List.getElem?_cons_zero] at xc xn
  go_enter Tryz.func54, Tryz.ntmps54
  go_upto_region 1 with (fail)
  rw [HW1.out, HB0.out]
  go_wp2_with fail
  refine k78.mono ?_
  clear k78
  rintro e w2 ⟨v, rfl, hown, hb2⟩
  obtain ⟨aL, cL, rfl⟩ := own_shape hown
  have HSL : Hid (Si W1.heap.size w2 (.slice aL L.length cL) L) := own_si3 hown
  obtain ⟨m, hm⟩ : ∃ m, L.length = m := ⟨_, rfl⟩
  have HM : Hid (L.length = m) := hm
  have HM4 : Hid (m ≤ 4) := by rw [Hid, ← hm]; exact HL4.out
  rw [hm] at HSL ⊢
  clear hm hown
  have HB2 : Hid (Below B0 W w2) := HB1.out.trans (hb2.mono (by have := HB01.out; omega))
  have KC2 : Hid (Blk w2 B0 #[.string S, .slice (some ⟨b, off, none⟩) n c] 32) := KC.out.below hb2
  clear hb2 xc xn
  have h20 : Hid (B0 < w2.heap.size) := KC2.out.lt
  go_wp2
  have HBB : Hid (∀ X, Below w2.heap.size w2 X → Below B0 W X ∧ Blk X B0 #[.string S, .slice (some ⟨b, off, none⟩) n c] 32 ∧ Sa B X (.slice (some ⟨b, off, none⟩) n c) ags ∧ Si W1.heap.size X (.slice aL m cL) L) := fun X hX => by
    have hb := HB2.out.trans (hX.mono (by have := h20.out; omega))
    exact ⟨hb, KC2.out.below hX, HA.out.below (by rw [HB0.out]; exact hb), HSL.out.below hX⟩
  have HA0 := HA
  clear HSL HB2 HB1 KC KC2 HA HW1
  go_loopw [4] (fun i wr => ∃ k : Nat, 1 ≤ k ∧ i = .int .i64 (k : Int) ∧ (k ≤ m ∨ k = 1) ∧ Hid (∀ (j : Nat) x, j < k → L[j]? = some x → (agAt ags x.toNat).l.length = (agAt ags (L.headD 0).toNat).l.length) ∧ Hid (Below w2.heap.size w2 wr)) (fun i _ => m - (intOf i).toNat)
  case atStart => exact ⟨1, Nat.le_refl _, rfl, .inr rfl, (fun j x hj hx => by
    obtain rfl : j = 0 := by omega
    cases L with
    | nil => simp at hx
    | cons y l => simp at hx; subst hx; rfl), Below.refl _ _⟩
  case round =>
    obtain ⟨k, hk1, rfl, hkm, HSO, HBR⟩ := hrel
    obtain ⟨xbb, xkc, xsa, xsl⟩ := HBB.out _ HBR.out
    by_cases hlt : k < m
    · have hlt' : (k : Int) < m := by omega
      have hm0 : (0 : Int) < m := by omega
      have hwk : IntKind.i64.wrap ((k : Int) + 1) = (k : Int) + 1 := by rw [IntKind.wrap_i64]; have := HM4.out; omega
      obtain ⟨x, hx⟩ : ∃ x, L[k]? = some x := ⟨_, List.getElem?_eq_getElem (by rw [HM.out]; exact hlt)⟩
      obtain ⟨x0, hx0⟩ : ∃ x, L[0]? = some x := ⟨_, List.getElem?_eq_getElem (by rw [HM.out]; omega)⟩
      have hhd : L.headD 0 = x0 := by cases L with
        | nil => simp at hx0
        | cons y l => simp at hx0; exact hx0
      have HX : Hid (L[k]? = some x) := hx
      obtain ⟨hxp, hxn⟩ := HE.out x (List.mem_of_getElem? hx)
      obtain ⟨hyp, hyn⟩ := HE.out x0 (List.mem_of_getElem? hx0)
      obtain ⟨bL, offL, e, _, y1⟩ := xsl.at hx
      subst e
      obtain ⟨bL', offL', e, _, y0⟩ := xsl.at hx0
      injection e with e; injection e with q1 q2; subst q1; subst q2
      obtain ⟨j, rfl⟩ := Int.eq_ofNat_of_zero_le hxp
      obtain ⟨j0, rfl⟩ := Int.eq_ofNat_of_zero_le hyp
      obtain ⟨a1, c1, _, _, _, z1⟩ := xsa.nth (i := j) (by have := HLEN.out; omega)
      obtain ⟨a2, c2, _, _, _, z2⟩ := xsa.nth (i := j0) (by have := HLEN.out; omega)
      obtain ⟨p, hp⟩ : ∃ p, (agAt ags j).l.length = p := ⟨_, rfl⟩
      obtain ⟨q, hq⟩ : ∃ q, (agAt ags j0).l.length = q := ⟨_, rfl⟩
      have HP : Hid ((agAt ags j).l.length = p) := hp
      have HQ : Hid ((agAt ags (L.headD 0).toNat).l.length = q) := by rw [Hid, hhd]; exact hq
      rw [hp] at z1; rw [hq] at z2
      have xc := xkc.cell 1
      simp only [List.getElem?_toArray, List.getElem?_cons_succ, List.getElem?_cons_zero] at xc
      simp only [Nat.add_zero] at y0
      clear hp hq hhd hx hx0 xkc xsa xsl xbb
      by_cases hpq : p = q
      · subst hpq
        go_wp2
        go_quiet (fail)
        go_wp2
        go_roundw
        case rel => exact ⟨k + 1, by omega, by go_num, .inl (by omega), (fun j' x' hj' hx' => by
          rcases Nat.lt_succ_iff_lt_or_eq.1 hj' with q1 | q1
          · exact HSO.out j' x' q1 hx'
          · subst q1; rw [HX.out] at hx'; injection hx' with hx'; rw [← hx', HQ.out]; exact HP.out), by first | exact HBR.out | exact below_drewN HBR.out _⟩
        case measure => simp [intOf]; omega
      · have hpq' : ((p : Int) == (q : Int)) = false := by simpa using (by omega : ¬ (p : Int) = q)
        obtain rfl : false = r := by
          rw [HRU.out, show sameAt ags L = false from List.all_eq_false.2 ⟨(j : Int), List.mem_of_getElem? HX.out, by rw [decide_eq_true_eq, HQ.out]; exact fun e => hpq (HP.out.symm.trans e)⟩, Bool.false_and]
        go_wp2
        go_quiet (fail)
        go_wp2
        go_ret
        exact ⟨rfl, by rw [HB0.out]; exact (HBB.out _ (below_drewN HBR.out _)).1⟩
    · have hlt' : ¬ (k : Int) < m := by omega
      have hrs : sw = r := by
        rw [HRU.out, show sameAt ags L = true from List.all_eq_true.2 fun x hx => by
          obtain ⟨j, hj⟩ := List.mem_iff_getElem?.1 hx
          exact decide_eq_true (HSO.out j x (by have := (List.getElem?_eq_some_iff.1 hj).1; have := HM.out; omega) hj), Bool.true_and]
      clear HSO
      obtain ⟨w3, hw3⟩ : ∃ x, x = wr := ⟨_, rfl⟩
      subst hw3
      have hd3 : Hid (Below w3.heap.size w3 w3) := Below.refl _ _
      have xc := xkc.cell 1
      have xn := xkc.cell 0
      simp only [List.getElem?_toArray, List.getElem?_cons_succ, List.getElem?_cons_zero] at xc xn
      have XKC := hid xkc
      have XSA := hid xsa
      clear xkc xsa xsl xbb
      go_wp2_with fail
      refine (kG _).mono ?_
      rintro e w' ⟨rfl, hw'⟩
      rw [hw']
      clear hw' w'
      have HW3 := hid (HBB.out _ HBR.out).1
      have b0 : b < B0 := by obtain ⟨_, _, h0, _⟩ := HA0.out.nth (i := 0) (by have := HLEN.out; omega); rw [HB0.out] at h0; exact h0
      cases bG with
      | true =>
        have hn2 : (1 : Int) < n := by have := pG rfl; omega
        obtain ⟨a1, c1, _, xst, _, z1⟩ := XSA.out.nth (i := 1) (by have := HLEN.out; omega)
        obtain ⟨p, hp⟩ : ∃ p, (agAt ags 1).l.length = p := ⟨_, rfl⟩
        have HP : Hid ((agAt ags 1).l.length = p) := hp
        have hp9 : p ≤ 1000 := by rw [← hp]; exact HL.out 1 (by omega)
        rw [hp] at z1 xst
        have XST := hid xst
        have h3b : Hid (B0 < w3.heap.size) := XKC.out.lt
        have HRR : Hid (twiceB (agAt ags 1) = r) := by rw [Hid, ← hrs, HSW.out, if_pos rfl]
        simp only [Nat.one_mul, Nat.add_assoc, Nat.reduceAdd] at z1
        clear hp xst hrs
        go_wp2
        go_loopw [5] (fun i wr => ∃ k : Nat, k ≤ p ∧ i = .int .i64 (k : Int) ∧ Hid (∀ (i j : Nat) x y, j < i → i < k → (agAt ags 1).l[i]? = some x → (agAt ags 1).l[j]? = some y → x.n ≠ y.n) ∧ Hid (Below w3.heap.size w3 wr)) (fun i _ => p - (intOf i).toNat)
        case atStart => exact ⟨0, Nat.zero_le _, rfl, (fun i j x y h1 h2 => by omega), Below.refl _ _⟩
        case round =>
          obtain ⟨k2, hk2, rfl, HNE, HBR2⟩ := hrel
          obtain ⟨w4, hw4⟩ : ∃ x, x = wr := ⟨_, rfl⟩
          subst hw4
          have xc := (XKC.out.below HBR2.out).cell 1
          simp only [List.getElem?_toArray, List.getElem?_cons_succ, List.getElem?_cons_zero] at xc
          have z1 := (HBR2.out.cell (p := ⟨b, off + 3, none⟩) (by have := h3b.out; omega)).trans z1
          by_cases hlt2 : k2 < p
          · have hlt2' : (k2 : Int) < p := by omega
            have hwk2 : IntKind.i64.wrap ((k2 : Int) + 1) = (k2 : Int) + 1 := by rw [IntKind.wrap_i64]; omega
            obtain ⟨t, ht⟩ : ∃ t, (agAt ags 1).l[k2]? = some t := ⟨_, List.getElem?_eq_getElem (by rw [HP.out]; exact hlt2)⟩
            have HT := hid ht
            go_wp2
            go_loopw [6] (fun i wr => ∃ j : Nat, j ≤ k2 ∧ i = .int .i64 (j : Int) ∧ Hid (∀ (j' : Nat) y, j' < j → (agAt ags 1).l[j']? = some y → t.n ≠ y.n) ∧ Hid (Below w3.heap.size w3 wr)) (fun i _ => k2 - (intOf i).toNat)
            case atStart => exact ⟨0, Nat.zero_le _, rfl, (fun j' y h1 => by omega), HBR2.out⟩
            case round =>
              obtain ⟨j, hj, rfl, HNJ, HBR3⟩ := hrel
              have xc := (XKC.out.below HBR3.out).cell 1
              simp only [List.getElem?_toArray, List.getElem?_cons_succ, List.getElem?_cons_zero] at xc
              obtain ⟨aa, cc, _, xst, _, z1⟩ := ((HBB.out _ HBR.out).2.2.1.below (HBR3.out)).nth (i := 1) (by have := HLEN.out; omega)
              rw [HP.out] at z1 xst
              simp only [Nat.one_mul, Nat.add_assoc, Nat.reduceAdd] at z1
              by_cases hlt3 : j < k2
              · have hlt3' : (j : Int) < k2 := by omega
                have hlt3p : (j : Int) < p := by omega
                have hwj : IntKind.i64.wrap ((j : Int) + 1) = (j : Int) + 1 := by rw [IntKind.wrap_i64]; omega
                obtain ⟨y, hy⟩ : ∃ t, (agAt ags 1).l[j]? = some t := ⟨_, List.getElem?_eq_getElem (by rw [HP.out]; omega)⟩
                have HY := hid hy
                obtain ⟨b3, off3, _, _, e, _, _, _, _, d2, _⟩ := xst.at ht
                subst e
                obtain ⟨b3', off3', _, _, e, _, _, _, _, d3, _⟩ := xst.at hy
                injection e with e; injection e with q1 q2; subst q1; subst q2
                obtain ⟨tn, htn⟩ : ∃ x, t.n = x := ⟨_, rfl⟩
                obtain ⟨yn, hyn⟩ : ∃ x, y.n = x := ⟨_, rfl⟩
                rw [htn] at d2; rw [hyn] at d3
                have HTN := hid htn
                have HYN := hid hyn
                clear htn hyn ht hy xst
                by_cases he : tn = yn
                · subst he
                  obtain rfl : false = r := by rw [← HRR.out]; exact (twice_no hlt3 HT.out HY.out (HTN.out.trans HYN.out.symm)).symm
                  go_wp2
                  go_quiet (fail)
                  go_wp2
                  go_ret
                  exact ⟨rfl, by rw [HB0.out]; exact HW3.out.trans ((below_drewN HBR3.out _).mono (Nat.le_of_lt h3b.out))⟩
                · have he' : (tn == yn) = false := by simpa using he
                  go_wp2
                  go_quiet (fail)
                  go_wp2
                  go_roundw
                  case rel => exact ⟨j + 1, by omega, by go_num, (fun j' y' h1 h2 => by
                    rcases Nat.lt_succ_iff_lt_or_eq.1 h1 with q1 | q1
                    · exact HNJ.out j' y' q1 h2
                    · subst q1; rw [HY.out] at h2; injection h2 with h2; rw [← h2, HTN.out, HYN.out]; exact he), below_drewN HBR3.out _⟩
                  case measure => simp [intOf]; omega
              · have hlt3' : ¬ (j : Int) < k2 := by omega
                obtain rfl : j = k2 := by omega
                clear xst ht
                go_wp2
                go_roundw
                case rel => exact ⟨j + 1, by omega, by go_num, (fun i' j' x' y' h1 h2 h3 h4 => by
                  rcases Nat.lt_succ_iff_lt_or_eq.1 h2 with q1 | q1
                  · exact HNE.out i' j' x' y' h1 q1 h3 h4
                  · subst q1; rw [HT.out] at h3; injection h3 with h3; rw [← h3]; exact HNJ.out j' y' h1 h4), HBR3.out⟩
                case measure => simp [intOf]; omega
          · have hlt2' : ¬ (k2 : Int) < p := by omega
            obtain rfl : k2 = p := by omega
            obtain rfl : true = r := by rw [← HRR.out]; exact (twice_yes (fun i j x y h1 h2 h3 h4 => HNE.out i j x y h1 (by rw [← HP.out]; exact h2) h3 h4)).symm
            go_wp2
            go_ret
            exact ⟨rfl, by rw [HB0.out]; exact HW3.out.trans (HBR2.out.mono (Nat.le_of_lt h3b.out))⟩
      | false =>
        cases bX with
        | true =>
          have hn2 : (1 : Int) < n := by have := pX rfl; omega
          have HRR : Hid (decide (0 < (agAt ags 1).l.length) = r) := HSW.out.symm.trans hrs
          obtain ⟨a1, c1, _, _, _, z1⟩ := XSA.out.nth (i := 1) (by have := HLEN.out; omega)
          obtain ⟨p, hp⟩ : ∃ p, (agAt ags 1).l.length = p := ⟨_, rfl⟩
          rw [hp] at z1 HRR
          simp only [Nat.one_mul, Nat.add_assoc, Nat.reduceAdd] at z1
          clear hp hrs
          by_cases hp0 : 0 < p
          · have hp0' : (0 : Int) < p := by omega
            obtain rfl : true = r := by rw [← HRR.out]; exact (decide_eq_true hp0).symm
            go_wp2
            go_ret
            exact ⟨rfl, by rw [HB0.out]; exact HW3.out⟩
          · have hp0' : ¬ (0 : Int) < p := by omega
            obtain rfl : false = r := by rw [← HRR.out]; exact (decide_eq_false hp0).symm
            go_wp2
            go_ret
            exact ⟨rfl, by rw [HB0.out]; exact HW3.out⟩
        | false =>
          cases bN with
          | true =>
            have hn2 : (1 : Int) < n := by have := pN rfl; omega
            have HRR : Hid (decide (0 < (agAt ags 1).l.length) = r) := HSW.out.symm.trans hrs
            obtain ⟨a1, c1, _, _, _, z1⟩ := XSA.out.nth (i := 1) (by have := HLEN.out; omega)
            obtain ⟨p, hp⟩ : ∃ p, (agAt ags 1).l.length = p := ⟨_, rfl⟩
            rw [hp] at z1 HRR
            simp only [Nat.one_mul, Nat.add_assoc, Nat.reduceAdd] at z1
            clear hp hrs
            by_cases hp0 : 0 < p
            · have hp0' : (0 : Int) < p := by omega
              obtain rfl : true = r := by rw [← HRR.out]; exact (decide_eq_true hp0).symm
              go_wp2
              go_ret
              exact ⟨rfl, by rw [HB0.out]; exact HW3.out⟩
            · have hp0' : ¬ (0 : Int) < p := by omega
              obtain rfl : false = r := by rw [← HRR.out]; exact (decide_eq_false hp0).symm
              go_wp2
              go_ret
              exact ⟨rfl, by rw [HB0.out]; exact HW3.out⟩
          | false =>
            cases bT with
            | true =>
              have hn2 : (1 : Int) < n := by have := pT rfl; omega
              have hn0 : (0 : Int) < n := by omega
              have HRR : Hid ((decide (0 < (agAt ags 0).l.length) && decide ((agAt ags 1).l.length % (agAt ags 0).l.length = 0)) = r) := HSW.out.symm.trans hrs
              obtain ⟨a0, c0, _, _, _, z0⟩ := XSA.out.nth (i := 0) (by have := HLEN.out; omega)
              obtain ⟨a1, c1, _, _, _, z1⟩ := XSA.out.nth (i := 1) (by have := HLEN.out; omega)
              obtain ⟨m1, hm1⟩ : ∃ p, (agAt ags 0).l.length = p := ⟨_, rfl⟩
              obtain ⟨p, hp⟩ : ∃ p, (agAt ags 1).l.length = p := ⟨_, rfl⟩
              have hp9 : p ≤ 1000 := by rw [← hp]; exact HL.out 1 (by omega)
              rw [hm1] at z0 HRR
              rw [hp] at z1 HRR
              simp only [Nat.one_mul, Nat.zero_mul, Nat.zero_add, Nat.add_zero, Nat.add_assoc, Nat.reduceAdd] at z1 z0
              clear hp hm1 hrs
              by_cases h0 : 0 < m1
              · have h0' : (0 : Int) < m1 := by omega
                have h0'' : (m1 : Int) ≠ 0 := by omega
                obtain ⟨q, hq⟩ : ∃ q, p % m1 = q := ⟨_, rfl⟩
                have ht : Int.tmod (p : Int) (m1 : Int) = (q : Int) := by rw [← hq]; exact (Int.ofNat_tmod p m1).symm ▸ rfl
                have hq9 : q ≤ 1000 := by rw [← hq]; exact Nat.le_trans (Nat.mod_le _ _) hp9
                rw [hq] at HRR
                have hwq : IntKind.i64.wrap (q : Int) = (q : Int) := by rw [IntKind.wrap_i64]; omega
                clear hq
                by_cases hz : q = 0
                · subst hz
                  obtain rfl : true = r := by rw [← HRR.out]; simp [h0]
                  go_wp2
                  go_ret
                  exact ⟨rfl, by rw [HB0.out]; exact HW3.out⟩
                · have hqz : ((q : Int) == 0) = false := by simp; omega
                  obtain rfl : false = r := by rw [← HRR.out]; simp [h0, hz]
                  go_wp2
                  go_ret
                  exact ⟨rfl, by rw [HB0.out]; exact HW3.out⟩
              · have h0' : ¬ (0 : Int) < m1 := by omega
                obtain rfl : false = r := by rw [← HRR.out]; simp [h0]
                go_wp2
                go_ret
                exact ⟨rfl, by rw [HB0.out]; exact HW3.out⟩
            | false =>
              cases bR with
              | true =>
                obtain ⟨q5, q1, q2, q4⟩ := pR rfl
                have HRR : Hid (autoB (fstN (agAt ags 1)) (fstN (agAt ags 2)) (fstN (agAt ags 4)) (agAt ags 3) = r) := HSW.out.symm.trans hrs
                have k80' := k80 w3 XSA.out q5 q1 q2 q4
                rw [HRR.out] at k80'
                clear k80 q1 q2 q4 hrs
                go_wp2_with fail
                refine k80'.mono ?_
                rintro e w5 ⟨rfl, hb5⟩
                have HB5 := hid (HW3.out.trans (hb5.mono (Nat.le_of_lt XKC.out.lt)))
                clear hb5 k80'
                go_wp2
                go_ret
                exact ⟨rfl, by rw [HB0.out]; exact HB5.out⟩
              | false =>
                go_wp2_with fail
                refine (kB _).mono ?_
                rintro e w' ⟨rfl, hw'⟩
                rw [hw']
                clear hw' w'
                cases bB with
                | true =>
                  have hn3 : (2 : Int) < n := by have := pB rfl; omega
                  have HRR : Hid ((!lowB (agAt ags 2)) = r) := HSW.out.symm.trans hrs
                  obtain ⟨a1, c1, _, xst, z10, z1⟩ := XSA.out.nth (i := 2) (by have := HLEN.out; omega)
                  have k := k81 2 (by omega) w3 a1 c1 xst
                  obtain ⟨p, hp⟩ : ∃ p, (agAt ags 2).l.length = p := ⟨_, rfl⟩
                  rw [hp] at z1 k
                  simp only [Nat.reduceMul, Nat.add_assoc, Nat.reduceAdd] at z1 z10
                  obtain ⟨rl, hrl⟩ : ∃ x, lowB (agAt ags 2) = x := ⟨_, rfl⟩
                  obtain ⟨ar, har⟩ : ∃ x, (agAt ags 2).arr = x := ⟨_, rfl⟩
                  rw [hrl] at HRR k
                  rw [har] at k z10
                  clear hp hrs k81 xst hrl har
                  go_wp2_with fail
                  refine k.mono ?_
                  rintro e w5 ⟨rfl, hb5⟩
                  have HB5 := hid (HW3.out.trans (hb5.mono (Nat.le_of_lt XKC.out.lt)))
                  clear hb5 k
                  go_wp2
                  go_ret
                  exact ⟨by rw [← HRR.out]; rfl, by rw [HB0.out]; exact HB5.out⟩
                | false =>
                  cases bK with
                  | true =>
                    have hn2 : (1 : Int) < n := by have := pK rfl; omega
                    have hn0 : (0 : Int) < n := by omega
                    have HRR : Hid ((!lowB (agAt ags 0) && !lowB (agAt ags 1)) = r) := HSW.out.symm.trans hrs
                    obtain ⟨a0, c0, _, xst0, z00, z0⟩ := XSA.out.nth (i := 0) (by have := HLEN.out; omega)
                    have k0 := k81 0 (by omega) w3 a0 c0 xst0
                    obtain ⟨p0, hp0⟩ : ∃ p, (agAt ags 0).l.length = p := ⟨_, rfl⟩
                    rw [hp0] at z0 k0
                    simp only [Nat.zero_mul, Nat.zero_add, Nat.add_zero, Nat.reduceMul, Nat.add_assoc, Nat.reduceAdd] at z0 z00
                    obtain ⟨rl0, hrl0⟩ : ∃ x, lowB (agAt ags 0) = x := ⟨_, rfl⟩
                    obtain ⟨ar0, har0⟩ : ∃ x, (agAt ags 0).arr = x := ⟨_, rfl⟩
                    rw [hrl0] at HRR k0
                    rw [har0] at k0 z00
                    clear hp0 hrs xst0 hrl0 har0
                    go_wp2_with fail
                    refine k0.mono ?_
                    rintro e w5 ⟨rfl, hb5⟩
                    have HB5 := hid (HW3.out.trans (hb5.mono (Nat.le_of_lt XKC.out.lt)))
                    have XKC5 := hid (XKC.out.below hb5)
                    have h5b : Hid (B0 < w5.heap.size) := XKC5.out.lt
                    have xc := XKC5.out.cell 1
                    simp only [List.getElem?_toArray, List.getElem?_cons_succ, List.getElem?_cons_zero] at xc
                    obtain ⟨a1, c1, _, xst, z10, z1⟩ := (HA0.out.below (by rw [HB0.out]; exact HB5.out)).nth (i := 1) (by have := HLEN.out; omega)
                    have k := k81 1 (by omega) w5 a1 c1 xst
                    obtain ⟨p, hp⟩ : ∃ p, (agAt ags 1).l.length = p := ⟨_, rfl⟩
                    rw [hp] at z1 k
                    simp only [Nat.one_mul, Nat.add_assoc, Nat.reduceAdd] at z1 z10
                    obtain ⟨rl, hrl⟩ : ∃ x, lowB (agAt ags 1) = x := ⟨_, rfl⟩
                    obtain ⟨ar, har⟩ : ∃ x, (agAt ags 1).arr = x := ⟨_, rfl⟩
                    rw [hrl] at HRR k
                    rw [har] at k z10
                    clear hp k81 xst hrl har hb5 k0
                    cases rl0 with
                    | true =>
                      obtain rfl : false = r := by rw [← HRR.out]; rfl
                      go_wp2
                      go_ret
                      exact ⟨rfl, by rw [HB0.out]; exact HB5.out⟩
                    | false =>
                      obtain rfl : (!rl) = r := by rw [← HRR.out]; rfl
                      go_wp2_with fail
                      refine k.mono ?_
                      rintro e w6 ⟨rfl, hb6⟩
                      have HB6 := hid (HB5.out.trans (hb6.mono (Nat.le_of_lt h5b.out)))
                      clear hb6 k
                      go_wp2
                      go_ret
                      exact ⟨rfl, by rw [HB0.out]; exact HB6.out⟩
                  | false =>
                    obtain rfl : true = r := HSW.out.symm.trans hrs
                    go_wp2
                    go_ret
                    exact ⟨rfl, by rw [HB0.out]; exact HW3.out⟩
end Go.Proofs.YtpgecdhieakilaaGreatDoor

namespace Go.Proofs.YtpgecdhieakilaaGreatDoor
open Go.RowKit Go.Shelf
set_option linter.unusedVariables false
set_option linter.unusedSimpArgs false
set_option maxRecDepth 100000

/-- No rule but that of as many terms. -/
def plainN (nm : List UInt8) : Bool := !Lib.hasPrefix nm [102, 122, 110, 95, 103, 108, 111, 98, 97, 108] && (!(nm == [102, 122, 110, 95, 109, 97, 120, 105, 109, 117, 109, 95, 105, 110, 116]) && (!(nm == [102, 122, 110, 95, 109, 105, 110, 105, 109, 117, 109, 95, 105, 110, 116]) && (!(nm == [102, 122, 110, 95, 116, 97, 98, 108, 101, 95, 105, 110, 116]) && (!(nm == [102, 122, 110, 95, 114, 101, 103, 117, 108, 97, 114]) && (!Lib.hasPrefix nm [102, 122, 110, 95, 98, 105, 110] && !(nm == [102, 122, 110, 95, 107, 110, 97, 112, 115, 97, 99, 107]))))))
def nmOk (k : Nat) (nm : List UInt8) : Bool := special.contains nm || (plainN nm && (if isLin nm then eqL nm == [0, 1] && decide (2 ≤ (partsF (rowK k).2.1).length) else eqL nm == []))
def rowOk2 (k : Nat) : Bool := (nmL (rowK k).2.2).all (nmOk k) && (partsR (rowK k).2.1 == partsF (rowK k).2.1 && decide (1 ≤ (partsF (rowK k).2.1).length))
theorem rows_ok2 : (List.range 48).all rowOk2 = true := by kernel_rfl
theorem find_ok2 (nm : List UInt8) (h : (findT nm).2 ≠ []) : (special.contains nm = true ∨ (plainN nm = true ∧ (if isLin nm then eqL nm == [0, 1] && decide (2 ≤ (partsF (findT nm).2).length) else eqL nm == []) = true)) ∧ partsR (findT nm).2 = partsF (findT nm).2 ∧ 1 ≤ (partsF (findT nm).2).length := by
  rcases find_row nm with h0 | ⟨k, hk, hh, e⟩
  · exact absurd h0 h
  · rw [e]
    have hr := List.all_eq_true.1 rows_ok2 k (List.mem_range.2 hk)
    simp only [rowOk2, Bool.and_eq_true, decide_eq_true_eq, List.all_eq_true] at hr
    have hm : nm ∈ nmL (rowK k).2.2 := by simpa [hit] using hh
    have := hr.1 nm hm
    simp only [nmOk, Bool.or_eq_true, Bool.and_eq_true] at this
    exact ⟨this, by simpa using hr.2.1, hr.2.2⟩
theorem sw_plain {nm : List UInt8} (h : plainN nm = true) (ags : List Ag) : swB nm ags = true := by
  simp only [plainN, Bool.and_eq_true, Bool.not_eq_true'] at h
  obtain ⟨h1, h2, h3, h4, h5, h6, h7⟩ := h
  unfold swB
  simp [h1, h2, h3, h4, h5, h6, h7]
theorem low_any' (g : Ag) : lowB g = (numL g).any negB := by
  unfold lowB numL negB
  rw [List.any_map]
  rfl
theorem ruled_fits (nm : List UInt8) (hF : (findT nm).2 ≠ []) (ags : List Ag) (hpl : ags.length = (partsF (findT nm).2).length) : ruledB nm ags = fitsB nm ags := by
  obtain ⟨h, _, _⟩ := find_ok2 nm hF
  by_cases hs : ∀ x ∈ special, nm ≠ x
  · rcases h with h | ⟨h1, h2⟩
    · exact absurd rfl (hs nm (by simpa using h))
    · unfold ruledB
      rw [sw_plain h1, Bool.and_true]
      unfold fitsB
      rw [rule_other hs]
      change _ = match (if isLin nm = true then 9 else 0) with | 1 => _ | 2 => _ | 3 => _ | 4 => _ | 5 => _ | 6 => _ | 7 => _ | 8 => _ | 9 => _ | _ => _
      by_cases hl : isLin nm = true
      · rw [if_pos hl] at h2
        rw [if_pos hl]
        simp only [Bool.and_eq_true, decide_eq_true_eq, beq_iff_eq] at h2
        rw [h2.1]
        match ags, hpl with
        | [], hpl => simp at hpl; omega
        | [_], hpl => simp at hpl; omega
        | g0 :: g1 :: l, _ => simp [sameAt, agAt, manyB]
      · rw [if_neg hl] at h2
        rw [if_neg hl]
        rw [show eqL nm = [] by simpa using h2]
        rfl
  · have : nm ∈ special := by
      apply Classical.byContradiction
      intro hn
      exact hs (fun x hx e => hn (e ▸ hx))
    simp only [special, List.mem_cons, List.mem_nil_iff, or_false] at this
    clear hs h
    rcases this with rfl | rfl | rfl | rfl | rfl | rfl | rfl | rfl | rfl | rfl | rfl | rfl | rfl | rfl | rfl
    · have hk : (partsF (findT [102, 122, 110, 95, 115, 111, 114, 116]).2).length = 2 := by kernel_rfl
      rw [hk] at hpl
      match ags, hpl with
      | [g0, g1], _ =>
        show (sameAt [g0, g1] [0, 1] && true) = (manyB [g0, g1])
        simp [sameAt, agAt, manyB, low_any']
    · have hk : (partsF (findT [102, 122, 110, 95, 105, 110, 118, 101, 114, 115, 101]).2).length = 2 := by kernel_rfl
      rw [hk] at hpl
      match ags, hpl with
      | [g0, g1], _ =>
        show (sameAt [g0, g1] [0, 1] && true) = (manyB [g0, g1])
        simp [sameAt, agAt, manyB, low_any']
    · have hk : (partsF (findT [102, 122, 110, 95, 100, 105, 115, 106, 117, 110, 99, 116, 105, 118, 101]).2).length = 2 := by kernel_rfl
      rw [hk] at hpl
      match ags, hpl with
      | [g0, g1], _ =>
        show (sameAt [g0, g1] [0, 1] && true) = (manyB [g0, g1])
        simp [sameAt, agAt, manyB, low_any']
    · have hk : (partsF (findT [102, 122, 110, 95, 100, 105, 102, 102, 110]).2).length = 4 := by kernel_rfl
      rw [hk] at hpl
      match ags, hpl with
      | [g0, g1, g2, g3], _ =>
        show (sameAt [g0, g1, g2, g3] [0, 1, 2, 3] && true) = (manyB [g0, g1, g2, g3])
        simp [sameAt, agAt, manyB, low_any']
    · have hk : (partsF (findT [102, 122, 110, 95, 103, 108, 111, 98, 97, 108, 95, 99, 97, 114, 100, 105, 110, 97, 108, 105, 116, 121]).2).length = 3 := by kernel_rfl
      rw [hk] at hpl
      match ags, hpl with
      | [g0, g1, g2], _ =>
        show (sameAt [g0, g1, g2] [1, 2] && twiceB g1) = (manyB [g1, g2] && twiceB g1)
        simp [sameAt, agAt, manyB, low_any']
    · have hk : (partsF (findT [102, 122, 110, 95, 103, 108, 111, 98, 97, 108, 95, 99, 97, 114, 100, 105, 110, 97, 108, 105, 116, 121, 95, 99, 108, 111, 115, 101, 100]).2).length = 3 := by kernel_rfl
      rw [hk] at hpl
      match ags, hpl with
      | [g0, g1, g2], _ =>
        show (sameAt [g0, g1, g2] [1, 2] && twiceB g1) = (manyB [g1, g2] && twiceB g1)
        simp [sameAt, agAt, manyB, low_any']
    · have hk : (partsF (findT [102, 122, 110, 95, 109, 97, 120, 105, 109, 117, 109, 95, 105, 110, 116]).2).length = 2 := by kernel_rfl
      rw [hk] at hpl
      match ags, hpl with
      | [g0, g1], _ =>
        show (true && decide (0 < g1.l.length)) = (decide (0 < g1.l.length))
        simp [sameAt, agAt, manyB, low_any']
    · have hk : (partsF (findT [102, 122, 110, 95, 109, 105, 110, 105, 109, 117, 109, 95, 105, 110, 116]).2).length = 2 := by kernel_rfl
      rw [hk] at hpl
      match ags, hpl with
      | [g0, g1], _ =>
        show (true && decide (0 < g1.l.length)) = (decide (0 < g1.l.length))
        simp [sameAt, agAt, manyB, low_any']
    · have hk : (partsF (findT [102, 122, 110, 95, 116, 97, 98, 108, 101, 95, 105, 110, 116]).2).length = 2 := by kernel_rfl
      rw [hk] at hpl
      match ags, hpl with
      | [g0, g1], _ =>
        show (true && (decide (0 < g0.l.length) && decide (g1.l.length % g0.l.length = 0))) = (decide (0 < g0.l.length) && decide (g1.l.length % g0.l.length = 0))
        simp [sameAt, agAt, manyB, low_any']
    · have hk : (partsF (findT [102, 122, 110, 95, 114, 101, 103, 117, 108, 97, 114]).2).length = 6 := by kernel_rfl
      rw [hk] at hpl
      match ags, hpl with
      | [g0, g1, g2, g3, g4, g5], _ =>
        show (true && autoB (fstN g1) (fstN g2) (fstN g4) g3) = (autoB (fstN g1) (fstN g2) (fstN g4) g3)
        simp [sameAt, agAt, manyB, low_any']
    · have hk : (partsF (findT [102, 122, 110, 95, 99, 117, 109, 117, 108, 97, 116, 105, 118, 101]).2).length = 4 := by kernel_rfl
      rw [hk] at hpl
      match ags, hpl with
      | [g0, g1, g2, g3], _ =>
        show (sameAt [g0, g1, g2, g3] [0, 1, 2] && true) = (manyB [g0, g1, g2])
        simp [sameAt, agAt, manyB, low_any']
    · have hk : (partsF (findT [102, 122, 110, 95, 98, 105, 110, 95, 112, 97, 99, 107, 105, 110, 103]).2).length = 3 := by kernel_rfl
      rw [hk] at hpl
      match ags, hpl with
      | [g0, g1, g2], _ =>
        show (sameAt [g0, g1, g2] [1, 2] && !lowB g2) = (manyB [g1, g2] && !(numL g2).any negB)
        simp [sameAt, agAt, manyB, low_any']
    · have hk : (partsF (findT [102, 122, 110, 95, 98, 105, 110, 95, 112, 97, 99, 107, 105, 110, 103, 95, 99, 97, 112, 97]).2).length = 3 := by kernel_rfl
      rw [hk] at hpl
      match ags, hpl with
      | [g0, g1, g2], _ =>
        show (sameAt [g0, g1, g2] [1, 2] && !lowB g2) = (manyB [g1, g2] && !(numL g2).any negB)
        simp [sameAt, agAt, manyB, low_any']
    · have hk : (partsF (findT [102, 122, 110, 95, 98, 105, 110, 95, 112, 97, 99, 107, 105, 110, 103, 95, 108, 111, 97, 100]).2).length = 3 := by kernel_rfl
      rw [hk] at hpl
      match ags, hpl with
      | [g0, g1, g2], _ =>
        show (sameAt [g0, g1, g2] [1, 2] && !lowB g2) = (manyB [g1, g2] && !(numL g2).any negB)
        simp [sameAt, agAt, manyB, low_any']
    · have hk : (partsF (findT [102, 122, 110, 95, 107, 110, 97, 112, 115, 97, 99, 107]).2).length = 5 := by kernel_rfl
      rw [hk] at hpl
      match ags, hpl with
      | [g0, g1, g2, g3, g4], _ =>
        show (sameAt [g0, g1, g2, g3, g4] [0, 1, 2] && (!lowB g0 && !lowB g1)) = (manyB [g0, g1, g2] && (!(numL g0).any negB && !(numL g1).any negB))
        simp [sameAt, agAt, manyB, low_any']
end Go.Proofs.YtpgecdhieakilaaGreatDoor
