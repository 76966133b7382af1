/-
  What is proved here: what strconv.ParseInt answers, and package lex's number.
-/
import Derived.Test.YtokcbiafajpmoaaDoorLm
import Derived.Lib.SmallJoins
import Derived.WalkSmall
namespace Go.Proofs.YtokcbiafajpmoaaDoor
open Go.RowKit
set_option linter.unusedVariables false
set_option linter.unusedSimpArgs false
/-- The library's two error variables hold some error, or none. -/
def ErrV (W : World) : Prop := 4 < W.heap.size ∧ (∃ ev, W.cell? ⟨3, 0, none⟩ = some ev ∧ (ev = .nilIface ∨ ∃ te pe, ev = .iface te pe)) ∧ ∃ ev, W.cell? ⟨4, 0, none⟩ = some ev ∧ (ev = .nilIface ∨ ∃ te pe, ev = .iface te pe)
theorem ErrV.below {B : Nat} {W W' : World} (h : ErrV W) (hb : Below B W W') (hB : 4 < B) : ErrV W' := by
  obtain ⟨h1, ⟨e2, h2, h3⟩, e4, h4, h5⟩ := h
  exact ⟨Nat.lt_of_lt_of_le h1 hb.size, ⟨e2, (hb.cell (p := ⟨3, 0, none⟩) (by show 3 < B; omega)).trans h2, h3⟩, e4, (hb.cell (p := ⟨4, 0, none⟩) hB).trans h4, h5⟩
theorem ErrV.self {W W' : World} (h : ErrV W) (hb : Below W.heap.size W W') : ErrV W' := h.below hb h.1
def okv : Lib.NumEnd Int → Option Int
  | .ok v => some v
  | _ => none
/-- What strconv.ParseInt answers. -/
def PintE (l : List UInt8) (x : Ending) : Prop := (∃ v, okv (Lib.parseIntB 64 l) = some v ∧ x = .returned (.tuple #[.int .i64 v, .nilIface])) ∨ (okv (Lib.parseIntB 64 l) = none ∧ ∃ v t p, x = .returned (.tuple #[.int .i64 v, .iface t p]))
theorem pint_any (l : List UInt8) (hs : l.length ≤ 65536) (w : World) (hE : ErrV w) :
    Calls Tryd.prog 42 #[.string (bs l), .int .i64 10, .int .i64 64] w fun e w' => PintE l e ∧ Below w.heap.size w w' := by
  obtain ⟨_, ⟨e2, h2, h3⟩, e4, h4, h5⟩ := hE
  have hsz : (bs l).size ≤ 65536 := hs
  have hd := bs_data l
  cases h : Lib.parseIntB 64 l with
  | ok v =>
    refine (Any.strconv_ParseInt_10_at64_ok Tryd.laysPint (bs l) (by omega) v (by rw [hd]; exact h) w).mono fun e w' ⟨he, hw⟩ => ⟨.inl ⟨v, by rw [h]; rfl, he⟩, ?_⟩
    rcases hw with rfl | ⟨t, rfl⟩
    · exact Below.refl _ _
    · exact Joins.below_bytesWorld _ _ _ _ (Nat.le_refl _)
  | «syntax» => exact (Any.strconv_ParseInt_10_at64_syntax Tryd.laysPint (bs l) (by omega) (by rw [hd]; exact h) e2 w h2 h3).mono fun e w' ⟨n, he, _, _, hb⟩ => ⟨.inr ⟨by rw [h]; rfl, _, _, _, he⟩, hb⟩
  | range => exact (Any.strconv_ParseInt_10_at64_range Tryd.laysPint (bs l) (by omega) (by rw [hd]; exact h) e4 w h4 h5).mono fun e w' ⟨n, he, _, _, hb⟩ => ⟨.inr ⟨by rw [h]; rfl, _, _, _, he⟩, hb⟩
/-- A token as a value. -/
def tokV (k : Int) (tx : List UInt8) (n : Int) (a : Nat) : Value := .agg #[.int .i64 k, .string (bs tx), .int .i64 n, .int .i64 (a : Int)]
/-- What is thrown. -/
def thrown (x : Int) (a : Nat) : List PanicEntry := [{ v := .iface 40 (.agg #[.int .i64 x, .int .i64 (a : Int)]), recovered := false }]
/-- How a call ends that looks for a token. -/
def endOf (r : Res) (l : List UInt8) (a : Nat) : Ending :=
  match r with
  | .ok k m n => .returned (tokV k ((l.drop a).take m) n a)
  | .bad x => .panicked (thrown x a)
theorem numR_none (l : List UInt8) (h : okv (Lib.parseIntB 64 (l.take (numLen l))) = none) : numR l = .bad 150 := by
  unfold numR
  cases h2 : Lib.parseIntB 64 (l.take (numLen l)) with
  | ok v => rw [h2] at h; exact absurd h (by simp [okv])
  | «syntax» => rfl
  | range => rfl
theorem numR_some (l : List UInt8) (v : Int) (h : okv (Lib.parseIntB 64 (l.take (numLen l))) = some v) : numR l = if v < -1000000000 ∨ 1000000000 < v then .bad 150 else if goesB (l.drop (numLen l)) then .bad 173 else .ok 2 (numLen l) v := by
  unfold numR
  cases h2 : Lib.parseIntB 64 (l.take (numLen l)) with
  | ok u => rw [h2] at h; simp only [okv, Option.some.injEq] at h; subst h; rfl
  | «syntax» => rw [h2] at h; exact absurd h (by simp [okv])
  | range => rw [h2] at h; exact absurd h (by simp [okv])

set_option maxRecDepth 100000 in
set_option maxHeartbeats 4000000 in
theorem number_any (l : List UInt8) (a : Nat) (c : UInt8) (hc : l[a]? = some c) (hl : l.length ≤ 65536) (W : World) (hE : ErrV W) :
    Calls Tryd.prog 33 #[.string (bs l), .int .i64 (a : Int)] W fun e w' => e = endOf (numR (l.drop a)) l a ∧ Below W.heap.size W w' := by
  have hal : a < l.length := (List.getElem?_eq_some_iff.1 hc).1
  have hat := fun (i : Nat) (c : UInt8) (h : l[i]? = some c) => bs_get l i c h
  have hcut := fun (b : Nat) (h1 : a ≤ b) (h2 : b ≤ l.length) X => bs_cut l a b h1 h2 X
  have hfrom := fun (b : Nat) (h2 : b ≤ l.length) X => bs_from l b h2 X
  have hgoes := fun (b : Nat) X => goesOn_any (l.drop b) (by rw [List.length_drop]; omega) X
  have hsz : (bs l).size = l.length := bs_size l
  obtain ⟨n, hn⟩ : ∃ n, l.length = n := ⟨_, rfl⟩
  have HN : Hid (l.length = n) := hn
  rw [hn] at hsz hal hl
  simp only [hn] at hcut hfrom
  obtain ⟨g, hg⟩ : ∃ g, spn digB (l.drop (a + 1)) = g := ⟨_, rfl⟩
  have HG : Hid (spn digB (l.drop (a + 1)) = g) := hg
  have hgl : a + 1 + g ≤ n := by
    have h1 := spn_le digB (l.drop (a + 1))
    rw [List.length_drop, HN.out, hg] at h1
    omega
  have hnl : numLen (l.drop a) = g + 1 := by unfold numLen; rw [List.drop_drop, hg]
  obtain ⟨w1, hW1⟩ : ∃ X, W.alloc (Obj.cells #[.int .i64 0, .string ⟨#[]⟩, .int .i64 0, .int .i64 0] 23) = X := ⟨_, rfl⟩
  have hb1 : Below W.heap.size W w1 := by rw [← hW1]; exact (Below.refl _ W).alloc (Nat.le_refl _) _
  have HW1 : Hid _ := hW1
  have HROW : Hid (Rw w1 W.heap.size 23 #[.int .i64 0, .string ⟨#[]⟩, .int .i64 0, .int .i64 0]) := by unfold Hid; rw [← hW1]; exact Rw.new _ _ _
  have hpi := pint_any ((l.drop a).take (a + 1 + g - a)) (by rw [List.length_take, List.length_drop]; omega) w1 (hE.self hb1)
  have HC : Hid (numLen (l.drop a) = g + 1) := hnl
  have ie1 : ∀ (t : TypeId) (p : Value) (w : World), (binOp .neq 58 (.iface t p) .nilIface).run Tryd.prog w = .ok (.bool true) w := fun _ _ _ => rfl
  have ie2 : ∀ (w : World), (binOp .neq 58 .nilIface .nilIface).run Tryd.prog w = .ok (.bool false) w := fun _ => rfl
  rw [show a + 1 + g - a = g + 1 by omega] at hpi
  have hw0 : IntKind.i64.wrap ((a : Int) + 1) = (a : Int) + 1 := by rw [IntKind.wrap_i64]; omega
  clear hn hc hW1 hE hg hnl
  go_enter Tryd.func33, Tryd.ntmps33
  go_wp2
  rw [HW1.out]
  clear HW1
  go_loopw [5] (fun i wr => ∃ k : Nat, k ≤ g ∧ i = .int .i64 ((a + 1 + k : Nat) : Int) ∧ wr = w1) (fun i _ => n - (intOf i).toNat)
  case atStart => exact ⟨0, by omega, by go_num, rfl⟩
  case round =>
    obtain ⟨k, hk, rfl, rfl⟩ := hrel
    obtain ⟨i, hi⟩ : ∃ i, a + 1 + k = i := ⟨_, rfl⟩
    rw [hi]
    have HI : Hid (a + 1 + k = i) := hi
    by_cases hlt : k < g
    · have hlt' : (i : Int) < (n : Int) := by omega
      obtain ⟨c, hc⟩ : ∃ c, l[i]? = some c := ⟨_, List.getElem?_eq_getElem (by rw [HN.out]; omega)⟩
      obtain ⟨hx0, hx⟩ := hat i c hc
      have hsp := spn_at digB (l.drop (a + 1)) k c (by rw [HG.out]; exact hk) (by rw [List.getElem?_drop, hi]; exact hc)
      rw [HG.out] at hsp
      have hd : digB c = true := hsp.1 hlt
      have hw1 : IntKind.i64.wrap ((i : Int) + 1) = (i : Int) + 1 := by rw [IntKind.wrap_i64]; omega
      clear hi hsp hc hpi hb1
      go_wp2_with (go_at_call 31; refine (digit_any _ _).mono ?_; rw [hd]; rintro e w' ⟨rfl, rfl⟩)
      go_roundw
      case rel => exact ⟨k + 1, by omega, by have := HI.out; go_num, by first | rfl | trivial⟩
      case measure => simp [intOf]; omega
    · obtain rfl : k = g := by omega
      have hin : i ≤ n := by omega
      have hai : a ≤ i := by omega
      have hlim : (i < n ∧ ∃ c, l[i]? = some c ∧ digB c = false) ∨ i = n := by
        by_cases h : i < n
        · left
          obtain ⟨c, hc⟩ : ∃ c, l[i]? = some c := ⟨_, List.getElem?_eq_getElem (by rw [HN.out]; omega)⟩
          have hsp := spn_at digB (l.drop (a + 1)) k c (by rw [HG.out]; exact hk) (by rw [List.getElem?_drop, hi]; exact hc)
          rw [HG.out] at hsp
          refine ⟨h, c, hc, ?_⟩
          cases hd : digB c with
          | false => rfl
          | true => exact absurd (hsp.2 hd) hlt
        · right; omega
      have hcu := fun X => hcut i hai hin X
      rw [show i - a = k + 1 by omega] at hcu
      have hfr := fun X => hfrom i hin X
      have hgo := fun X => goesOn_any (l.drop i) (by rw [List.length_drop, HN.out]; omega) X
      have HDR : Hid ((l.drop a).drop (numLen (l.drop a)) = l.drop i) := by unfold Hid; rw [HC.out, List.drop_drop]; congr 1; omega
      have HB1 : Hid _ := hb1
      clear hcut hfrom hlt hi hb1
      rcases hlim with ⟨hlt, c, hc, hd⟩ | hin2
      · have hlt' : (i : Int) < (n : Int) := by omega
        obtain ⟨hx0, hx⟩ := hat i c hc
        clear hat hc
        go_wp2_with (go_at_call 31; refine (digit_any _ _).mono ?_; rw [hd]; rintro e w' ⟨rfl, rfl⟩)
        refine hpi.mono ?_
        rintro e w2 ⟨(⟨v, hv, rfl⟩ | ⟨hv, v, ty, pv, rfl⟩), hb2⟩
        · rw [← HC.out] at hv
          have HNR := numR_some _ _ hv
          have HBB : Hid (Below W.heap.size W w2) := HB1.out.trans (hb2.mono HB1.out.size)
          have HROW2 : Hid (Rw w2 W.heap.size 23 #[.int .i64 0, .string ⟨#[]⟩, .int .i64 0, .int .i64 0]) := HROW.out.below hb2
          have HR : Hid _ := HNR
          clear HNR hv hpi hb2 HB1
          by_cases h1 : v < -1000000000
          · have HV : Hid (numR (l.drop a) = .bad 150) := by unfold Hid; rw [HR.out, if_pos (.inl h1)]
            go_wp2
            exact ⟨rfl, by rw [HV.out]; rfl, HBB.out⟩
          · by_cases h2 : 1000000000 < v
            · have HV : Hid (numR (l.drop a) = .bad 150) := by unfold Hid; rw [HR.out, if_pos (.inr h2)]
              go_wp2
              exact ⟨rfl, by rw [HV.out]; rfl, HBB.out⟩
            · have HV : Hid (numR (l.drop a) = if goesB (l.drop i) then .bad 173 else .ok 2 (k + 1) v) := by unfold Hid; rw [HR.out, if_neg (by omega), HDR.out, HC.out]
              cases hgb : goesB (l.drop i) with
              | true =>
                rw [hgb] at HV
                go_wp2_with (go_at_call 43; refine (hgo _).mono ?_; rw [hgb]; rintro e w' ⟨rfl, rfl⟩)
                exact ⟨rfl, by rw [HV.out]; rfl, HBB.out⟩
              | false =>
                rw [hgb] at HV
                go_wp2_with (first | (go_at_call 43; refine (hgo _).mono ?_; rw [hgb]; rintro e w' ⟨rfl, rfl⟩) | (with_reducible refine st23 rfl (.tmp 4) (.tmp 56) rfl W.heap.size _ _ _ _ (by with_unfolding_all rfl) (by with_unfolding_all rfl) HROW2.out rfl ⟨rfl, rfl, rfl, rfl⟩ ?_))
                refine ⟨rfl, _, Rw.res23 rfl _ (HROW2.out.set #[.int .i64 2, .string (bs (List.take (k + 1) (List.drop a l))), .int .i64 v, .int .i64 (a : Int)]) rfl, ?_, below_setRow HBB.out (Nat.le_refl _) _⟩
                rw [HV.out]; rfl
        · rw [← HC.out] at hv
          have HV : Hid (numR (l.drop a) = .bad 150) := numR_none _ hv
          have HBB : Hid (Below W.heap.size W w2) := HB1.out.trans (hb2.mono HB1.out.size)
          clear hv hpi hb2 HB1
          go_wp2
          exact ⟨rfl, by rw [HV.out]; rfl, HBB.out⟩
      · have hlt' : ¬ (i : Int) < (n : Int) := by omega
        clear hat hin2
        go_wp2_with fail
        refine hpi.mono ?_
        rintro e w2 ⟨(⟨v, hv, rfl⟩ | ⟨hv, v, ty, pv, rfl⟩), hb2⟩
        · rw [← HC.out] at hv
          have HNR := numR_some _ _ hv
          have HBB : Hid (Below W.heap.size W w2) := HB1.out.trans (hb2.mono HB1.out.size)
          have HROW2 : Hid (Rw w2 W.heap.size 23 #[.int .i64 0, .string ⟨#[]⟩, .int .i64 0, .int .i64 0]) := HROW.out.below hb2
          have HR : Hid _ := HNR
          clear HNR hv hpi hb2 HB1
          by_cases h1 : v < -1000000000
          · have HV : Hid (numR (l.drop a) = .bad 150) := by unfold Hid; rw [HR.out, if_pos (.inl h1)]
            go_wp2
            exact ⟨rfl, by rw [HV.out]; rfl, HBB.out⟩
          · by_cases h2 : 1000000000 < v
            · have HV : Hid (numR (l.drop a) = .bad 150) := by unfold Hid; rw [HR.out, if_pos (.inr h2)]
              go_wp2
              exact ⟨rfl, by rw [HV.out]; rfl, HBB.out⟩
            · have HV : Hid (numR (l.drop a) = if goesB (l.drop i) then .bad 173 else .ok 2 (k + 1) v) := by unfold Hid; rw [HR.out, if_neg (by omega), HDR.out, HC.out]
              cases hgb : goesB (l.drop i) with
              | true =>
                rw [hgb] at HV
                go_wp2_with (go_at_call 43; refine (hgo _).mono ?_; rw [hgb]; rintro e w' ⟨rfl, rfl⟩)
                exact ⟨rfl, by rw [HV.out]; rfl, HBB.out⟩
              | false =>
                rw [hgb] at HV
                go_wp2_with (first | (go_at_call 43; refine (hgo _).mono ?_; rw [hgb]; rintro e w' ⟨rfl, rfl⟩) | (with_reducible refine st23 rfl (.tmp 4) (.tmp 56) rfl W.heap.size _ _ _ _ (by with_unfolding_all rfl) (by with_unfolding_all rfl) HROW2.out rfl ⟨rfl, rfl, rfl, rfl⟩ ?_))
                refine ⟨rfl, _, Rw.res23 rfl _ (HROW2.out.set #[.int .i64 2, .string (bs (List.take (k + 1) (List.drop a l))), .int .i64 v, .int .i64 (a : Int)]) rfl, ?_, below_setRow HBB.out (Nat.le_refl _) _⟩
                rw [HV.out]; rfl
        · rw [← HC.out] at hv
          have HV : Hid (numR (l.drop a) = .bad 150) := numR_none _ hv
          have HBB : Hid (Below W.heap.size W w2) := HB1.out.trans (hb2.mono HB1.out.size)
          clear hv hpi hb2 HB1
          go_wp2
          exact ⟨rfl, by rw [HV.out]; rfl, HBB.out⟩
end Go.Proofs.YtokcbiafajpmoaaDoor
