/-
  What is proved here: what the reference's number answers.
-/
import Derived.Test.YtokcbiafajpmoaaDoorTb
namespace Go.Proofs.YtokcbiafajpmoaaDoor
open Go.RowKit
set_option linter.unusedVariables false
set_option linter.unusedSimpArgs false
theorem resNT {fn : Func} (hf : fn.results = #[.cell 4 23, .tmp 5]) (tmps : Array Value) (X : World) (g : Nat) (x0 x1 x2 x3 v : Value) (hR : Rw X g 23 #[x0, x1, x2, x3]) (h4 : tmps.getD 4 undef = .pointer (some ⟨g, 0, none⟩)) (h5 : tmps.getD 5 undef = v) :
    (results fn tmps).run Tryd.prog X = .ok (.tuple #[.agg #[x0, x1, x2, x3], v]) X := by
  have c0 : X.cell? ⟨g, 0, none⟩ = some x0 := hR.cell 0 _ rfl
  have c1 : X.cell? ⟨g, 1, none⟩ = some x1 := hR.cell 1 _ rfl
  have c2 : X.cell? ⟨g, 2, none⟩ = some x2 := hR.cell 2 _ rfl
  have c3 : X.cell? ⟨g, 3, none⟩ = some x3 := hR.cell 3 _ rfl
  have h4' : tmps[4]?.getD undef = .pointer (some ⟨g, 0, none⟩) := by simpa using h4
  have h5' : tmps[5]?.getD undef = v := by simpa using h5
  simp [results, hf, h4', h5', asAddr, Sem.run_bind, Result.andThen, go_sem, c0, c1, c2, c3]
/-- How a call of the reference ends that looks for a token. -/
def endR (r : Res) (l : List UInt8) (a : Nat) : Ending :=
  match r with
  | .ok k m n => .returned (.tuple #[tokV k ((l.drop a).take m) n a, .int .i64 0])
  | .bad x => .returned (.tuple #[tokV 0 [] 0 0, .int .i64 x])

set_option maxRecDepth 100000 in
set_option maxHeartbeats 40000000 in
theorem number32n (l : List UInt8) (a : Nat) (c : UInt8) (hc : l[a]? = some c) (h45 : c = 45) (hl : l.length ≤ 65536) (W : World) :
    Calls Tryd.prog 32 #[.string (bs l), .int .i64 (a : Int)] W fun e w' => e = endR (numR (l.drop a)) l a ∧ Below W.heap.size W w' := by
  have hal : a < l.length := (List.getElem?_eq_some_iff.1 hc).1
  have hat := fun (i : Nat) (c : UInt8) (h : l[i]? = some c) => bs_get l i c h
  have hcut := fun (b : Nat) (h1 : a ≤ b) (h2 : b ≤ l.length) X => bs_cut l a b h1 h2 X
  have hflo := fun (b : Nat) (h : b ≤ l.length) X => float41 l b h (by omega) X
  have hsz : (bs l).size = l.length := bs_size l
  have hga := goes_at l a c hc
  obtain ⟨n, hn⟩ : ∃ n, l.length = n := ⟨_, rfl⟩
  have HN : Hid (l.length = n) := hn
  rw [hn] at hsz hal hl
  simp only [hn] at hcut hflo
  have HCUT : Hid _ := hcut
  have HFLO : Hid _ := hflo
  obtain ⟨hx0, hx⟩ := hat a c hc
  obtain ⟨w1, hW1⟩ : ∃ X, W.alloc (Obj.cells #[.int .i64 0, .string ⟨#[]⟩, .int .i64 0, .int .i64 0] 23) = X := ⟨_, rfl⟩
  have hb1 : Below W.heap.size W w1 := by rw [← hW1]; exact (Below.refl _ W).alloc (Nat.le_refl _) _
  have HW1 : Hid _ := hW1
  have HB1 : Hid _ := hb1
  have HROW : Hid (Rw w1 W.heap.size 23 #[.int .i64 0, .string ⟨#[]⟩, .int .i64 0, .int .i64 0]) := by unfold Hid; rw [← hW1]; exact Rw.new _ _ _
  have hc2 : c.toNat < 256 := c.toNat_lt
  clear hn hc hW1 hb1 hcut hflo
  subst h45
  obtain ⟨f, hf⟩ : ∃ f, a + 1 = f := ⟨_, rfl⟩
  have HF : Hid (a + 1 = f) := hf
  have hw0 : IntKind.i64.wrap ((a : Int) + 1) = (f : Int) := by rw [IntKind.wrap_i64]; omega
  have hfn : f ≤ n := by omega
  have haf : a ≤ f := by omega
  obtain ⟨g, hg⟩ : ∃ g, spn digB (l.drop f) = g := ⟨_, rfl⟩
  have HG : Hid (spn digB (l.drop f) = g) := hg
  have HNR : Hid (numR (l.drop a) = if g = 0 ∨ 1000000000 < capV ((l.drop f).take g) then .bad 150 else if goesB (l.drop (f + g)) then .bad 173 else .ok 2 (f + g - a) (-(capV ((l.drop f).take g) : Int))) := by
    unfold Hid
    rw [hga, hf, num_neg, hg, List.drop_drop, show f + g - a = g + 1 by omega]
  clear hga hg hf
  have hgl : f + g ≤ n := by
    have h1 := spn_le digB (l.drop f)
    rw [List.length_drop, HN.out, HG.out] at h1
    omega
  go_enter Tryd.func32, Tryd.ntmps32
  go_wp2
  rw [HW1.out]
  clear HW1 hx hx0
  go_loopw [1, 8] (fun i y wr => ∃ k : Nat, k ≤ g ∧ i = .int .i64 ((f + k : Nat) : Int) ∧ y = .int .i64 ((capV ((l.drop f).take k) : Nat) : Int) ∧ wr = w1) (fun i _ _ => n - (intOf i).toNat)
  case atStart => exact ⟨0, by omega, by go_num, rfl, rfl⟩
  case round =>
    obtain ⟨k, hk, rfl, rfl, rfl⟩ := hrel
    obtain ⟨i, hi⟩ : ∃ i, f + k = i := ⟨_, rfl⟩
    obtain ⟨M, hM⟩ : ∃ M, capV ((l.drop f).take k) = M := ⟨_, rfl⟩
    have hMb : M ≤ 1000000001 := by rw [← hM, capV_min]; omega
    rw [hi, hM]
    have HI : Hid (f + k = i) := hi
    have HM : Hid (capV ((l.drop f).take k) = M) := hM
    by_cases hlt : k < g
    · have hlt' : (i : Int) < (n : Int) := by omega
      obtain ⟨c, hc⟩ : ∃ c, l[i]? = some c := ⟨_, List.getElem?_eq_getElem (by rw [HN.out]; omega)⟩
      obtain ⟨hx0, hx⟩ := hat i c hc
      have hcd : (l.drop f)[k]? = some c := by rw [List.getElem?_drop, hi]; exact hc
      have hsp := spn_at digB (l.drop f) k c (by rw [HG.out]; exact hk) hcd
      rw [HG.out] at hsp
      have hd : digB c = true := hsp.1 hlt
      have hd2 : 48 ≤ c.toNat ∧ c.toNat ≤ 57 := by unfold digB at hd; simpa using hd
      have hstep : capV ((l.drop f).take (k + 1)) = capS M c := by rw [List.take_add_one, hcd, Option.toList_some, capV_app, hM]
      obtain ⟨d, hdv⟩ : ∃ d, c.toNat - 48 = d := ⟨_, rfl⟩
      obtain ⟨S, hS⟩ : ∃ S, 10 * M + d = S := ⟨_, rfl⟩
      obtain ⟨T10, hT10⟩ : ∃ T10, 10 * M = T10 := ⟨_, rfl⟩
      have hstep2 : capV ((l.drop f).take (k + 1)) = if 1000000000 < S then 1000000001 else S := by rw [hstep]; unfold capS; rw [hdv, hS]
      have HST : Hid _ := hstep2
      have hw1 : IntKind.i64.wrap ((i : Int) + 1) = (i : Int) + 1 := by rw [IntKind.wrap_i64]; omega
      have hu8 : IntKind.u8.wrap ((c.toNat : Int) - 48) = (d : Int) := by unfold IntKind.wrap; simp [IntKind.bits, IntKind.signed]; omega
      have hm10 : IntKind.i64.wrap (10 * (M : Int)) = (T10 : Int) := by rw [IntKind.wrap_i64]; omega
      have hcv : IntKind.i64.wrap (d : Int) = (d : Int) := by rw [IntKind.wrap_i64]; omega
      have hadd : IntKind.i64.wrap ((T10 : Int) + (d : Int)) = (S : Int) := by rw [IntKind.wrap_i64]; omega
      clear hi hsp hc hcd hstep hstep2 hM hdv hT10 hd2
      by_cases hbig : 1000000000 < S
      · have hb2 : (1000000000 : Int) < (S : Int) := by omega
        have HS1 : Hid (capV ((l.drop f).take (k + 1)) = 1000000001) := by unfold Hid; rw [HST.out, if_pos hbig]
        clear hS hbig
        go_wp2_with (go_at_call 23; refine (digit23 _ _).mono ?_; rw [hd]; rintro e w' ⟨rfl, rfl⟩)
        go_roundw
        case rel => exact ⟨k + 1, by omega, by have := HI.out; go_num, by rw [HS1.out]; rfl, by first | rfl | trivial⟩
        case measure => simp [intOf]; omega
      · have hb2 : ¬ (1000000000 : Int) < (S : Int) := by omega
        have HS1 : Hid (capV ((l.drop f).take (k + 1)) = S) := by unfold Hid; rw [HST.out, if_neg hbig]
        clear hS hbig
        go_wp2_with (go_at_call 23; refine (digit23 _ _).mono ?_; rw [hd]; rintro e w' ⟨rfl, rfl⟩)
        go_roundw
        case rel => exact ⟨k + 1, by omega, by have := HI.out; go_num, by rw [HS1.out], by first | rfl | trivial⟩
        case measure => simp [intOf]; omega
    · obtain rfl : k = g := by omega
      have hin : i ≤ n := by omega
      have hai : a ≤ i := by omega
      have hlim : (i < n ∧ ∃ c, l[i]? = some c ∧ digB c = false) ∨ i = n := by
        by_cases h : i < n
        · left
          obtain ⟨c, hc⟩ : ∃ c, l[i]? = some c := ⟨_, List.getElem?_eq_getElem (by rw [HN.out]; omega)⟩
          have hsp := spn_at digB (l.drop f) k c (by rw [HG.out]; exact hk) (by rw [List.getElem?_drop, hi]; exact hc)
          rw [HG.out] at hsp
          refine ⟨h, c, hc, ?_⟩
          cases hd : digB c with
          | false => rfl
          | true => exact absurd (hsp.2 hd) hlt
        · right; omega
      have hcu := fun X => HCUT.out i hai hin X
      have hfl := fun X => HFLO.out i hin X
      rw [hi, HM.out] at HNR
      have hneg : IntKind.i64.wrap (-(M : Int)) = -(M : Int) := by rw [IntKind.wrap_i64]; omega
      clear hlt hM hMb
      by_cases hbad : k = 0 ∨ 1000000000 < M
      · have HV : Hid (numR (l.drop a) = .bad 150) := by unfold Hid; rw [HNR.out, if_pos hbad]
        have hcase : i = f ∨ (((i : Int) == (f : Int)) = false ∧ (1000000000 : Int) < (M : Int)) := by
          by_cases h : k = 0
          · left; omega
          · right; exact ⟨by simp; omega, by omega⟩
        clear hbad hi hk hfl hcu
        rcases hlim with ⟨hlt, c, hc, hd⟩ | hin2
        · rcases hcase with hq | ⟨hq, hq2⟩
          · subst hq
            · have hlt' : (i : Int) < (n : Int) := by omega
              obtain ⟨hx0, hx⟩ := hat i c hc
              clear hat hc
              go_wp2_with (first | (go_at_call 23; refine (digit23 _ _).mono ?_; rw [hd]; rintro e w' ⟨rfl, rfl⟩) | (with_reducible refine st23 rfl (.tmp 4) (.tmp 48) rfl W.heap.size _ _ _ _ (by with_unfolding_all rfl) (by with_unfolding_all rfl) HROW.out rfl ⟨rfl, rfl, rfl, rfl⟩ ?_))
              refine ⟨rfl, _, resNT rfl _ _ W.heap.size _ _ _ _ _ (HROW.out.set #[.int .i64 0, .string ⟨#[]⟩, .int .i64 0, .int .i64 0]) rfl rfl, ?_, below_setRow HB1.out (Nat.le_refl _) _⟩
              rw [HV.out]; rfl
          · skip
            · have hlt' : (i : Int) < (n : Int) := by omega
              obtain ⟨hx0, hx⟩ := hat i c hc
              clear hat hc
              go_wp2_with (first | (go_at_call 23; refine (digit23 _ _).mono ?_; rw [hd]; rintro e w' ⟨rfl, rfl⟩) | (with_reducible refine st23 rfl (.tmp 4) (.tmp 48) rfl W.heap.size _ _ _ _ (by with_unfolding_all rfl) (by with_unfolding_all rfl) HROW.out rfl ⟨rfl, rfl, rfl, rfl⟩ ?_))
              refine ⟨rfl, _, resNT rfl _ _ W.heap.size _ _ _ _ _ (HROW.out.set #[.int .i64 0, .string ⟨#[]⟩, .int .i64 0, .int .i64 0]) rfl rfl, ?_, below_setRow HB1.out (Nat.le_refl _) _⟩
              rw [HV.out]; rfl
        · have hlt3 : ¬ i < n := by omega
          clear hin2
          rcases hcase with hq | ⟨hq, hq2⟩
          · subst hq
            · have hlt' : ¬ (i : Int) < (n : Int) := by omega
              (try clear hin2)
              clear hat
              go_wp2_with (first | (with_reducible refine st23 rfl (.tmp 4) (.tmp 48) rfl W.heap.size _ _ _ _ (by with_unfolding_all rfl) (by with_unfolding_all rfl) HROW.out rfl ⟨rfl, rfl, rfl, rfl⟩ ?_))
              refine ⟨rfl, _, resNT rfl _ _ W.heap.size _ _ _ _ _ (HROW.out.set #[.int .i64 0, .string ⟨#[]⟩, .int .i64 0, .int .i64 0]) rfl rfl, ?_, below_setRow HB1.out (Nat.le_refl _) _⟩
              rw [HV.out]; rfl
          · skip
            · have hlt' : ¬ (i : Int) < (n : Int) := by omega
              (try clear hin2)
              clear hat
              go_wp2_with (first | (with_reducible refine st23 rfl (.tmp 4) (.tmp 48) rfl W.heap.size _ _ _ _ (by with_unfolding_all rfl) (by with_unfolding_all rfl) HROW.out rfl ⟨rfl, rfl, rfl, rfl⟩ ?_))
              refine ⟨rfl, _, resNT rfl _ _ W.heap.size _ _ _ _ _ (HROW.out.set #[.int .i64 0, .string ⟨#[]⟩, .int .i64 0, .int .i64 0]) rfl rfl, ?_, below_setRow HB1.out (Nat.le_refl _) _⟩
              rw [HV.out]; rfl
      · have hq : ((i : Int) == (f : Int)) = false := by simp; omega
        have hq2 : ¬ (1000000000 : Int) < (M : Int) := by omega
        cases hgo : goesB (l.drop i) with
        | true =>
          have HV : Hid (numR (l.drop a) = .bad 173) := by unfold Hid; rw [HNR.out, if_neg hbad, hgo]; rfl
          rw [hgo] at hfl
          clear hbad hi hk hcu hgo
          rcases hlim with ⟨hlt, c, hc, hd⟩ | hin2
          · have hlt' : (i : Int) < (n : Int) := by omega
            obtain ⟨hx0, hx⟩ := hat i c hc
            clear hat hc
            go_wp2_with (first | (go_at_call 23; refine (digit23 _ _).mono ?_; rw [hd]; rintro e w' ⟨rfl, rfl⟩) | (go_at_call 41; refine (hfl _).mono ?_; rintro e w' ⟨rfl, rfl⟩) | (with_reducible refine st23 rfl (.tmp 4) (.tmp 52) rfl W.heap.size _ _ _ _ (by with_unfolding_all rfl) (by with_unfolding_all rfl) HROW.out rfl ⟨rfl, rfl, rfl, rfl⟩ ?_))
            refine ⟨rfl, _, resNT rfl _ _ W.heap.size _ _ _ _ _ (HROW.out.set #[.int .i64 0, .string ⟨#[]⟩, .int .i64 0, .int .i64 0]) rfl rfl, ?_, below_setRow HB1.out (Nat.le_refl _) _⟩
            rw [HV.out]; rfl
          · have hlt' : ¬ (i : Int) < (n : Int) := by omega
            (try clear hin2)
            clear hat
            go_wp2_with (first | (go_at_call 41; refine (hfl _).mono ?_; rintro e w' ⟨rfl, rfl⟩) | (with_reducible refine st23 rfl (.tmp 4) (.tmp 52) rfl W.heap.size _ _ _ _ (by with_unfolding_all rfl) (by with_unfolding_all rfl) HROW.out rfl ⟨rfl, rfl, rfl, rfl⟩ ?_))
            refine ⟨rfl, _, resNT rfl _ _ W.heap.size _ _ _ _ _ (HROW.out.set #[.int .i64 0, .string ⟨#[]⟩, .int .i64 0, .int .i64 0]) rfl rfl, ?_, below_setRow HB1.out (Nat.le_refl _) _⟩
            rw [HV.out]; rfl
        | false =>
          have HV : Hid (numR (l.drop a) = .ok 2 (i - a) (-(M : Int))) := by unfold Hid; rw [HNR.out, if_neg hbad, hgo]; rfl
          rw [hgo] at hfl
          clear hbad hi hk hgo
          rcases hlim with ⟨hlt, c, hc, hd⟩ | hin2
          · have hlt' : (i : Int) < (n : Int) := by omega
            obtain ⟨hx0, hx⟩ := hat i c hc
            clear hat hc
            go_wp2_with (first | (go_at_call 23; refine (digit23 _ _).mono ?_; rw [hd]; rintro e w' ⟨rfl, rfl⟩) | (go_at_call 41; refine (hfl _).mono ?_; rintro e w' ⟨rfl, rfl⟩) | (with_reducible refine st23 rfl (.tmp 4) (.tmp 62) rfl W.heap.size _ _ _ _ (by with_unfolding_all rfl) (by with_unfolding_all rfl) HROW.out rfl ⟨rfl, rfl, rfl, rfl⟩ ?_))
            refine ⟨rfl, _, resNT rfl _ _ W.heap.size _ _ _ _ _ (HROW.out.set #[.int .i64 2, .string (bs ((l.drop a).take (i - a))), .int .i64 (-(M : Int)), .int .i64 (a : Int)]) rfl rfl, ?_, below_setRow HB1.out (Nat.le_refl _) _⟩
            rw [HV.out]; rfl
          · have hlt' : ¬ (i : Int) < (n : Int) := by omega
            (try clear hin2)
            clear hat
            go_wp2_with (first | (go_at_call 41; refine (hfl _).mono ?_; rintro e w' ⟨rfl, rfl⟩) | (with_reducible refine st23 rfl (.tmp 4) (.tmp 62) rfl W.heap.size _ _ _ _ (by with_unfolding_all rfl) (by with_unfolding_all rfl) HROW.out rfl ⟨rfl, rfl, rfl, rfl⟩ ?_))
            refine ⟨rfl, _, resNT rfl _ _ W.heap.size _ _ _ _ _ (HROW.out.set #[.int .i64 2, .string (bs ((l.drop a).take (i - a))), .int .i64 (-(M : Int)), .int .i64 (a : Int)]) rfl rfl, ?_, below_setRow HB1.out (Nat.le_refl _) _⟩
            rw [HV.out]; rfl
end Go.Proofs.YtokcbiafajpmoaaDoor
