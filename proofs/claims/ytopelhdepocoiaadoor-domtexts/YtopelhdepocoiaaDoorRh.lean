/-
  What is proved here: what the reference's Parse reads of any text.
-/
import Derived.Test.YtopelhdepocoiaaDoorRf
import Derived.Test.YtopelhdepocoiaaDoorRg
import Derived.OneCell
import Derived.Laws.Strings2
namespace Go.Proofs.YtopelhdepocoiaaDoor
open Go.RowKit Go.Shelf
set_option linter.unusedVariables false

set_option maxHeartbeats 1000000 in
theorem refparse_long (s : ByteArray) (h : 65536 < s.size) (W : World) :
    Calls Tryd.prog 6 #[.string s] W fun e w' => e = .returned (.tuple #[.slice none 0 0, .int .i64 3]) ∧ w' = W := by
  have h' : (65536 : Int) < (s.size : Int) := by omega
  go_enter Tryd.func6, Tryd.ntmps6
  go_wp2
  go_ret2
  exact ⟨rfl, rfl⟩
set_option maxHeartbeats 1000000 in
theorem refparse_none (W : World) :
    Calls Tryd.prog 6 #[.string ⟨#[123, 125]⟩] W fun e w' => e = .returned (.tuple #[.slice none 0 0, .int .i64 0]) ∧ w' = W := by
  go_enter Tryd.func6, Tryd.ntmps6
  go_wp2
  go_ret2
  exact ⟨rfl, rfl⟩
theorem own_drewN {W : World} {base e size n : Nat} {v : Value} {xs : List Value} (h : W.ownsRow base e size v n xs) (m : Nat) : (W.drewN m).ownsRow base e size v n xs := own_keepB h (below_drewN (Below.refl _ _) _)
theorem two_c {W : World} {B : Nat} {x y : Int} (h : Two W B x y) : W.cell? ⟨B, 0, none⟩ = some (.int .i64 x) ∧ W.cell? ⟨B, 1, none⟩ = some (.int .i64 y) ∧ W.frozen? ⟨B, 0, none⟩ = false ∧ W.frozen? ⟨B, 1, none⟩ = false := by
  unfold Two at h
  refine ⟨by simp [World.cell?, h], by simp [World.cell?, h], by simp [World.frozen?, h], by simp [World.frozen?, h]⟩
theorem two_set {W : World} {B : Nat} {x y : Int} (h : Two W B x y) (z : Int) : Two (W.setCell ⟨B, 1, none⟩ (.int .i64 z)) B x z := by
  have := row_set h 1 (.int .i64 z)
  unfold Two
  simpa using this
theorem two_drewN {W : World} {B : Nat} {x y : Int} (h : Two W B x y) (m : Nat) : Two (W.drewN m) B x y := h
theorem str_slice (s : ByteArray) (a : Nat) (h : a + 2 ≤ s.size) (X : World) : (Instr.slice 9 (.string s) (some (.int .i64 (a : Int))) (some (.int .i64 ((a : Int) + 2))) none).run Tryd.prog X = .ok (.string (s.extract a (a + 2))) X := by
  rw [run_slice_string X 9 s .i64 .i64 a ((a : Int) + 2) Tryd.underlying9 (by omega) (by omega) (by omega)]
  congr 2
theorem str_slice2 (s : ByteArray) (a : Nat) (h : a + 2 ≤ s.size) : (s.extract a (a + 2)).toList = (s.data.toList.drop a).take 2 := by
  rw [ByteArray.toList_eq, Lib.extract_data]
  simp

set_option maxRecDepth 100000 in
set_option maxHeartbeats 4000000 in
theorem refparse_some (s : ByteArray) (hs : s.size ≤ 65536) (hne : s.data.toList ≠ [123, 125]) (W : World) (hT : Tens W.heap.size W) :
    Calls Tryd.prog 6 #[.string s] W fun e w' => ParsE s.data.toList e w' ∧ Below W.heap.size W w' := by
  obtain ⟨i0, hi0, hz0, hz1, hz2⟩ := info_parts Tryd.info34
  have HT : Hid (Tens W.heap.size W) := hT
  have HNE : Hid (s.data.toList ≠ [123, 125]) := hne
  have hne' : (s.toList == [123, 125]) = false := by rw [ByteArray.toList_eq]; simpa using hne
  have hs' : ¬ (65536 : Int) < (s.size : Int) := by omega
  have hln : s.data.toList.length ≤ 65536 := by simpa using hs
  have HL : Hid (s.data.toList.length ≤ 65536) := hln
  have hnum := fun (a : Nat) (ha : a ≤ s.size) (X : World) => number_any s a ha hs X
  have hat := fun (i : Nat) (c : UInt8) (h : s.data.toList[i]? = some c) => str_get s i c h
  have hsl := fun (a : Nat) (ha : a + 2 ≤ s.size) => str_slice2 s a ha
  have hslc := fun (a : Nat) (ha : a + 2 ≤ s.size) (X : World) => str_slice s a ha X
  obtain ⟨n, hn⟩ : ∃ n, s.size = n := ⟨_, rfl⟩
  obtain ⟨b, hb⟩ : ∃ b, s.data.toList = b := ⟨_, rfl⟩
  have hbl : b.length = n := by rw [← hb, ← hn]; simp
  have HBL : Hid (b.length = n) := hbl
  have HSB : Hid (s.data.toList = b) := hb
  rw [hb] at HNE HL hat hnum hsl ⊢
  rw [hn] at hs hs' hnum hsl hslc
  clear hT hne hln hbl hb
  go_enter Tryd.func6, Tryd.ntmps6
  go_wp2
  go_loopw [4, 5] (fun o a wr => ∃ (at_ : Nat) (l : List Rg), at_ ≤ n ∧ a = .int .i64 at_ ∧ l.length ≤ at_ ∧ Hid (Cl b l at_) ∧ wr.ownsRow W.heap.size 34 2 o l.length (flat l) ∧ Below W.heap.size W wr) (fun _ a _ => n + 1 - (intOf a).toNat)
  case atStart => exact ⟨0, [], by omega, rfl, by simp, cl_start b, by simpa [flat] using World.ownsRow_nil _ _ _ _, Below.refl _ _⟩
  case round =>
    obtain ⟨at_, l, hat_, rfl, hll, HCL, hrow, hB⟩ := hrel
    have hle' : (at_ : Int) ≤ (n : Int) := by omega
    have hsz := hB.size
    go_wp2_with fail
    refine (hnum at_ hat_ _).mono ?_
    rintro e w1 ⟨⟨v, en, ok, rfl, hN⟩, m, hw⟩
    have hnl := num_le hN
    rw [HBL.out] at hnl
    have HN : Hid (NumR b at_ v en ok) := hN
    have hB1 : Below W.heap.size W w1 := by rw [hw]; exact below_drewN hB m
    have hrow1 := own_drewN hrow m
    rw [← hw] at hrow1
    clear hN hrow hw
    have hsz1 := hB1.size
    obtain ⟨hen1, hen2, hen3⟩ := hnl
    by_cases hok : ok = true
    · subst hok
      have hen3 := hen3 rfl
      have hrow2 := World.ownsRow.alloc hrow1 (Obj.cells #[Value.int IntKind.i64 v, Value.int IntKind.i64 v] 34)
      have hT1 : Two (w1.alloc (Obj.cells #[Value.int IntKind.i64 v, Value.int IntKind.i64 v] 34)) w1.heap.size v v := Two.new _ v v
      have hB2 : Below W.heap.size W (w1.alloc (Obj.cells #[Value.int IntKind.i64 v, Value.int IntKind.i64 v] 34)) := hB1.alloc hB1.size _
      by_cases h1 : en + 1 < n
      · have h1' : (en : Int) + 1 < (n : Int) := by omega
        have hsl1 := hsl en (by omega)
        have hsc := fun X => hslc en (by omega) X
        obtain ⟨sx, hsx⟩ : ∃ sx, s.extract en (en + 2) = sx := ⟨_, rfl⟩
        rw [hsx] at hsl1
        simp only [hsx] at hsc
        clear hsx
        by_cases hd : (b.drop en).take 2 = [46, 46]
        · skip
          have HD : Hid _ := hd
          have hcmp2 : (sx.toList == [46, 46]) = true := by rw [hsl1, hd]; rfl
          clear hd hsl1
          go_wp2_with fail
          have hnum2 := hnum (en + 2) (by omega)
          rw [show (((en + 2 : Nat)) : Int) = (en : Int) + 2 by omega] at hnum2
          refine (hnum2 _).mono ?_
          clear hnum2
          rintro e w2 ⟨⟨v2, en2, ok2, rfl, hN2⟩, m2, hw2⟩
          have hnl2 := num_le hN2
          rw [HBL.out] at hnl2
          obtain ⟨hf1, hf2, hf3⟩ := hnl2
          have HN2 : Hid (NumR b (en + 2) v2 en2 ok2) := hN2
          have hB4 : Below W.heap.size W w2 := by rw [hw2]; exact below_drewN hB2 m2
          have hrow4 : w2.ownsRow W.heap.size 34 2 u4 l.length (flat l) := by rw [hw2]; exact own_drewN hrow2 m2
          have hT4 : Two w2 w1.heap.size v v := by rw [hw2]; exact two_drewN hT1 m2
          have hsz4 : w1.heap.size < w2.heap.size := by rw [hw2]; simp
          have hob : u4.ownBlock ≠ some w1.heap.size := fun e => by have := (World.ownsRow.lt hrow1 _ e).2; omega
          clear hN2 hw2 hT1 hrow2
          by_cases hok2 : ok2 = true
          · subst hok2
            have HC2 : Hid (Cl2 b l v v2 en2) := cl2_dots HCL.out HN.out HD.out HN2.out
            obtain ⟨q0, q1, f0, f1⟩ := two_c hT4
            have hT5 := two_set hT4 v2
            have hrow5 := ownsRow_setCell_other hrow4 (a := ⟨w1.heap.size, 1, none⟩) hob (.int .i64 v2)
            have hBX : Below W.heap.size W (w2.setCell ⟨w1.heap.size, 1, none⟩ (.int .i64 v2)) := hB4.setCell (p := ⟨w1.heap.size, 1, none⟩) hsz1 _
            obtain ⟨r0, r1, _, _⟩ := two_c hT5
            have hsz5 : (w2.setCell ⟨w1.heap.size, 1, none⟩ (.int .i64 v2)).heap.size = w2.heap.size := by simp
            clear hT5 hT4 hrow4
            go_wp2_with (at_builtin; refine wpList_append_own _ rfl _ _ 22 rfl W.heap.size 34 i0 (.agg #[.int .i64 0, .int .i64 0]) 2 16 Tryd.underlying22 hi0 hz0 hz1 hz2 rfl (by decide) _ _ _ rfl (World.ownsRow.alloc hrow5 _) ⟨w2.heap.size, 0, none⟩ 1 1 [.int .i64 v, .int .i64 v2] rfl rfl (by have h9 := cell_two_new (w2.setCell ⟨w1.heap.size, 1, none⟩ (.int .i64 v2)) (.int .i64 v) (.int .i64 v2) 34; rw [hsz5] at h9; exact h9) (by simp [Value.oneCell']) (by unfold maxLen; omega) (by omega) (by simp; omega) ?_; intro v3 w3 hown3 hgrow _; have hB3 : Below W.heap.size W w3 := (hBX.alloc (by simp; omega) _).grown hgrow (by simp; omega) (fun j e => (World.ownsRow.lt hrow5 j e).1); clear hgrow; refine Hid.out ?_)
            refine (show Hid _ from ?_)
            unfold Hid
            by_cases hend : en2 = n
            · have hend' : (en2 : Int) = (n : Int) := by omega
              have hend2 : ((en2 : Int) == (n : Int)) = true := by simp; omega
              have hS : Sr w3 v3 (l ++ [(v, v2)]) := own_srl (l := l ++ [(v, v2)]) (base := W.heap.size) (by rw [flat_snoc2]; simpa using hown3)
              have hall : ∀ L, Some' L → txN L L.length = b → l ++ [(v, v2)] = L := fun L hL hb => cl2_end HC2.out (by rw [HBL.out]; omega) L hL.1 hL.2 hb
              have hpos : 0 < (l ++ [(v, v2)]).length := by simp
              obtain ⟨ll, hll⟩ : ∃ ll, l ++ [(v, v2)] = ll := ⟨_, rfl⟩
              rw [hll] at hS hpos
              simp only [hll] at hall
              have HS : Hid (Sr w3 v3 ll) := hS
              have HALL : Hid (∀ L, Some' L → txN L L.length = b → ll = L) := hall
              have hrt := refright_any v3 _ w3 hS
              clear hall hown3 hll
              by_cases hR : Right ll
              · rw [rightB_yes hR] at hrt
                have hsome : Some' ll := ⟨hR, hpos⟩
                have htx := fun X (hX : Below w3.heap.size w3 X) => reftext_yes v3 _ X (HS.out.below hX) hsome (tens_here HT.out (hB3.trans (hX.mono hB3.size)))
                obtain ⟨tx, hx⟩ : ∃ tx, txN ll ll.length = tx := ⟨_, rfl⟩
                simp only [hx] at htx
                have HX : Hid (txN ll ll.length = tx) := hx
                have HSM : Hid (Some' ll) := hsome
                obtain ⟨a4, c4, e4, _⟩ := hS
                obtain ⟨q, hq⟩ : ∃ q, ll.length = q := ⟨_, rfl⟩
                rw [hq] at e4
                subst e4
                clear hx hsome hR hq hpos
                by_cases heq : tx = s.data.toList
                · have hcmp := beq_str tx s true (decide_eq_true heq)
                  have HEQ : Hid _ := heq
                  clear heq
                  go_wp2_with fail
                  refine hrt.mono ?_
                  clear hrt
                  rintro e w4 ⟨rfl, m4, rfl⟩
                  go_wp2_with fail
                  refine (htx _ (below_drewN (Below.refl _ _) _)).mono ?_
                  clear htx
                  rintro e w5 ⟨rfl, hb5⟩
                  have hB5 : Below W.heap.size W w5 := (below_drewN hB3 m4).trans (hb5.mono hB3.size)
                  go_wp2
                  go_ret2
                  exact ⟨.inr (.inr ⟨HL.out, HNE.out, .inl ⟨ll, _, HSM.out, (HX.out.trans HEQ.out).trans HSB.out, rfl, (HS.out.below (below_drewN (Below.refl _ _) _)).below hb5⟩⟩), hB5⟩
                · have hcmp := beq_str tx s false (decide_eq_false heq)
                  have HEQ : Hid (¬ tx = s.data.toList) := heq
                  clear heq
                  go_wp2_with fail
                  refine hrt.mono ?_
                  clear hrt
                  rintro e w4 ⟨rfl, m4, rfl⟩
                  go_wp2_with fail
                  refine (htx _ (below_drewN (Below.refl _ _) _)).mono ?_
                  clear htx
                  rintro e w5 ⟨rfl, hb5⟩
                  have hB5 : Below W.heap.size W w5 := (below_drewN hB3 m4).trans (hb5.mono hB3.size)
                  go_wp2
                  go_ret2
                  refine ⟨.inr (.inr ⟨HL.out, HNE.out, .inr ⟨fun L hL hb => ?_, rfl⟩⟩), hB5⟩
                  have h9 := HALL.out L hL hb
                  subst h9
                  exact HEQ.out ((HX.out.symm.trans hb).trans HSB.out.symm)
              · rw [rightB_no hR] at hrt
                have HR : Hid (¬ Right ll) := hR
                obtain ⟨a4, c4, e4, _⟩ := hS
                obtain ⟨q, hq⟩ : ∃ q, ll.length = q := ⟨_, rfl⟩
                rw [hq] at e4
                subst e4
                clear hR hq hpos
                go_wp2_with fail
                refine hrt.mono ?_
                clear hrt
                rintro e w4 ⟨rfl, m4, rfl⟩
                go_wp2
                go_ret2
                refine ⟨.inr (.inr ⟨HL.out, HNE.out, .inr ⟨fun L hL hb => ?_, rfl⟩⟩), below_drewN hB3 m4⟩
                have h9 := HALL.out L hL hb
                subst h9
                exact HR.out hL.1
            · have hend' : ¬ (en2 : Int) = (n : Int) := by omega
              have hend2 : ((en2 : Int) == (n : Int)) = false := by simp; omega
              obtain ⟨c, hc⟩ : ∃ c, b[en2]? = some c := ⟨_, List.getElem?_eq_getElem (by rw [HBL.out]; omega)⟩
              obtain ⟨hx0, hx⟩ := hat en2 c hc
              by_cases h44 : c = 44
              · subst h44
                have hc' := hc
                have HCN := cl2_next HC2.out hc'
                clear hc hc'
                go_wp2
                go_roundw
                case rel => exact ⟨en2 + 1, l ++ [(v, v2)], by omega, by go_num, by simp; omega, HCN, by rw [flat_snoc2]; simpa using hown3, hB3⟩
                case measure => simp [intOf]; omega
              · have hcn : ¬ (c.toNat : Int) = 44 := fun h => h44 (UInt8.toNat_inj.1 (by show c.toNat = 44; omega))
                have hcn2 : ((c.toNat : Int) == 44) = false := by simpa using hcn
                have hcn3 : ((c.toNat : Int) != 44) = true := by simpa using hcn
                have HCC : Hid _ := hc
                have H44 : Hid (¬ c = 44) := h44
                clear hc h44 hcn
                go_wp2
                go_ret2
                refine ⟨.inr (.inr ⟨HL.out, HNE.out, .inr ⟨fun L hL hb => ?_, rfl⟩⟩), hB3⟩
                exact cl2_comma HC2.out HCC.out H44.out L hL.1 hL.2 hb
          · have hok2' : ok2 = false := by simpa using hok2
            subst hok2'
            clear hok2 hT4 hrow4 hrow1
            go_wp2
            go_ret2
            refine ⟨.inr (.inr ⟨HL.out, HNE.out, .inr ⟨fun L hL hb => ?_, rfl⟩⟩), hB4⟩
            have := (cl_dots HCL.out HN.out HD.out HN2.out L hL.1 hL.2 hb).1
            cases this
        · have hcmp2 : (sx.toList == [46, 46]) = false := by rw [hsl1]; simpa using hd
          clear hsl1
          have HC2 : Hid (Cl2 b l v v en) := cl_nodots HCL.out HN.out hd
          clear hd
          have q0 := (two_c hT1).1
          have q1 := (two_c hT1).2.1
          have hBX := hB2
          go_wp2_with (at_builtin; refine wpList_append_own _ rfl _ _ 22 rfl W.heap.size 34 i0 (.agg #[.int .i64 0, .int .i64 0]) 2 16 Tryd.underlying22 hi0 hz0 hz1 hz2 rfl (by decide) _ _ _ rfl (World.ownsRow.alloc hrow2 _) ⟨w1.heap.size + 1, 0, none⟩ 1 1 [.int .i64 v, .int .i64 v] rfl rfl (by have h9 := cell_two_new (w1.alloc (Obj.cells #[Value.int IntKind.i64 v, Value.int IntKind.i64 v] 34)) (.int .i64 v) (.int .i64 v) 34; rw [World.size_alloc] at h9; exact h9) (by simp [Value.oneCell']) (by unfold maxLen; omega) (by omega) (by simp; omega) ?_; intro v3 w3 hown3 hgrow _; have hB3 : Below W.heap.size W w3 := (hBX.alloc (by simp; omega) _).grown hgrow (by simp; omega) (fun j e => (World.ownsRow.lt hrow2 j e).1); clear hgrow; refine Hid.out ?_)
          refine (show Hid _ from ?_)
          unfold Hid
          by_cases hend : en = n
          · have hend' : (en : Int) = (n : Int) := by omega
            have hend2 : ((en : Int) == (n : Int)) = true := by simp; omega
            have hS : Sr w3 v3 (l ++ [(v, v)]) := own_srl (l := l ++ [(v, v)]) (base := W.heap.size) (by rw [flat_snoc2]; simpa using hown3)
            have hall : ∀ L, Some' L → txN L L.length = b → l ++ [(v, v)] = L := fun L hL hb => cl2_end HC2.out (by rw [HBL.out]; omega) L hL.1 hL.2 hb
            have hpos : 0 < (l ++ [(v, v)]).length := by simp
            obtain ⟨ll, hll⟩ : ∃ ll, l ++ [(v, v)] = ll := ⟨_, rfl⟩
            rw [hll] at hS hpos
            simp only [hll] at hall
            have HS : Hid (Sr w3 v3 ll) := hS
            have HALL : Hid (∀ L, Some' L → txN L L.length = b → ll = L) := hall
            have hrt := refright_any v3 _ w3 hS
            clear hall hown3 hll
            by_cases hR : Right ll
            · rw [rightB_yes hR] at hrt
              have hsome : Some' ll := ⟨hR, hpos⟩
              have htx := fun X (hX : Below w3.heap.size w3 X) => reftext_yes v3 _ X (HS.out.below hX) hsome (tens_here HT.out (hB3.trans (hX.mono hB3.size)))
              obtain ⟨tx, hx⟩ : ∃ tx, txN ll ll.length = tx := ⟨_, rfl⟩
              simp only [hx] at htx
              have HX : Hid (txN ll ll.length = tx) := hx
              have HSM : Hid (Some' ll) := hsome
              obtain ⟨a4, c4, e4, _⟩ := hS
              obtain ⟨q, hq⟩ : ∃ q, ll.length = q := ⟨_, rfl⟩
              rw [hq] at e4
              subst e4
              clear hx hsome hR hq hpos
              by_cases heq : tx = s.data.toList
              · have hcmp := beq_str tx s true (decide_eq_true heq)
                have HEQ : Hid _ := heq
                clear heq
                go_wp2_with fail
                refine hrt.mono ?_
                clear hrt
                rintro e w4 ⟨rfl, m4, rfl⟩
                go_wp2_with fail
                refine (htx _ (below_drewN (Below.refl _ _) _)).mono ?_
                clear htx
                rintro e w5 ⟨rfl, hb5⟩
                have hB5 : Below W.heap.size W w5 := (below_drewN hB3 m4).trans (hb5.mono hB3.size)
                go_wp2
                go_ret2
                exact ⟨.inr (.inr ⟨HL.out, HNE.out, .inl ⟨ll, _, HSM.out, (HX.out.trans HEQ.out).trans HSB.out, rfl, (HS.out.below (below_drewN (Below.refl _ _) _)).below hb5⟩⟩), hB5⟩
              · have hcmp := beq_str tx s false (decide_eq_false heq)
                have HEQ : Hid (¬ tx = s.data.toList) := heq
                clear heq
                go_wp2_with fail
                refine hrt.mono ?_
                clear hrt
                rintro e w4 ⟨rfl, m4, rfl⟩
                go_wp2_with fail
                refine (htx _ (below_drewN (Below.refl _ _) _)).mono ?_
                clear htx
                rintro e w5 ⟨rfl, hb5⟩
                have hB5 : Below W.heap.size W w5 := (below_drewN hB3 m4).trans (hb5.mono hB3.size)
                go_wp2
                go_ret2
                refine ⟨.inr (.inr ⟨HL.out, HNE.out, .inr ⟨fun L hL hb => ?_, rfl⟩⟩), hB5⟩
                have h9 := HALL.out L hL hb
                subst h9
                exact HEQ.out ((HX.out.symm.trans hb).trans HSB.out.symm)
            · rw [rightB_no hR] at hrt
              have HR : Hid (¬ Right ll) := hR
              obtain ⟨a4, c4, e4, _⟩ := hS
              obtain ⟨q, hq⟩ : ∃ q, ll.length = q := ⟨_, rfl⟩
              rw [hq] at e4
              subst e4
              clear hR hq hpos
              go_wp2_with fail
              refine hrt.mono ?_
              clear hrt
              rintro e w4 ⟨rfl, m4, rfl⟩
              go_wp2
              go_ret2
              refine ⟨.inr (.inr ⟨HL.out, HNE.out, .inr ⟨fun L hL hb => ?_, rfl⟩⟩), below_drewN hB3 m4⟩
              have h9 := HALL.out L hL hb
              subst h9
              exact HR.out hL.1
          · have hend' : ¬ (en : Int) = (n : Int) := by omega
            have hend2 : ((en : Int) == (n : Int)) = false := by simp; omega
            obtain ⟨c, hc⟩ : ∃ c, b[en]? = some c := ⟨_, List.getElem?_eq_getElem (by rw [HBL.out]; omega)⟩
            obtain ⟨hx0, hx⟩ := hat en c hc
            by_cases h44 : c = 44
            · subst h44
              have hc' := hc
              have HCN := cl2_next HC2.out hc'
              clear hc hc'
              go_wp2
              go_roundw
              case rel => exact ⟨en + 1, l ++ [(v, v)], by omega, by go_num, by simp; omega, HCN, by rw [flat_snoc2]; simpa using hown3, hB3⟩
              case measure => simp [intOf]; omega
            · have hcn : ¬ (c.toNat : Int) = 44 := fun h => h44 (UInt8.toNat_inj.1 (by show c.toNat = 44; omega))
              have hcn2 : ((c.toNat : Int) == 44) = false := by simpa using hcn
              have hcn3 : ((c.toNat : Int) != 44) = true := by simpa using hcn
              have HCC : Hid _ := hc
              have H44 : Hid (¬ c = 44) := h44
              clear hc h44 hcn
              go_wp2
              go_ret2
              refine ⟨.inr (.inr ⟨HL.out, HNE.out, .inr ⟨fun L hL hb => ?_, rfl⟩⟩), hB3⟩
              exact cl2_comma HC2.out HCC.out H44.out L hL.1 hL.2 hb
      · have h1' : ¬ (en : Int) + 1 < (n : Int) := by omega
        have hd : ¬ (b.drop en).take 2 = [46, 46] := fun h => by
          have := congrArg List.length h
          rw [List.length_take, List.length_drop, HBL.out] at this
          simp at this; omega
        have HC2 : Hid (Cl2 b l v v en) := cl_nodots HCL.out HN.out hd
        clear hd
        have q0 := (two_c hT1).1
        have q1 := (two_c hT1).2.1
        have hBX := hB2
        go_wp2_with (at_builtin; refine wpList_append_own _ rfl _ _ 22 rfl W.heap.size 34 i0 (.agg #[.int .i64 0, .int .i64 0]) 2 16 Tryd.underlying22 hi0 hz0 hz1 hz2 rfl (by decide) _ _ _ rfl (World.ownsRow.alloc hrow2 _) ⟨w1.heap.size + 1, 0, none⟩ 1 1 [.int .i64 v, .int .i64 v] rfl rfl (by have h9 := cell_two_new (w1.alloc (Obj.cells #[Value.int IntKind.i64 v, Value.int IntKind.i64 v] 34)) (.int .i64 v) (.int .i64 v) 34; rw [World.size_alloc] at h9; exact h9) (by simp [Value.oneCell']) (by unfold maxLen; omega) (by omega) (by simp; omega) ?_; intro v3 w3 hown3 hgrow _; have hB3 : Below W.heap.size W w3 := (hBX.alloc (by simp; omega) _).grown hgrow (by simp; omega) (fun j e => (World.ownsRow.lt hrow2 j e).1); clear hgrow; refine Hid.out ?_)
        refine (show Hid _ from ?_)
        unfold Hid
        by_cases hend : en = n
        · have hend' : (en : Int) = (n : Int) := by omega
          have hend2 : ((en : Int) == (n : Int)) = true := by simp; omega
          have hS : Sr w3 v3 (l ++ [(v, v)]) := own_srl (l := l ++ [(v, v)]) (base := W.heap.size) (by rw [flat_snoc2]; simpa using hown3)
          have hall : ∀ L, Some' L → txN L L.length = b → l ++ [(v, v)] = L := fun L hL hb => cl2_end HC2.out (by rw [HBL.out]; omega) L hL.1 hL.2 hb
          have hpos : 0 < (l ++ [(v, v)]).length := by simp
          obtain ⟨ll, hll⟩ : ∃ ll, l ++ [(v, v)] = ll := ⟨_, rfl⟩
          rw [hll] at hS hpos
          simp only [hll] at hall
          have HS : Hid (Sr w3 v3 ll) := hS
          have HALL : Hid (∀ L, Some' L → txN L L.length = b → ll = L) := hall
          have hrt := refright_any v3 _ w3 hS
          clear hall hown3 hll
          by_cases hR : Right ll
          · rw [rightB_yes hR] at hrt
            have hsome : Some' ll := ⟨hR, hpos⟩
            have htx := fun X (hX : Below w3.heap.size w3 X) => reftext_yes v3 _ X (HS.out.below hX) hsome (tens_here HT.out (hB3.trans (hX.mono hB3.size)))
            obtain ⟨tx, hx⟩ : ∃ tx, txN ll ll.length = tx := ⟨_, rfl⟩
            simp only [hx] at htx
            have HX : Hid (txN ll ll.length = tx) := hx
            have HSM : Hid (Some' ll) := hsome
            obtain ⟨a4, c4, e4, _⟩ := hS
            obtain ⟨q, hq⟩ : ∃ q, ll.length = q := ⟨_, rfl⟩
            rw [hq] at e4
            subst e4
            clear hx hsome hR hq hpos
            by_cases heq : tx = s.data.toList
            · have hcmp := beq_str tx s true (decide_eq_true heq)
              have HEQ : Hid _ := heq
              clear heq
              go_wp2_with fail
              refine hrt.mono ?_
              clear hrt
              rintro e w4 ⟨rfl, m4, rfl⟩
              go_wp2_with fail
              refine (htx _ (below_drewN (Below.refl _ _) _)).mono ?_
              clear htx
              rintro e w5 ⟨rfl, hb5⟩
              have hB5 : Below W.heap.size W w5 := (below_drewN hB3 m4).trans (hb5.mono hB3.size)
              go_wp2
              go_ret2
              exact ⟨.inr (.inr ⟨HL.out, HNE.out, .inl ⟨ll, _, HSM.out, (HX.out.trans HEQ.out).trans HSB.out, rfl, (HS.out.below (below_drewN (Below.refl _ _) _)).below hb5⟩⟩), hB5⟩
            · have hcmp := beq_str tx s false (decide_eq_false heq)
              have HEQ : Hid (¬ tx = s.data.toList) := heq
              clear heq
              go_wp2_with fail
              refine hrt.mono ?_
              clear hrt
              rintro e w4 ⟨rfl, m4, rfl⟩
              go_wp2_with fail
              refine (htx _ (below_drewN (Below.refl _ _) _)).mono ?_
              clear htx
              rintro e w5 ⟨rfl, hb5⟩
              have hB5 : Below W.heap.size W w5 := (below_drewN hB3 m4).trans (hb5.mono hB3.size)
              go_wp2
              go_ret2
              refine ⟨.inr (.inr ⟨HL.out, HNE.out, .inr ⟨fun L hL hb => ?_, rfl⟩⟩), hB5⟩
              have h9 := HALL.out L hL hb
              subst h9
              exact HEQ.out ((HX.out.symm.trans hb).trans HSB.out.symm)
          · rw [rightB_no hR] at hrt
            have HR : Hid (¬ Right ll) := hR
            obtain ⟨a4, c4, e4, _⟩ := hS
            obtain ⟨q, hq⟩ : ∃ q, ll.length = q := ⟨_, rfl⟩
            rw [hq] at e4
            subst e4
            clear hR hq hpos
            go_wp2_with fail
            refine hrt.mono ?_
            clear hrt
            rintro e w4 ⟨rfl, m4, rfl⟩
            go_wp2
            go_ret2
            refine ⟨.inr (.inr ⟨HL.out, HNE.out, .inr ⟨fun L hL hb => ?_, rfl⟩⟩), below_drewN hB3 m4⟩
            have h9 := HALL.out L hL hb
            subst h9
            exact HR.out hL.1
        · have hend' : ¬ (en : Int) = (n : Int) := by omega
          have hend2 : ((en : Int) == (n : Int)) = false := by simp; omega
          obtain ⟨c, hc⟩ : ∃ c, b[en]? = some c := ⟨_, List.getElem?_eq_getElem (by rw [HBL.out]; omega)⟩
          obtain ⟨hx0, hx⟩ := hat en c hc
          by_cases h44 : c = 44
          · subst h44
            have hc' := hc
            have HCN := cl2_next HC2.out hc'
            clear hc hc'
            go_wp2
            go_roundw
            case rel => exact ⟨en + 1, l ++ [(v, v)], by omega, by go_num, by simp; omega, HCN, by rw [flat_snoc2]; simpa using hown3, hB3⟩
            case measure => simp [intOf]; omega
          · have hcn : ¬ (c.toNat : Int) = 44 := fun h => h44 (UInt8.toNat_inj.1 (by show c.toNat = 44; omega))
            have hcn2 : ((c.toNat : Int) == 44) = false := by simpa using hcn
            have hcn3 : ((c.toNat : Int) != 44) = true := by simpa using hcn
            have HCC : Hid _ := hc
            have H44 : Hid (¬ c = 44) := h44
            clear hc h44 hcn
            go_wp2
            go_ret2
            refine ⟨.inr (.inr ⟨HL.out, HNE.out, .inr ⟨fun L hL hb => ?_, rfl⟩⟩), hB3⟩
            exact cl2_comma HC2.out HCC.out H44.out L hL.1 hL.2 hb
    · have hok' : ok = false := by simpa using hok
      subst hok'
      clear hok hrow1 hen3
      go_wp2
      go_ret2
      refine ⟨.inr (.inr ⟨HL.out, HNE.out, .inr ⟨fun L hL hb => ?_, rfl⟩⟩), hB1⟩
      have := (cl_num HCL.out HN.out L hL.1 hL.2 hb).1
      cases this
theorem refparse_any (s : ByteArray) (W : World) (hT : Tens W.heap.size W) :
    Calls Tryd.prog 6 #[.string s] W fun e w' => ParsE s.data.toList e w' ∧ Below W.heap.size W w' := by
  have hl : s.data.toList.length = s.size := by simp
  by_cases h : 65536 < s.size
  · exact (refparse_long s h W).mono fun e w' ⟨he, hw⟩ => ⟨.inl ⟨by rw [hl]; exact h, he⟩, by rw [hw]; exact Below.refl _ _⟩
  · by_cases hn : s.data.toList = [123, 125]
    · have hs : s = ⟨#[123, 125]⟩ := by rw [show s = ⟨s.data.toList.toArray⟩ by simp, hn]
      subst hs
      exact (refparse_none W).mono fun e w' ⟨he, hw⟩ => ⟨.inr (.inl ⟨by decide, rfl, he⟩), by rw [hw]; exact Below.refl _ _⟩
    · exact refparse_some s (by omega) hn W hT
end Go.Proofs.YtopelhdepocoiaaDoor
