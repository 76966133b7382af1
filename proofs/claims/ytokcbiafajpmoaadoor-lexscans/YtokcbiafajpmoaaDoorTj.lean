/-
  What is proved here: what the reference's All and Scan answer.
-/
import Derived.Test.YtokcbiafajpmoaaDoorTi
import Derived.Test.YtokcbiafajpmoaaDoorLu
namespace Go.Proofs.YtokcbiafajpmoaaDoor
open Go.RowKit
set_option linter.unusedVariables false
set_option linter.unusedSimpArgs false

set_option maxRecDepth 100000 in
set_option maxHeartbeats 40000000 in
theorem all14 (b : List UInt8) (W : World) :
    Calls Tryd.prog 14 #[.string (bs b)] W fun e w' => ∃ v, e = .returned (.tuple #[v, .int .i64 (allT b).2.1, .int .i64 ((allT b).2.2 : Int)]) ∧ w'.ownsRow W.heap.size 23 4 v (allT b).1.length (flatT (allT b).1) ∧ Below W.heap.size W w' := by
  by_cases hbig : 65536 < b.length
  · have hsz : (65536 : Int) < ((bs b).size : Int) := by have := bs_size b; omega
    unfold allT
    rw [if_pos hbig]
    go_enter Tryd.func14, Tryd.ntmps14
    go_wp2
    refine bodyPost_ret (v := .tuple #[.slice none 0 0, .int .i64 3, .int .i64 0]) (by simp [results, Tryd.results14, go_sem]) rfl ⟨_, rfl, World.ownsRow_nil _ _ _ _, Below.refl _ _⟩
  · unfold allT
    rw [if_neg hbig]
    have hb : b.length ≤ 65536 := by omega
    have hsz : (bs b).size = b.length := bs_size b
    obtain ⟨n, hn⟩ : ∃ n, b.length = n := ⟨_, rfl⟩
    have HN : Hid (b.length = n) := hn
    have hbl := fun (a : Nat) (h : a ≤ b.length) X => skip24 b a h (by omega) X
    have hnx := fun (p : Nat) (c : UInt8) (h : b[p]? = some c) X => one25 b p c h hb X
    rw [hn] at hsz hb
    simp only [hn] at hbl
    have hlt : ¬ (65536 : Int) < (n : Int) := by omega
    have HBL : Hid _ := hbl
    have HNX : Hid _ := hnx
    have hsk0 : ∀ X, Calls Tryd.prog 24 #[.string (bs b), .int .i64 0] X fun e w' => e = .returned (.int .i64 ((0 + skp false b : Nat) : Int)) ∧ w' = X := fun X => hbl 0 (by omega) X
    clear hn hbl hnx hbig
    go_enter Tryd.func14, Tryd.ntmps14
    go_wp2_with (go_at_call 24; refine (hsk0 _).mono ?_; rintro e w' ⟨rfl, hw'⟩; have hw2 := hw'.symm; clear hw'; subst hw2)
    clear hsk0
    go_loopw [5, 6] (fun lv i wr => ∃ (D : List Tok) (a p : Nat), i = .int .i64 (p : Int) ∧ p = a + skp false (b.drop a) ∧ a ≤ n ∧ D.length ≤ a ∧ wr.ownsRow W.heap.size 23 4 lv D.length (flatT D) ∧ Hid (Sofar b D a) ∧ Hid (Below W.heap.size W wr)) (fun _ i _ => n - (intOf i).toNat)
    case atStart => exact ⟨[], 0, 0 + skp false b, by go_num, rfl, by omega, by simp, World.ownsRow_nil _ _ _ _, ⟨rfl, rfl⟩, Below.refl _ _⟩
    case round =>
      obtain ⟨D, a, p, rfl, hp0, han, hDa, hown, HS, HB⟩ := hrel
      have hskl := skp_le false (b.drop a)
      rw [List.length_drop, HN.out] at hskl
      obtain ⟨q, hq⟩ : ∃ q, skp false (b.drop a) = q := ⟨_, rfl⟩
      rw [hq] at hskl hp0
      have hp : a + q = p := hp0.symm
      have hdp : (b.drop a).drop (skp false (b.drop a)) = b.drop p := by rw [List.drop_drop, hq, hp]
      have HOWN : Hid _ := hown
      have hpn : p ≤ n := by omega
      have hD : D.length ≤ 1000000 := by omega
      by_cases hlt2 : p < n
      · have hlt' : (p : Int) < (n : Int) := by omega
        obtain ⟨c, hc⟩ : ∃ c, b[p]? = some c := ⟨_, List.getElem?_eq_getElem (by rw [HN.out]; exact hlt2)⟩
        have hnq := HNX.out p c hc wr
        have hne : b.drop p ≠ [] := by rw [goes_at b p c hc]; simp
        cases hr : oneR (b.drop p) with
        | bad x =>
          have htk := toks_bad (b.drop a) a x (by rw [hdp]; exact hr)
          rw [hq, hp] at htk
          rw [hr] at hnq
          have HFIN : Hid (D = (toks b 0).1 ∧ (toks b 0).2 = (x, p)) := by
            obtain ⟨s1, s2⟩ := HS.out
            rw [htk] at s1 s2
            exact ⟨by simpa using s1, s2.symm⟩
          have hxb : (x == 0) = false := by simpa using oneR_bad _ _ hr
          have hxn : (x != 0) = true := by simpa using oneR_bad _ _ hr
          have hx0 : ¬ x = 0 := oneR_bad _ _ hr
          clear hown hr htk hdp hq hp HS hc hne hp0 hskl
          go_wp2_with fail
          refine hnq.mono ?_
          rintro e w2 ⟨rfl, hb2⟩
          unfold endR tokV
          have HB2 : Hid _ := hb2
          clear hb2 hnq
          go_wp2
          obtain ⟨f1, f2⟩ := HFIN.out
          have hO2 := own_below (own_below HOWN.out HB2.out) ((Below.refl w2.heap.size w2).alloc (Nat.le_refl _) (Obj.cells #[.int .i64 0, .string (bs []), .int .i64 0, .int .i64 ((0 : Nat) : Int)] 23))
          have hbx := (HB.out.trans (HB2.out.mono HB.out.size))
          have hbb := hbx.alloc hbx.size (Obj.cells #[.int .i64 0, .string (bs []), .int .i64 0, .int .i64 ((0 : Nat) : Int)] 23)
          refine bodyPost_ret (v := .tuple #[u5, .int .i64 x, .int .i64 (p : Int)]) (by simp [results, Tryd.results14, go_sem]) rfl ⟨_, by rw [f2], ?_, hbb⟩
          rw [← f1]
          exact hO2
        | ok k m v =>
          rw [hr] at hnq
          obtain ⟨hml, hm1, h5l⟩ := oneR_len _ _ _ _ hr
          rw [List.length_drop, HN.out] at hml
          have h5 : k ≠ 5 := fun h => hne (h5l.1 h)
          have hm2 := hm1 h5
          obtain ⟨tk, htk⟩ : ∃ tk : Tok, (⟨k, (b.drop p).take m, v, p⟩ : Tok) = tk := ⟨_, rfl⟩
          have HTK : Hid _ := htk
          have HTC : Hid (tokC tk = [.int .i64 k, .string (bs ((b.drop p).take m)), .int .i64 v, .int .i64 (p : Int)]) := by unfold Hid; rw [← htk]; rfl
          have htl : (bs ((b.drop p).take m)).size = m := by rw [bs_size, List.length_take, List.length_drop, HN.out]; omega
          have HNEXT : Hid (Sofar b (D ++ [tk]) (p + m)) := by
            have hte := toks_next (b.drop a) a k m v (by rw [hdp]; exact hr) h5
            rw [hdp, hq, List.drop_drop, hp, show a + (q + m) = p + m by omega] at hte
            obtain ⟨s1, s2⟩ := HS.out
            rw [hte] at s1 s2
            refine ⟨?_, s2⟩
            rw [← s1, ← htk]; simp
          have hsk := fun X => HBL.out (p + m) (by omega) X
          have hw : IntKind.i64.wrap ((p : Int) + (m : Int)) = ((p + m : Nat) : Int) := by rw [IntKind.wrap_i64]; omega
          obtain ⟨pm, hpm⟩ : ∃ pm, p + m = pm := ⟨_, rfl⟩
          rw [hpm] at hw HNEXT
          simp only [hpm] at hsk
          have HPM : Hid (p + m = pm) := hpm
          have hDl : D.length + 1 ≤ pm := by omega
          clear hown htk hdp hq HS hr hm1 h5l hc hne h5 hpm hskl hp0 hp
          go_wp2_with fail
          refine hnq.mono ?_
          rintro e w2 ⟨rfl, hb2⟩
          unfold endR tokV
          have HB2 : Hid _ := hb2
          clear hb2 hnq
          go_upto_region 9 with (fail)
          obtain ⟨tx, htx⟩ : ∃ tx, bs ((b.drop p).take m) = tx := ⟨_, rfl⟩
          rw [htx] at HTC htl ⊢
          obtain ⟨w3, hW3⟩ : ∃ X, w2.alloc (Obj.cells #[.int .i64 k, .string tx, .int .i64 v, .int .i64 (p : Int)] 23) = X := ⟨_, rfl⟩
          rw [hW3]
          have hb3 : Below w2.heap.size w2 w3 := by rw [← hW3]; exact (Below.refl _ w2).alloc (Nat.le_refl _) _
          have hR3 : Rw w3 w2.heap.size 23 #[.int .i64 k, .string tx, .int .i64 v, .int .i64 (p : Int)] := by rw [← hW3]; exact Rw.new _ _ _
          have c0 : w3.cell? ⟨w2.heap.size, 0, none⟩ = some (.int .i64 k) := hR3.cell 0 _ rfl
          have c1 : w3.cell? ⟨w2.heap.size, 1, none⟩ = some (.string tx) := hR3.cell 1 _ rfl
          have c2 : w3.cell? ⟨w2.heap.size, 2, none⟩ = some (.int .i64 v) := hR3.cell 2 _ rfl
          have c3 : w3.cell? ⟨w2.heap.size, 3, none⟩ = some (.int .i64 (p : Int)) := hR3.cell 3 _ rfl
          have HR3 : Hid _ := hR3
          have HB3 : Hid _ := hb3
          have HO3 : Hid (w3.ownsRow W.heap.size 23 4 u5 D.length (flatT D)) := own_below (own_below HOWN.out HB2.out) hb3
          clear hW3 hb3 hR3 htx
          have HR4 : Hid (Rw (w3.alloc (Obj.cells #[.int .i64 k, .string tx, .int .i64 v, .int .i64 (p : Int)] 23)) w3.heap.size 23 (tokC tk).toArray) := by unfold Hid; rw [HTC.out]; exact Rw.new _ _ _
          have HO4 : Hid ((w3.alloc (Obj.cells #[.int .i64 k, .string tx, .int .i64 v, .int .i64 (p : Int)] 23)).ownsRow W.heap.size 23 4 u5 D.length (flatT D)) := own_below HO3.out ((Below.refl _ w3).alloc (Nat.le_refl _) _)
          have hsz4 : W.heap.size ≤ (w3.alloc (Obj.cells #[.int .i64 k, .string tx, .int .i64 v, .int .i64 (p : Int)] 23)).heap.size := by
            have h1 := HB.out.size; have h2 := HB2.out.size; have h3 := HB3.out.size
            rw [World.size_alloc]; omega
          have HB13 : Hid (Below W.heap.size W w3) := HB.out.trans ((HB2.out.trans (HB3.out.mono HB2.out.size)).mono HB.out.size)
          go_upto_region 10 with (at_builtin; refine wpList_app_t rfl (.tmp 29) (.tmp 31) rfl W.heap.size _ D tk rfl HO4.out w3.heap.size rfl HR4.out hD hsz4 ?_; intro lv5 w5 hown5 hgrow5 hb5)
          have hrb : ∀ j, u5.ownBlock = some j → j < w2.heap.size := fun j e => (World.ownsRow.lt (own_below HOWN.out HB2.out) j e).2
          have hR5 := (HR3.out.alloc (Obj.cells #[.int .i64 k, .string tx, .int .i64 v, .int .i64 (p : Int)] 23)).keep hgrow5 (fun e => by have := hrb _ e.symm; omega)
          have HB15 : Hid (Below W.heap.size W w5) := (HB13.out.alloc HB13.out.size _).trans hb5
          have HO5 : Hid _ := hown5
          have d1 : w5.cell? ⟨w2.heap.size, 1, none⟩ = some (.string tx) := hR5.cell 1 _ rfl
          clear hrb hR5 hown5 hgrow5 hb5 c0 c1 c2 c3 HR4 HO4 hsz4 HO3 HR3 HB3
          go_wp2_with (go_at_call 24; refine (hsk _).mono ?_; rintro e w' ⟨rfl, rfl⟩)
          go_roundw
          case rel => exact ⟨D ++ [tk], pm, pm + skp false (b.drop pm), by first | rfl | go_num, rfl, by have := HPM.out; omega, by rw [List.length_append]; simp; omega, HO5.out, HNEXT, HB15⟩
          case measure =>
            have := HPM.out
            simp [intOf]; omega
      · have hlt' : ¬ (p : Int) < (n : Int) := by omega
        obtain rfl : p = n := by omega
        have hnil : b.drop p = [] := List.drop_eq_nil_of_le (by rw [HN.out]; exact Nat.le_refl _)
        have hte := toks_end (b.drop a) a 0 0 (by rw [hdp, hnil]; rfl)
        have HFIN : Hid ((toks b 0).1 = D ++ [⟨5, [], 0, p⟩] ∧ (toks b 0).2 = (0, 0)) := by
          obtain ⟨s1, s2⟩ := HS.out
          rw [hte] at s1 s2
          refine ⟨?_, s2.symm⟩
          rw [← s1, List.length_drop, HN.out, show a + (p - a) = p by omega]
        have HR4 : Hid (Rw (wr.alloc (Obj.cells #[.int .i64 5, .string ⟨#[]⟩, .int .i64 0, .int .i64 (p : Int)] 23)) wr.heap.size 23 (tokC ⟨5, [], 0, p⟩).toArray) := Rw.new _ _ _
        have HO4 : Hid ((wr.alloc (Obj.cells #[.int .i64 5, .string ⟨#[]⟩, .int .i64 0, .int .i64 (p : Int)] 23)).ownsRow W.heap.size 23 4 u5 D.length (flatT D)) := own_below HOWN.out ((Below.refl _ wr).alloc (Nat.le_refl _) _)
        have hsz4 : W.heap.size ≤ (wr.alloc (Obj.cells #[.int .i64 5, .string ⟨#[]⟩, .int .i64 0, .int .i64 (p : Int)] 23)).heap.size := by
          have h1 := HB.out.size
          rw [World.size_alloc]; omega
        clear hown hte hdp hq hp HS hnil hskl hp0
        go_wp2_with (at_builtin; refine wpList_app_t rfl (.tmp 40) (.tmp 44) rfl W.heap.size _ D ⟨5, [], 0, p⟩ rfl HO4.out wr.heap.size rfl HR4.out hD hsz4 ?_; intro lv5 w5 hown5 hgrow5 hb5; refine Hid.out ?_)
        refine (show Hid _ from ?_)
        unfold Hid
        have HB15 : Hid (Below W.heap.size W w5) := (HB.out.alloc HB.out.size _).trans hb5
        have HO5 : Hid _ := hown5
        clear hown5 hgrow5 hb5 HR4 HO4 hsz4
        go_wp2
        obtain ⟨f1, f2⟩ := HFIN.out
        refine bodyPost_ret (v := .tuple #[lv5, .int .i64 0, .int .i64 0]) (by simp [results, Tryd.results14, go_sem]) rfl ⟨_, by rw [f2]; rfl, ?_, HB15.out⟩
        rw [f1]
        exact HO5.out

set_option maxRecDepth 100000 in
set_option maxHeartbeats 4000000 in
theorem scan8 (b : List UInt8) (W : World) :
    Calls Tryd.prog 8 #[.string (bs b)] W fun e w' => ∃ v, e = .returned (.tuple #[v, .int .i64 (scanT b).2.1, .int .i64 ((scanT b).2.2 : Int)]) ∧ w'.ownsRow W.heap.size 23 4 v (scanT b).1.length (flatT (scanT b).1) ∧ Below W.heap.size W w' := by
  have hal := all14 b W
  have HSC : Hid (scanT b = if (allT b).2.1 = 0 then ((allT b).1, 0, 0) else ([], (allT b).2.1, (allT b).2.2)) := rfl
  obtain ⟨⟨T, x, p⟩, hall⟩ : ∃ y, allT b = y := ⟨_, rfl⟩
  rw [hall] at hal HSC
  simp only at hal HSC
  by_cases hx : x = 0
  · have hsc : scanT b = (T, 0, 0) := by rw [HSC.out]; exact if_pos hx
    rw [hsc]
    subst hx
    clear hall hsc HSC
    go_enter Tryd.func8, Tryd.ntmps8
    go_wp2_with fail
    refine hal.mono ?_
    rintro e w1 ⟨v, rfl, hown, hb⟩
    go_wp2
    refine bodyPost_ret (v := .tuple #[v, .int .i64 0, .int .i64 0]) (by simp [results, Tryd.results8, go_sem]) rfl ⟨_, rfl, hown, hb⟩
  · have hsc : scanT b = ([], x, p) := by rw [HSC.out]; exact if_neg hx
    rw [hsc]
    have hxn : (x != 0) = true := by simpa using hx
    have hxb : (x == 0) = false := by simpa using hx
    clear hall hsc HSC
    go_enter Tryd.func8, Tryd.ntmps8
    go_wp2_with fail
    refine hal.mono ?_
    rintro e w1 ⟨v, rfl, hown, hb⟩
    go_wp2
    refine bodyPost_ret (v := .tuple #[.slice none 0 0, .int .i64 x, .int .i64 (p : Int)]) (by simp [results, Tryd.results8, go_sem]) rfl ⟨_, rfl, World.ownsRow_nil _ _ _ _, hb⟩
end Go.Proofs.YtokcbiafajpmoaaDoor
