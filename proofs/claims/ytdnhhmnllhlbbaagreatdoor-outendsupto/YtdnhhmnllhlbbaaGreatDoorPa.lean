/-
  What is proved here: The set of a text: setOf, of a text that a set is written as.
-/
import Derived.Test.YtdnhhmnllhlbbaaGreatDoorOvj
import Derived.Test.YtdnhhmnllhlbbaaGreatDoorOz
import Derived.Test.YtdnhhmnllhlbbaaGreatDoorOg
namespace Go.Proofs.YtdnhhmnllhlbbaaGreatDoor
open Go.RowKit Go.Shelf
set_option linter.unusedVariables false
set_option linter.unusedSimpArgs false
/-- Numbers in own memory. -/
def OwI (w : World) (s : Value) (l : List Int) : Prop := Ow w 2 s 1 (l.map fun x => [Value.int .i64 x])
theorem OwI.si {w : World} {B : Nat} {s : Value} {l : List Int} (h : OwI w s l) (hb : ∀ g, s.ownBlock = some g → B ≤ g) : Si B w s l := by
  obtain ⟨a, c, e, _, _⟩ := h.shape
  rw [List.length_map] at e
  refine ⟨a, c, e, fun h0 => ?_⟩
  obtain ⟨x, hx⟩ : ∃ x, l[0]? = some x := ⟨_, List.getElem?_eq_getElem h0⟩
  obtain ⟨g, cap, e2, hg, _, _, _, _⟩ := h.at (i := 0) (c := [.int .i64 x]) (by rw [List.getElem?_map, hx]; rfl)
  rw [e] at e2
  injection e2 with e2 _ _
  refine ⟨g, 0, e2, hb g (by rw [e, e2]; rfl), hg, fun i y hy => ?_⟩
  obtain ⟨g', cap', e3, _, _, _, hr, _⟩ := h.at (i := i) (c := [.int .i64 y]) (by rw [List.getElem?_map, hy]; rfl)
  rw [e, e2] at e3
  injection e3 with e3 _ _
  injection e3 with e3
  injection e3 with e3 _ _
  subst e3
  have := hr 0 (.int .i64 y) rfl
  simpa using this

set_option maxRecDepth 100000 in
set_option maxHeartbeats 4000000 in
theorem fld36 (x : Int) (w : World) : (Instr.field 36 (.agg #[.bool false, .int .i64 x, .slice none 0 0]) 1).run Tryz.prog w = .ok (.int .i64 x) w := rfl
theorem span_at {l : List Int} (h : setOk l = true) (hs : spanB l = true) : (∀ k, k < l.length → l[k]? = some (l.getD 0 0 + (k : Int))) ∧ l.getD (l.length - 1) 0 = l.getD 0 0 + (l.length : Int) - 1 := by
  have hr := (span_range h hs).1
  unfold spanB at hs
  simp only [Bool.and_eq_true, decide_eq_true_eq] at hs
  have e : l.getD (l.length - 1) 0 = l.getD 0 0 + (l.length : Int) - 1 := by omega
  refine ⟨fun k hk => ?_, e⟩
  generalize hlo : l.getD 0 0 = lo at *
  generalize hhi : l.getD (l.length - 1) 0 = hi at *
  rw [hr]
  unfold rangeI
  rw [List.getElem?_map, List.getElem?_range (by omega)]
  rfl

set_option maxRecDepth 100000 in
set_option maxHeartbeats 4000000 in
theorem setOf_span {W : World} (l : List Int) (h : setOk l = true) (hs : spanB l = true) (hM : MaxL W) :
    Calls Tryz.prog 124 #[.string (bs (setT l))] W fun e w' => ∃ sv, e = .returned (.agg #[.bool true, .int .i64 0, sv]) ∧ Si W.heap.size w' sv l ∧ Below W.heap.size W w' := by
  obtain ⟨hat, hhi⟩ := span_at h hs
  have hb0 := setOk_bd h 0
  have hlen := (setOk_facts h).1
  have hcut := cut_span hs
  have hl2 := (setT_len h).2
  obtain ⟨w1, hw1⟩ : ∃ q, (W.alloc (Obj.cells #[.bool false, .int .i64 0, .slice none 0 0] 36)).alloc (Obj.cells #[.bool true, .int .i64 0, .slice none 0 0] 36) = q := ⟨_, rfl⟩
  obtain ⟨R, hR⟩ : ∃ R, W.heap.size = R := ⟨_, rfl⟩
  have hbe : Below W.heap.size W w1 := by rw [← hw1]; exact ((Below.refl _ _).alloc (Nat.le_refl _) _).alloc (by rw [World.size_alloc]; omega) _
  have HR1 : Hid (Blk w1 R #[.bool false, .int .i64 0, .slice none 0 0] 36) := by rw [← hw1, ← hR]; exact (Blk.new _ _ _).alloc _
  have HA1 : Hid (Blk w1 (R + 1) #[.bool true, .int .i64 0, .slice none 0 0] 36) := by
    rw [← hw1, ← hR]
    have := Blk.new (W.alloc (Obj.cells #[.bool false, .int .i64 0, .slice none 0 0] 36)) #[.bool true, .int .i64 0, .slice none 0 0] 36
    rw [World.size_alloc] at this
    exact this
  obtain ⟨A, hA⟩ : ∃ A, R + 1 = A := ⟨_, rfl⟩
  have HRA : Hid (R < A) := by unfold Hid; omega
  rw [hA] at HA1
  have HB1 : Hid (Below W.heap.size W w1) := hbe
  have HW1 : Hid _ := hw1
  have HWR : Hid (W.heap.size = R ∧ R + 1 = A) := ⟨hR, hA⟩
  have kc := cut74 (setT l) [46, 46] w1 (hM.self hbe) (by omega)
  rw [hcut] at kc
  obtain ⟨lo, hlo⟩ : ∃ lo, l.getD 0 0 = lo := ⟨_, rfl⟩
  obtain ⟨hi, hhi2⟩ : ∃ hi, l.getD (l.length - 1) 0 = hi := ⟨_, rfl⟩
  rw [hlo] at hat hhi hb0 kc
  rw [hhi2] at hhi kc
  obtain ⟨n, hn⟩ : ∃ n, l.length = n := ⟨_, rfl⟩
  rw [hn] at hat hhi hlen
  have HN : Hid (l.length = n) := hn
  have HAT : Hid (∀ k, k < n → l[k]? = some (lo + (k : Int))) := hat
  have HHI : Hid (hi = lo + (n : Int) - 1) := hhi
  have hhib : -1000000 ≤ hi ∧ hi ≤ 1000000 := by have := setOk_bd h (l.length - 1); rw [hhi2] at this; exact this
  have k1 := fun X => number96 lo (by omega) (by omega) X
  have k2 := fun X => number96 hi (by omega) (by omega) X
  obtain ⟨T, hT⟩ : ∃ T, bs (setT l) = T := ⟨_, rfl⟩
  obtain ⟨T1, hT1⟩ : ∃ T, bs (Lib.itoa lo) = T := ⟨_, rfl⟩
  obtain ⟨T2, hT2⟩ : ∃ T, bs (Lib.itoa hi) = T := ⟨_, rfl⟩
  have HK1 : Hid (∀ X, Calls Tryz.prog 96 #[.string T1] X fun e w' => e = .returned (.agg #[.bool false, .int .i64 lo, .slice none 0 0]) ∧ Below X.heap.size X w') := by rw [← hT1]; exact k1
  have HK2 : Hid (∀ X, Calls Tryz.prog 96 #[.string T2] X fun e w' => e = .returned (.agg #[.bool false, .int .i64 hi, .slice none 0 0]) ∧ Below X.heap.size X w') := by rw [← hT2]; exact k2
  rw [hT, hT1, hT2] at kc
  rw [hT]
  clear hat hhi hcut hl2 hbe hlo hhi2 hn h hs hM hT hT1 hT2 k1 k2 hw1 hR hA
  have fl := fld36 lo
  have fh := fld36 hi
  go_enter Tryz.func124, Tryz.ntmps124
  go_wp2_with fail
  rw [HW1.out, HWR.out.1, HWR.out.2]
  refine kc.mono ?_
  rintro e w2 ⟨rfl, hb2⟩
  have HR2 : Hid (Blk w2 R #[.bool false, .int .i64 0, .slice none 0 0] 36) := HR1.out.below hb2
  have HA2 : Hid (Blk w2 A #[.bool true, .int .i64 0, .slice none 0 0] 36) := HA1.out.below hb2
  have HB2 : Hid (Below W.heap.size W w2) := HB1.out.trans (hb2.mono HB1.out.size)
  clear kc HW1 hb2 HR1 HA1 HB1
  go_wp2_with fail
  refine (HK1.out w2).mono ?_
  rintro e w3 ⟨rfl, hb3⟩
  have HR3 : Hid (Blk w3 R #[.bool false, .int .i64 0, .slice none 0 0] 36) := HR2.out.below hb3
  have HA3 : Hid (Blk w3 A #[.bool true, .int .i64 0, .slice none 0 0] 36) := HA2.out.below hb3
  have HB3 : Hid (Below W.heap.size W w3) := HB2.out.trans (hb3.mono HB2.out.size)
  clear hb3 HR2 HA2 HB2
  go_wp2_with fail
  refine (HK2.out w3).mono ?_
  rintro e w4 ⟨rfl, hb4⟩
  have HR4 : Hid (Blk w4 R #[.bool false, .int .i64 0, .slice none 0 0] 36) := HR3.out.below hb4
  have HA4 : Hid (Blk w4 A #[.bool true, .int .i64 0, .slice none 0 0] 36) := HA3.out.below hb4
  have HB4 : Hid (Below W.heap.size W w4) := HB3.out.trans (hb4.mono HB3.out.size)
  clear hb4 HR3 HA3 HB3
  have hz4 := HA4.out.cell 2
  go_wp2
  go_loopw [9] (fun i wr => ∃ (k : Nat) (S : Value), k ≤ n ∧ i = .int .i64 (lo + (k : Int)) ∧ Hid (Blk wr A #[.bool true, .int .i64 0, S] 36) ∧ Hid (Blk wr R #[.bool false, .int .i64 0, .slice none 0 0] 36) ∧ Hid (OwI wr S (l.take k)) ∧ Hid (∀ b, S.ownBlock = some b → A < b) ∧ Hid (Below W.heap.size W wr)) (fun i _ => n - (intOf i - lo).toNat)
  case atStart => exact ⟨0, .slice none 0 0, Nat.zero_le _, by simp, HA4, HR4, ⟨by simp, World.ownsRow_nil _ _ _ _⟩, fun b e => by (cases e), HB4⟩
  case round =>
    obtain ⟨k, S, hk, rfl, HA, HR, HS, HO, HB⟩ := hrel
    have hhi := HHI.out
    obtain ⟨sa, sc, rfl, _, _⟩ := HS.out.shape
    have hkl : ((l.take k).map fun x => [Value.int .i64 x]).length = k := by rw [List.length_map, List.length_take]; have := HN.out; omega
    rw [hkl] at HA HS HO
    by_cases hlt : k < n
    · have hle : lo + (k : Int) ≤ hi := by omega
      have hk64 : (k : Int) ≤ 64 := by omega
      have x2 := HA.out.cell 2
      have f2 := HA.out.frozen 2
      have hw1 : IntKind.i64.wrap (lo + (k : Int) + 1) = lo + (k : Int) + 1 := by rw [IntKind.wrap_i64]; omega
      have HOW : Hid (Ow (wr.alloc (Obj.cells #[.int .i64 (lo + (k : Int))] 2)) 2 (.slice sa k sc) 1 ((l.take k).map fun x => [Value.int .i64 x])) := HS.out.keep (fun g hg => Below.heap_alloc _ _ _ (HS.out.lt hg))
      have HRW : Hid (Blk (wr.alloc (Obj.cells #[.int .i64 (lo + (k : Int))] 2)) wr.heap.size #[.int .i64 (lo + (k : Int))] 2) := Blk.new _ _ _
      have HA5 : Hid (Blk (wr.alloc (Obj.cells #[.int .i64 (lo + (k : Int))] 2)) A #[.bool true, .int .i64 0, .slice sa k sc] 36) := HA.out.alloc _
      have HR5 : Hid (Blk (wr.alloc (Obj.cells #[.int .i64 (lo + (k : Int))] 2)) R #[.bool false, .int .i64 0, .slice none 0 0] 36) := HR.out.alloc _
      have HB5 : Hid (Below W.heap.size W (wr.alloc (Obj.cells #[.int .i64 (lo + (k : Int))] 2))) := HB.out.alloc HB.out.size _
      have HTK : Hid (l.take (k + 1) = l.take k ++ [lo + (k : Int)]) := by unfold Hid; rw [List.take_add_one, HAT.out k hlt]; rfl
      have HKL : Hid (((l.take k).map fun x => [Value.int .i64 x]).length = k) := hkl
      have HSZ : Hid (wr.heap.size ≤ (wr.alloc (Obj.cells #[.int .i64 (lo + (k : Int))] 2)).heap.size ∧ A < wr.heap.size) := ⟨by rw [World.size_alloc]; omega, HA.out.lt⟩
      clear hhi hkl HS HB HR
      go_wp2_with (at_builtin; refine list_app HOW.out 34 Tryz.underlying34 Tryz.info2 rfl (by decide) rfl (.tmp 39) (.tmp 41) rfl rfl ⟨wr.heap.size, 0, none⟩ 1 rfl [.int .i64 (lo + (k : Int))] rfl (fun j u hj => by rw [Addr.add_lit, Nat.zero_add, HRW.out.cell]; simpa using hj) (by intro u hu; rw [List.mem_singleton.1 hu]; rfl) (by rw [HKL.out]; omega) (by decide) ?_; intro v6 w6 h61 h62 h63; refine Hid.out ?_)
      refine (show Hid _ from ?_)
      unfold Hid
      have HA6 : Hid (Blk w6 A #[.bool true, .int .i64 0, .slice sa k sc] 36) := ⟨(h62.block A HA5.out.lt (fun e => by have := HO.out A e.symm; omega)).trans HA5.out.h⟩
      have HR6 : Hid (Blk w6 R #[.bool false, .int .i64 0, .slice none 0 0] 36) := ⟨(h62.block R HR5.out.lt (fun e => by have := HO.out R e.symm; have := HRA.out; omega)).trans HR5.out.h⟩
      have HB6 : Hid (Below W.heap.size W w6) := HB5.out.grown h62 HB5.out.size (fun b e => by have := HO.out b e; have := HRA.out; have := HWR.out.1; omega)
      have HS6 : Hid (OwI w6 v6 (l.take (k + 1))) := by unfold Hid OwI; rw [HTK.out, List.map_append]; exact h61
      have HO6 : Hid (∀ b, v6.ownBlock = some b → A < b) := fun b e => by
        rcases h63 b e with h | h
        · exact HO.out b h
        · have := HSZ.out; omega
      obtain ⟨va, vc, rfl, _, _⟩ := HS6.out.shape
      have hk1 : ((l.take (k + 1)).map fun x => [Value.int .i64 x]).length = k + 1 := by rw [List.length_map, List.length_take]; have := HN.out; omega
      rw [hk1] at HS6 HO6 ⊢
      obtain ⟨m, hm⟩ : ∃ m, k + 1 = m := ⟨_, rfl⟩
      have HM : Hid (k + 1 = m) := hm
      rw [hm] at HS6 HO6 ⊢
      have y2 := HA6.out.cell 2
      have g2 := HA6.out.frozen 2
      clear hk1 hm h61 h62 h63 HA5 HR5 HB5 HA HOW HRW
      go_wp2
      go_roundw
      case rel =>
        have hM := HM.out
        refine ⟨m, .slice va m vc, by omega, by go_num, HA6.out.set 2 _, HR6.out.other (by have := HRA.out; omega) 2 _, HS6.out.keep (fun g hg => Below.heap_setCell _ _ _ _ (by have := HO6.out g hg; show g ≠ A; omega)), HO6, HB6.out.setCell (by have := HRA.out; have := HWR.out.1; show W.heap.size ≤ A; omega) _⟩
      case measure => have hM := HM.out; simp [intOf]; omega
    · have hkn : k = n := by omega
      have hle : ¬ lo + (k : Int) ≤ hi := by omega
      have htk : l.take k = l := by rw [hkn, ← HN.out]; exact List.take_length
      subst hkn
      rw [htk] at HS
      have x0 := HA.out.cell 0
      have x1 := HA.out.cell 1
      have x2 := HA.out.cell 2
      have y0 := HR.out.cell 0
      have y1 := HR.out.cell 1
      have y2 := HR.out.cell 2
      have g0 := HR.out.frozen 0
      have g1 := HR.out.frozen 1
      have g2 := HR.out.frozen 2
      clear hhi htk hkl
      go_wp2
      have HF : Blk (((wr.setCell ⟨R, 0, none⟩ (.bool true)).setCell ⟨R, 1, none⟩ (.int .i64 0)).setCell ⟨R, 2, none⟩ (.slice sa k sc)) R #[.bool true, .int .i64 0, .slice sa k sc] 36 := ((HR.out.set 0 _).set 1 _).set 2 _
      have hne : ∀ g, (Value.slice sa k sc).ownBlock = some g → g ≠ R := fun g hg => by have := HO.out g hg; have := HRA.out; omega
      have hge : W.heap.size ≤ R := by rw [HWR.out.1]; exact Nat.le_refl _
      exact ⟨rfl, _, res_36 rfl _ HF rfl, _, rfl, OwI.si (((HS.out.keep (fun g hg => Below.heap_setCell _ _ _ _ (hne g hg))).keep (fun g hg => Below.heap_setCell _ _ _ _ (hne g hg))).keep (fun g hg => Below.heap_setCell _ _ _ _ (hne g hg))) (fun g hg => by have := HO.out g hg; have := HRA.out; omega), ((HB.out.setCell hge _).setCell hge _).setCell hge _⟩
end Go.Proofs.YtdnhhmnllhlbbaaGreatDoor
