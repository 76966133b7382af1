/-
  What is proved here: the walk of BitsSteps.
-/
import Derived.Test.YtmpngkbmmbkghaaDoorYd
import Derived.Test.YtmpngkbmmbkghaaDoorXn
namespace Go.Proofs.YtmpngkbmmbkghaaDoor
open Go.RowKit Go.Shelf

set_option maxRecDepth 100000 in
set_option maxHeartbeats 4000000 in
theorem steps_walk (v : Int) (s : Value) (l : List Rg) (w : World) (h : Sr w s l) (hf : FitsR l) (hv : Fits v) (hT : Tab w) :
    Calls Tryd.prog 7 #[s, .int .i64 v] w fun e w' => e = .returned (.bool true) ∧ Below w.heap.size w w' := by
  have hT0 := hT.1
  by_cases hR : Some' l
  · by_cases hl : room l ≤ 65536
    · have k0 := of_yes s l w h hf hR hl
      have hz := sz_wordsR l hR hl
      have hc := cl_wordsR l hR
      have hrun := runs_of l hR
      have hlen := hR.1.1
      have hpos := hR.2
      obtain ⟨ws, hws⟩ : ∃ ws, wordsR l = ws := ⟨_, rfl⟩
      obtain ⟨f, hff⟩ : ∃ f, lo l 0 = f := ⟨_, rfl⟩
      obtain ⟨R, hRR⟩ : ∃ R, room l = R := ⟨_, rfl⟩
      rw [hws, hff, hRR] at k0 hz hrun
      rw [hws, hRR] at hc
      have z1 := hz.lo; have z2 := hz.one; have z3 := hz.most; have z4 := hz.hi
      unfold Fits at hv
      obtain ⟨hv1, hv2⟩ := hv
      have HZ : Hid (Sz f R ws) := hz
      have HC : Hid (Cl R ws) := hc
      have HRUN : Hid (runs (bvs f R ws) = l) := hrun
      have HR : Hid (Some' l) := hR
      have HT : Hid (Tab w) := hT
      obtain ⟨a, cap, rfl, _⟩ := h
      clear hws hff hRR hz hc hrun hR hT hl hf
      go_enter Tryd.func7, Tryd.ntmps7
      go_wp2_with fail
      refine k0.mono ?_
      clear k0
      rintro e w1 ⟨b, rfl, hib, hb1⟩
      obtain ⟨g, c, hbb, hbg, hB1⟩ := hib.open
      have HB1 : Hid (Bits w1 b g c f R ws) := hB1
      have hT1 := HT.out.below hb1 hT0
      clear hib hB1
      go_wp2_with fail
      refine (next_any b g c f R v ws w1 HB1.out HZ.out HC.out hT1).mono ?_
      rintro e w2 ⟨⟨r, ok, rfl, hn⟩, m2, rfl⟩
      have HNX : Hid (NextIs f R ws v r ok) := hn
      clear hn
      have HB2 : Hid (Bits (w1.drewN m2) b g c f R ws) := HB1.out.drawn m2
      have HT2 : Hid (Tab (w1.drewN m2)) := hT1.drawn m2
      have HW2 : Hid (Below w.heap.size w (w1.drewN m2)) := below_drewN hb1 m2
      obtain ⟨W2, hW2⟩ : ∃ W2, w1.drewN m2 = W2 := ⟨_, rfl⟩
      rw [hW2] at HB2 HT2 HW2 ⊢
      clear hW2 HB1 hT1 hb1
      have k39 := first_any b g c f R ws W2 HB2.out
      have k40 := room_any b g c f R ws W2 HB2.out
      have kh := fun m x (hx : hasB f R ws x = false) => by have q := has_any b g c f R x ws (W2.drewN m) (HB2.out.drawn m) HZ.out; rw [hx] at q; exact q
      cases ok
      · have hno : ∀ x, v ≤ x → x < f + R → hasB f R ws x = false := by
          rcases HNX.out with ⟨q, _⟩ | ⟨_, _, q3⟩
          · cases q
          · exact fun x q _ => q3 x q
        have HNO : Hid (∀ x, v ≤ x → x < f + R → hasB f R ws x = false) := hno
        clear hno HNX
        by_cases hvf : v < f
        · go_wp2_with (first | (go_at_call 39; refine k39.mono ?_; rintro e W2 ⟨rfl, rfl⟩) | (go_at_call 40; refine k40.mono ?_; rintro e W2 ⟨rfl, rfl⟩))
          go_loopw [11] (fun a wr => ∃ x : Int, a = .int .i64 x ∧ f ≤ x ∧ ∃ m, wr = W2.drewN m) (fun a _ => ((f + R) - intOf a).toNat)
          case atStart => exact ⟨f, rfl, Int.le_refl _, 0, rfl⟩
          case round =>
            obtain ⟨x, rfl, hx, m, rfl⟩ := hrel
            by_cases hxe : x < (f + R)
            · have hhx := HNO.out x (by omega) hxe
              have hF3 : f ≤ 1000001 := by omega
              by_cases hx3 : x < f + 300
              · have k5 := kh m x hhx
                have hd1 : decide (x < (f + R)) = true := by simpa using hxe
                have hd2 : decide (x < f + 300) = true := by simpa using hx3
                clear hhx
                go_wp2_with (go_at_call 32; refine k5.mono ?_; clear k5; rintro e w4 ⟨rfl, m4, rfl⟩)
                go_roundw
                case rel => exact ⟨x + 1, rfl, by omega, _, rfl⟩
                case measure => simp [intOf]; omega
              · have hd1 : decide (x < (f + R)) = true := by simpa using hxe
                have hd2 : decide (x < f + 300) = false := by simp; omega
                clear hhx k39 k40 kh
                go_wp2_with fail
                refine (ranges_any b g c f R ws _ (HB2.out.drawn m) HZ.out HC.out (HT2.out.drawn m) (by rw [HRUN.out]; exact hlen)).mono ?_
                rintro e w5 ⟨s5, rfl, hown, _, hb5⟩
                rw [HRUN.out] at hown
                have hsr := own_sr hown hpos
                obtain ⟨g5, c5, rfl, _, _, _⟩ := own_some hown hpos
                have HSR : Hid (Sr w5 (.slice (some ⟨g5, 0, none⟩) l.length c5) l) := hsr
                have hw5 : Below w.heap.size w w5 := (below_drewN HW2.out m).trans (hb5.mono (below_drewN HW2.out m).size)
                have HB5 : Hid (Bits w5 b g c f R ws) := (HB2.out.drawn m).below hb5 (HB2.out.drawn m).b_lt (HB2.out.drawn m).g_lt
                clear hsr hown hb5
                go_wp2_with fail
                refine (refright_yes _ l _ HSR.out HR.out.1 hpos).mono ?_
                rintro e w7 ⟨rfl, m7, rfl⟩
                go_wp2_with fail
                refine (known_any _ (HT.out.below (below_drewN hw5 m7) hT0)).mono ?_
                rintro e w8 ⟨rfl, hb8⟩
                go_wp2
                go_ret
                exact ⟨rfl, (below_drewN hw5 m7).trans (hb8.mono (below_drewN hw5 m7).size)⟩
            · have hd1 : decide (x < (f + R)) = false := by simp; omega
              clear k39 k40 kh
              go_wp2_with fail
              refine (ranges_any b g c f R ws _ (HB2.out.drawn m) HZ.out HC.out (HT2.out.drawn m) (by rw [HRUN.out]; exact hlen)).mono ?_
              rintro e w5 ⟨s5, rfl, hown, _, hb5⟩
              rw [HRUN.out] at hown
              have hsr := own_sr hown hpos
              obtain ⟨g5, c5, rfl, _, _, _⟩ := own_some hown hpos
              have HSR : Hid (Sr w5 (.slice (some ⟨g5, 0, none⟩) l.length c5) l) := hsr
              have hw5 : Below w.heap.size w w5 := (below_drewN HW2.out m).trans (hb5.mono (below_drewN HW2.out m).size)
              have HB5 : Hid (Bits w5 b g c f R ws) := (HB2.out.drawn m).below hb5 (HB2.out.drawn m).b_lt (HB2.out.drawn m).g_lt
              clear hsr hown hb5
              go_wp2_with fail
              refine (refright_yes _ l _ HSR.out HR.out.1 hpos).mono ?_
              rintro e w7 ⟨rfl, m7, rfl⟩
              go_wp2_with fail
              refine (known_any _ (HT.out.below (below_drewN hw5 m7) hT0)).mono ?_
              rintro e w8 ⟨rfl, hb8⟩
              go_wp2
              go_ret
              exact ⟨rfl, (below_drewN hw5 m7).trans (hb8.mono (below_drewN hw5 m7).size)⟩
        · go_wp2_with (first | (go_at_call 39; refine k39.mono ?_; rintro e W2 ⟨rfl, rfl⟩) | (go_at_call 40; refine k40.mono ?_; rintro e W2 ⟨rfl, rfl⟩))
          go_loopw [11] (fun a wr => ∃ x : Int, a = .int .i64 x ∧ v ≤ x ∧ ∃ m, wr = W2.drewN m) (fun a _ => ((f + R) - intOf a).toNat)
          case atStart => exact ⟨v, rfl, Int.le_refl _, 0, rfl⟩
          case round =>
            obtain ⟨x, rfl, hx, m, rfl⟩ := hrel
            by_cases hxe : x < (f + R)
            · have hhx := HNO.out x (by omega) hxe
              have hF3 : v ≤ 1000001 := by omega
              by_cases hx3 : x < v + 300
              · have k5 := kh m x hhx
                have hd1 : decide (x < (f + R)) = true := by simpa using hxe
                have hd2 : decide (x < v + 300) = true := by simpa using hx3
                clear hhx
                go_wp2_with (go_at_call 32; refine k5.mono ?_; clear k5; rintro e w4 ⟨rfl, m4, rfl⟩)
                go_roundw
                case rel => exact ⟨x + 1, rfl, by omega, _, rfl⟩
                case measure => simp [intOf]; omega
              · have hd1 : decide (x < (f + R)) = true := by simpa using hxe
                have hd2 : decide (x < v + 300) = false := by simp; omega
                clear hhx k39 k40 kh
                go_wp2_with fail
                refine (ranges_any b g c f R ws _ (HB2.out.drawn m) HZ.out HC.out (HT2.out.drawn m) (by rw [HRUN.out]; exact hlen)).mono ?_
                rintro e w5 ⟨s5, rfl, hown, _, hb5⟩
                rw [HRUN.out] at hown
                have hsr := own_sr hown hpos
                obtain ⟨g5, c5, rfl, _, _, _⟩ := own_some hown hpos
                have HSR : Hid (Sr w5 (.slice (some ⟨g5, 0, none⟩) l.length c5) l) := hsr
                have hw5 : Below w.heap.size w w5 := (below_drewN HW2.out m).trans (hb5.mono (below_drewN HW2.out m).size)
                have HB5 : Hid (Bits w5 b g c f R ws) := (HB2.out.drawn m).below hb5 (HB2.out.drawn m).b_lt (HB2.out.drawn m).g_lt
                clear hsr hown hb5
                go_wp2_with fail
                refine (refright_yes _ l _ HSR.out HR.out.1 hpos).mono ?_
                rintro e w7 ⟨rfl, m7, rfl⟩
                go_wp2_with fail
                refine (known_any _ (HT.out.below (below_drewN hw5 m7) hT0)).mono ?_
                rintro e w8 ⟨rfl, hb8⟩
                go_wp2
                go_ret
                exact ⟨rfl, (below_drewN hw5 m7).trans (hb8.mono (below_drewN hw5 m7).size)⟩
            · have hd1 : decide (x < (f + R)) = false := by simp; omega
              clear k39 k40 kh
              go_wp2_with fail
              refine (ranges_any b g c f R ws _ (HB2.out.drawn m) HZ.out HC.out (HT2.out.drawn m) (by rw [HRUN.out]; exact hlen)).mono ?_
              rintro e w5 ⟨s5, rfl, hown, _, hb5⟩
              rw [HRUN.out] at hown
              have hsr := own_sr hown hpos
              obtain ⟨g5, c5, rfl, _, _, _⟩ := own_some hown hpos
              have HSR : Hid (Sr w5 (.slice (some ⟨g5, 0, none⟩) l.length c5) l) := hsr
              have hw5 : Below w.heap.size w w5 := (below_drewN HW2.out m).trans (hb5.mono (below_drewN HW2.out m).size)
              have HB5 : Hid (Bits w5 b g c f R ws) := (HB2.out.drawn m).below hb5 (HB2.out.drawn m).b_lt (HB2.out.drawn m).g_lt
              clear hsr hown hb5
              go_wp2_with fail
              refine (refright_yes _ l _ HSR.out HR.out.1 hpos).mono ?_
              rintro e w7 ⟨rfl, m7, rfl⟩
              go_wp2_with fail
              refine (known_any _ (HT.out.below (below_drewN hw5 m7) hT0)).mono ?_
              rintro e w8 ⟨rfl, hb8⟩
              go_wp2
              go_ret
              exact ⟨rfl, (below_drewN hw5 m7).trans (hb8.mono (below_drewN hw5 m7).size)⟩
      · obtain ⟨hHas, hvr, hno⟩ : hasB f R ws r = true ∧ v ≤ r ∧ ∀ x, v ≤ x → x < r → hasB f R ws x = false := by
          rcases HNX.out with ⟨_, q1, q2, q3⟩ | ⟨q, _⟩
          · exact ⟨q1, q2, q3⟩
          · cases q
        have hrf := has_fits hHas
        obtain ⟨hrf1, hrf2⟩ := hrf
        have HHAS : Hid (hasB f R ws r = true) := hHas
        have HNO : Hid (∀ x, v ≤ x → x < r → hasB f R ws x = false) := hno
        clear hHas hno HNX
        by_cases hvf : v < f
        · go_wp2_with (first | (go_at_call 39; refine k39.mono ?_; rintro e W2 ⟨rfl, rfl⟩) | (go_at_call 40; refine k40.mono ?_; rintro e W2 ⟨rfl, rfl⟩))
          go_loopw [11] (fun a wr => ∃ x : Int, a = .int .i64 x ∧ f ≤ x ∧ ∃ m, wr = W2.drewN m) (fun a _ => (r - intOf a).toNat)
          case atStart => exact ⟨f, rfl, Int.le_refl _, 0, rfl⟩
          case round =>
            obtain ⟨x, rfl, hx, m, rfl⟩ := hrel
            by_cases hxe : x < r
            · have hhx := HNO.out x (by omega) hxe
              have hF3 : f ≤ 1000001 := by omega
              by_cases hx3 : x < f + 300
              · have k5 := kh m x hhx
                have hd1 : decide (x < r) = true := by simpa using hxe
                have hd2 : decide (x < f + 300) = true := by simpa using hx3
                clear hhx
                go_wp2_with (go_at_call 32; refine k5.mono ?_; clear k5; rintro e w4 ⟨rfl, m4, rfl⟩)
                go_roundw
                case rel => exact ⟨x + 1, rfl, by omega, _, rfl⟩
                case measure => simp [intOf]; omega
              · have hd1 : decide (x < r) = true := by simpa using hxe
                have hd2 : decide (x < f + 300) = false := by simp; omega
                clear hhx k39 k40 kh
                go_wp2_with fail
                refine (ranges_any b g c f R ws _ (HB2.out.drawn m) HZ.out HC.out (HT2.out.drawn m) (by rw [HRUN.out]; exact hlen)).mono ?_
                rintro e w5 ⟨s5, rfl, hown, _, hb5⟩
                rw [HRUN.out] at hown
                have hsr := own_sr hown hpos
                obtain ⟨g5, c5, rfl, _, _, _⟩ := own_some hown hpos
                have HSR : Hid (Sr w5 (.slice (some ⟨g5, 0, none⟩) l.length c5) l) := hsr
                have hw5 : Below w.heap.size w w5 := (below_drewN HW2.out m).trans (hb5.mono (below_drewN HW2.out m).size)
                have HB5 : Hid (Bits w5 b g c f R ws) := (HB2.out.drawn m).below hb5 (HB2.out.drawn m).b_lt (HB2.out.drawn m).g_lt
                clear hsr hown hb5
                go_wp2_with fail
                refine (has_any b g c f R r ws w5 HB5.out HZ.out).mono ?_
                rintro e w6 ⟨rfl, m6, rfl⟩
                rw [HHAS.out]
                go_wp2_with fail
                refine (refright_yes _ l _ (HSR.out.below (below_drewN (Below.refl _ w5) m6)) HR.out.1 hpos).mono ?_
                rintro e w7 ⟨rfl, m7, rfl⟩
                go_wp2_with fail
                refine (known_any _ (HT.out.below (below_drewN hw5 (m6 + m7)) hT0)).mono ?_
                rintro e w8 ⟨rfl, hb8⟩
                go_wp2
                go_ret
                exact ⟨rfl, (below_drewN hw5 (m6 + m7)).trans (hb8.mono (below_drewN hw5 (m6 + m7)).size)⟩
            · have hd1 : decide (x < r) = false := by simp; omega
              clear k39 k40 kh
              go_wp2_with fail
              refine (ranges_any b g c f R ws _ (HB2.out.drawn m) HZ.out HC.out (HT2.out.drawn m) (by rw [HRUN.out]; exact hlen)).mono ?_
              rintro e w5 ⟨s5, rfl, hown, _, hb5⟩
              rw [HRUN.out] at hown
              have hsr := own_sr hown hpos
              obtain ⟨g5, c5, rfl, _, _, _⟩ := own_some hown hpos
              have HSR : Hid (Sr w5 (.slice (some ⟨g5, 0, none⟩) l.length c5) l) := hsr
              have hw5 : Below w.heap.size w w5 := (below_drewN HW2.out m).trans (hb5.mono (below_drewN HW2.out m).size)
              have HB5 : Hid (Bits w5 b g c f R ws) := (HB2.out.drawn m).below hb5 (HB2.out.drawn m).b_lt (HB2.out.drawn m).g_lt
              clear hsr hown hb5
              go_wp2_with fail
              refine (has_any b g c f R r ws w5 HB5.out HZ.out).mono ?_
              rintro e w6 ⟨rfl, m6, rfl⟩
              rw [HHAS.out]
              go_wp2_with fail
              refine (refright_yes _ l _ (HSR.out.below (below_drewN (Below.refl _ w5) m6)) HR.out.1 hpos).mono ?_
              rintro e w7 ⟨rfl, m7, rfl⟩
              go_wp2_with fail
              refine (known_any _ (HT.out.below (below_drewN hw5 (m6 + m7)) hT0)).mono ?_
              rintro e w8 ⟨rfl, hb8⟩
              go_wp2
              go_ret
              exact ⟨rfl, (below_drewN hw5 (m6 + m7)).trans (hb8.mono (below_drewN hw5 (m6 + m7)).size)⟩
        · go_wp2_with (first | (go_at_call 39; refine k39.mono ?_; rintro e W2 ⟨rfl, rfl⟩) | (go_at_call 40; refine k40.mono ?_; rintro e W2 ⟨rfl, rfl⟩))
          go_loopw [11] (fun a wr => ∃ x : Int, a = .int .i64 x ∧ v ≤ x ∧ ∃ m, wr = W2.drewN m) (fun a _ => (r - intOf a).toNat)
          case atStart => exact ⟨v, rfl, Int.le_refl _, 0, rfl⟩
          case round =>
            obtain ⟨x, rfl, hx, m, rfl⟩ := hrel
            by_cases hxe : x < r
            · have hhx := HNO.out x (by omega) hxe
              have hF3 : v ≤ 1000001 := by omega
              by_cases hx3 : x < v + 300
              · have k5 := kh m x hhx
                have hd1 : decide (x < r) = true := by simpa using hxe
                have hd2 : decide (x < v + 300) = true := by simpa using hx3
                clear hhx
                go_wp2_with (go_at_call 32; refine k5.mono ?_; clear k5; rintro e w4 ⟨rfl, m4, rfl⟩)
                go_roundw
                case rel => exact ⟨x + 1, rfl, by omega, _, rfl⟩
                case measure => simp [intOf]; omega
              · have hd1 : decide (x < r) = true := by simpa using hxe
                have hd2 : decide (x < v + 300) = false := by simp; omega
                clear hhx k39 k40 kh
                go_wp2_with fail
                refine (ranges_any b g c f R ws _ (HB2.out.drawn m) HZ.out HC.out (HT2.out.drawn m) (by rw [HRUN.out]; exact hlen)).mono ?_
                rintro e w5 ⟨s5, rfl, hown, _, hb5⟩
                rw [HRUN.out] at hown
                have hsr := own_sr hown hpos
                obtain ⟨g5, c5, rfl, _, _, _⟩ := own_some hown hpos
                have HSR : Hid (Sr w5 (.slice (some ⟨g5, 0, none⟩) l.length c5) l) := hsr
                have hw5 : Below w.heap.size w w5 := (below_drewN HW2.out m).trans (hb5.mono (below_drewN HW2.out m).size)
                have HB5 : Hid (Bits w5 b g c f R ws) := (HB2.out.drawn m).below hb5 (HB2.out.drawn m).b_lt (HB2.out.drawn m).g_lt
                clear hsr hown hb5
                go_wp2_with fail
                refine (has_any b g c f R r ws w5 HB5.out HZ.out).mono ?_
                rintro e w6 ⟨rfl, m6, rfl⟩
                rw [HHAS.out]
                go_wp2_with fail
                refine (refright_yes _ l _ (HSR.out.below (below_drewN (Below.refl _ w5) m6)) HR.out.1 hpos).mono ?_
                rintro e w7 ⟨rfl, m7, rfl⟩
                go_wp2_with fail
                refine (known_any _ (HT.out.below (below_drewN hw5 (m6 + m7)) hT0)).mono ?_
                rintro e w8 ⟨rfl, hb8⟩
                go_wp2
                go_ret
                exact ⟨rfl, (below_drewN hw5 (m6 + m7)).trans (hb8.mono (below_drewN hw5 (m6 + m7)).size)⟩
            · have hd1 : decide (x < r) = false := by simp; omega
              clear k39 k40 kh
              go_wp2_with fail
              refine (ranges_any b g c f R ws _ (HB2.out.drawn m) HZ.out HC.out (HT2.out.drawn m) (by rw [HRUN.out]; exact hlen)).mono ?_
              rintro e w5 ⟨s5, rfl, hown, _, hb5⟩
              rw [HRUN.out] at hown
              have hsr := own_sr hown hpos
              obtain ⟨g5, c5, rfl, _, _, _⟩ := own_some hown hpos
              have HSR : Hid (Sr w5 (.slice (some ⟨g5, 0, none⟩) l.length c5) l) := hsr
              have hw5 : Below w.heap.size w w5 := (below_drewN HW2.out m).trans (hb5.mono (below_drewN HW2.out m).size)
              have HB5 : Hid (Bits w5 b g c f R ws) := (HB2.out.drawn m).below hb5 (HB2.out.drawn m).b_lt (HB2.out.drawn m).g_lt
              clear hsr hown hb5
              go_wp2_with fail
              refine (has_any b g c f R r ws w5 HB5.out HZ.out).mono ?_
              rintro e w6 ⟨rfl, m6, rfl⟩
              rw [HHAS.out]
              go_wp2_with fail
              refine (refright_yes _ l _ (HSR.out.below (below_drewN (Below.refl _ w5) m6)) HR.out.1 hpos).mono ?_
              rintro e w7 ⟨rfl, m7, rfl⟩
              go_wp2_with fail
              refine (known_any _ (HT.out.below (below_drewN hw5 (m6 + m7)) hT0)).mono ?_
              rintro e w8 ⟨rfl, hb8⟩
              go_wp2
              go_ret
              exact ⟨rfl, (below_drewN hw5 (m6 + m7)).trans (hb8.mono (below_drewN hw5 (m6 + m7)).size)⟩
    · have k0 := of_long s l w h hf hR (by omega)
      obtain ⟨a, cap, rfl, _⟩ := h
      clear hf hR hl hv
      go_enter Tryd.func7, Tryd.ntmps7
      go_wp2_with fail
      refine k0.mono ?_
      clear k0
      rintro e w1 ⟨rfl, hb1⟩
      go_wp2_with fail
      refine (known_any _ (hT.below hb1 hT0)).mono ?_
      rintro e w8 ⟨rfl, hb8⟩
      go_wp2
      go_ret
      exact ⟨rfl, hb1.trans (hb8.mono hb1.size)⟩
  · have k0 := of_no s l w h hf hR
    obtain ⟨a, cap, rfl, _⟩ := h
    clear hf hR hv
    go_enter Tryd.func7, Tryd.ntmps7
    go_wp2_with fail
    refine k0.mono ?_
    clear k0
    rintro e w1 ⟨rfl, hb1⟩
    go_wp2_with fail
    refine (known_any _ (hT.below hb1 hT0)).mono ?_
    rintro e w8 ⟨rfl, hb8⟩
    go_wp2
    go_ret
    exact ⟨rfl, hb1.trans (hb8.mono hb1.size)⟩
end Go.Proofs.YtmpngkbmmbkghaaDoor
