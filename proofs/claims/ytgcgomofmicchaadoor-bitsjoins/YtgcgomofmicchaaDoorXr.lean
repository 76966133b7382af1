/-
  What is proved here: the walk of BitsNil.
-/
import Derived.Test.YtgcgomofmicchaaDoorXq
import Derived.Test.YtgcgomofmicchaaDoorXn
namespace Go.Proofs.YtgcgomofmicchaaDoor
open Go.RowKit Go.Shelf

attribute [local go_sem] Oper.semAt_some

theorem chg_first (l : List Rg) (hR : Some' l) (hl : room l ≤ 65536) : chg (fun _ => 0) (wordsR l) (wordsR l).length = true := by
  have hz := sz_wordsR l hR hl
  have h1 := hz.len; have h2 := hz.one
  refine chg_some _ _ _ 0 (by omega) (fun e => ?_)
  have hm : lo l 0 + 0 ∈ vals l := by
    have hr := hR.1.2 0 hR.2
    unfold OkAt at hr
    exact (mem_vals l _).2 ⟨0, hR.2, by omega, by omega⟩
  have hb := (bt_wordsR l hR 0).2 hm
  unfold bt at hb
  rw [if_neg (by decide), show (0 : Int).toNat / 64 = 0 from rfl, ← e] at hb
  rw [Nat.zero_testBit] at hb
  cases hb
theorem upd_zeros (ws : List Nat) (i : Nat) : wat (upd (fun _ => 0) ws ws.length) i = 0 := by
  by_cases hi : i < ws.length
  · unfold wat; rw [upd_get _ ws _ i hi, if_pos hi]; rfl
  · unfold wat; rw [List.getElem?_eq_none (by rw [upd_length]; omega)]; rfl

set_option maxRecDepth 100000 in
set_option maxHeartbeats 4000000 in
theorem nil_walk (v : Int) (s : Value) (l : List Rg) (w : World) (h : Sr w s l) (hf : FitsR l) (hT : Tab w) :
    Calls Tryd.prog 6 #[.int .i64 v, s] w fun e w' => e = .returned (.bool true) ∧ Below w.heap.size w w' := by
  refine (callsIn_wide (n := 6)).1 ?_
  refine callsIn_of_wp_marks Tryd.func6 rfl trivial ?_ rfl
  simp only [Tryd.ntmps6, List.size_toArray, List.length_cons, List.length_nil, Nat.reduceAdd, Nat.reduceSub, Array.replicate_succ, Array.replicate_zero, List.push_toArray, List.append_toArray, List.nil_append, List.cons_append]
  gi_wp2_with fail
  refine ⟨trivial, (callsIn_wide.2 (add_nil _ _)).mono ?_⟩
  rintro e w ⟨rfl, rfl⟩
  gi_wp2_with fail
  refine ⟨trivial, (callsIn_wide.2 (del_nil _ _)).mono ?_⟩
  rintro e w ⟨rfl, rfl⟩
  gi_wp2_with fail
  refine ⟨trivial, (callsIn_wide.2 (nil_and _)).mono ?_⟩
  rintro e w ⟨rfl, rfl⟩
  gi_wp2_with fail
  refine ⟨trivial, (callsIn_wide.2 (nil_or _)).mono ?_⟩
  rintro e w ⟨rfl, rfl⟩
  gi_wp2_with fail
  refine ⟨trivial, (callsIn_wide.2 (nil_minus _)).mono ?_⟩
  rintro e w ⟨rfl, rfl⟩
  gi_wp2_with fail
  refine ⟨trivial, (callsIn_wide.2 (nil_ranges _)).mono ?_⟩
  rintro e w1 ⟨rfl, hb1⟩
  gi_wp2_with fail
  refine ⟨trivial, (callsIn_wide.2 (min_nil _)).mono ?_⟩
  rintro e w1 ⟨rfl, rfl⟩
  gi_wp2_with fail
  refine ⟨trivial, (callsIn_wide.2 (max_nil _)).mono ?_⟩
  rintro e w1 ⟨rfl, rfl⟩
  gi_wp2_with fail
  refine ⟨trivial, (callsIn_wide.2 (next_nil _ _)).mono ?_⟩
  rintro e w1 ⟨rfl, rfl⟩
  gi_wp2_with fail
  refine ⟨trivial, (callsIn_wide.2 (nil_each _)).mono ?_⟩
  rintro e w2 ⟨rfl, rfl⟩
  have hnf : ∀ (w : World) (cap : Array Value), (binOp .neq 69 (.func (.func 72) #[] cap) .nilFunc).run Tryd.prog w = .ok (.bool true) w := fun w cap => rfl
  gi_wp2_with fail
  obtain ⟨N, hN⟩ : ∃ N, w1.heap.size = N := ⟨_, rfl⟩
  have hNw : w.heap.size ≤ N := by rw [← hN]; exact hb1.size
  have bC : Boxed ((w1.alloc (Obj.cells #[Value.int IntKind.i64 0] 3)).alloc (Obj.cells #[Value.pointer none] 24)) N 3 (.int .i64 0) := by rw [← hN]; exact (Boxed.new w1 3 _).alloc _
  have bO : Boxed ((w1.alloc (Obj.cells #[Value.int IntKind.i64 0] 3)).alloc (Obj.cells #[Value.pointer none] 24)) (N + 1) 24 (.pointer none) := by rw [← hN]; have h9 := Boxed.new (w1.alloc (Obj.cells #[Value.int IntKind.i64 0] 3)) 24 (.pointer none); rw [World.size_alloc] at h9; exact h9
  have hb2 : Below w.heap.size w ((w1.alloc (Obj.cells #[Value.int IntKind.i64 0] 3)).alloc (Obj.cells #[Value.pointer none] 24)) := (hb1.alloc hb1.size _).alloc (by have := hb1.size; simp; omega) _
  obtain ⟨W0, hW0⟩ : ∃ W0, ((w1.alloc (Obj.cells #[Value.int IntKind.i64 0] 3)).alloc (Obj.cells #[Value.pointer none] 24)) = W0 := ⟨_, rfl⟩
  have hs0 : W0.heap.size = N + 2 := by rw [← hW0, ← hN]; simp
  simp only [hN]
  rw [hW0] at bC bO hb2 ⊢
  clear hW0
  refine wpIn_rangeFunc_ownF (α := Empty) rfl (by decide) (gf := 72) (lb := #[.pointer (some ⟨N + 1, 0, none⟩)]) rfl trivial (enters_of Tryd.func72 (by kernel_rfl) rfl)
    (encs := fun x => x.elim) (Kp := fun _ _ => True) (S := fun _ => True) (Sp := fun _ => False) (N := 0) (w0 := W0)
    (fun lr J Jx W hW _ _ _ h0 => (nil_each1_in 5 (by decide) lr (N + 1) J W ((hW.cell (p := ⟨N + 1, 0, none⟩) (by show N + 1 < _; omega)).trans bO.cell) h0).mono (fun e W' ⟨he, hq⟩ => ⟨he, hq.imp id (fun ⟨_, _, hj⟩ => hj.elim)⟩))
    (fun _ _ => trivial) (fun _ _ _ _ _ _ _ _ => trivial) (Below.refl _ _) (fun x => x.elim)
    (fun _ W => Boxed W N 3 (.int .i64 0) ∧ Below w.heap.size w W)
    (fun _ _ _ => False)
    (OwnFrom.and (Own.from (boxed_own _ _ _) _) (ownFrom_below (Nat.le_refl _) (by omega)))
    (fun c => ownFrom_pure _ _)
    ⟨bC, hb2⟩
    (fun x => x.elim)
    ?assign ?body ?done ?stop
  case assign => intro l x; exact x.elim
  case body => intro l pre x; exact x.elim
  case stop => rintro D c pre W hD hS; exact hS.elim
  case done =>
    rintro D xs W hD _ ⟨hC, hB⟩ hK
    have cC := hC.cell
    gi_wp2_with fail
    refine ⟨trivial, (callsIn_wide.2 (first_nil _)).mono ?_⟩
    rintro e W ⟨rfl, rfl⟩
    gi_wp2_with fail
    refine ⟨trivial, (callsIn_wide.2 (room_nil _)).mono ?_⟩
    rintro e W ⟨rfl, rfl⟩
    gi_wp2_with fail
    refine ⟨trivial, (callsIn_wide.2 (has_nil _ _)).mono ?_⟩
    rintro e W1 ⟨rfl, n1, rfl⟩
    replace hB : Below w.heap.size w (W.drewN n1) := below_drewN hB n1
    replace hK : (W.drewN n1).heap[D]? = some (.deferred (some [])) := hK
    clear cC hC
    obtain ⟨W1, hW1⟩ : ∃ W1, W.drewN n1 = W1 := ⟨_, rfl⟩
    rw [hW1] at hB hK ⊢
    clear hW1
    gi_wp2_with fail
    refine ⟨trivial, (callsIn_wide.2 (nil_size _)).mono ?_⟩
    rintro e W1 ⟨rfl, rfl⟩
    gi_wp2_with fail
    refine ⟨trivial, (callsIn_wide.2 (nil_copy _)).mono ?_⟩
    rintro e W1 ⟨rfl, rfl⟩
    gi_wp2_with fail
    refine ⟨trivial, (callsIn_wide.2 (nil_same _ _)).mono ?_⟩
    rintro e W1 ⟨rfl, rfl⟩
    gi_wp2_with fail
    refine ⟨trivial, (callsIn_wide.2 (words_nil _)).mono ?_⟩
    rintro e W1 ⟨rfl, rfl⟩
    have hD2 : D < W1.heap.size := (Array.getElem?_eq_some_iff.1 hK).1
    have hS1 : Sr W1 s l := h.below hB
    have hT1 : Tab W1 := hT.below hB hT.1
    have HS1 : Hid (Sr W1 s l) := hS1
    have HT1 : Hid (Tab W1) := hT1
    have HF : Hid (FitsR l) := hf
    have hfin : ∀ W2, Below W1.heap.size W1 W2 → W2.heap[D]? = some (.deferred (some [])) ∧ Below w.heap.size w (W2.putObj D (.deferred none)) := fun W2 hb => by
      have hK2 : W2.heap[D]? = some (.deferred (some [])) := (hb.block D hD2).trans hK
      exact ⟨hK2, (hB.trans (hb.mono hB.size)).trans (belowK_b (n₀ := w.heap.size) (w := w) (Nat.le_refl _) _ D _ (.deferred none) (by omega) hK2 rfl rfl)⟩
    have HFIN : Hid (∀ W2, Below W1.heap.size W1 W2 → W2.heap[D]? = some (.deferred (some [])) ∧ Below w.heap.size w (W2.putObj D (.deferred none))) := hfin
    clear hS1 hT1 hfin h hf hT bC bO hb2 hb1
    gi_wp2_with fail
    by_cases hR : Some' l
    · by_cases hl : room l ≤ 65536
      · refine ⟨trivial, (callsIn_wide.2 (of_yes s l W1 HS1.out HF.out hR hl)).mono ?_⟩
        rintro e W2 ⟨b, rfl, hib, hb2⟩
        obtain ⟨g, c, hbb, hbg, hB2⟩ := hib.open
        have hz := sz_wordsR l hR hl
        have hch := chg_first l hR hl
        obtain ⟨ws, hws⟩ : ∃ ws, wordsR l = ws := ⟨_, rfl⟩
        rw [hws] at hB2 hz hch
        have HCH : Hid (chg (fun _ => 0) ws ws.length = true) := hch
        have hs2 := hb2.size
        clear hws hib hch
        gi_wp2_with fail
        refine ⟨trivial, (callsIn_wide.2 (minus_nilo b g c _ _ ws W2 hB2 hz W1.heap.size hbg)).mono ?_⟩
        rintro e W3 ⟨rfl, hB3, hb3⟩
        gi_wp2_with fail
        refine ⟨trivial, (callsIn_wide.2 (or_nilo b g c _ _ ws W3 hB3 hz W1.heap.size hbg)).mono ?_⟩
        rintro e W4 ⟨rfl, hB4, hb4⟩
        have k5 := and_nilo b g c _ _ ws W4 hB4 hz W1.heap.size hbg
        rw [HCH.out] at k5
        gi_wp2_with fail
        refine ⟨trivial, (callsIn_wide.2 k5).mono ?_⟩
        rintro e W5 ⟨rfl, hB5, hb5⟩
        have hb15 : Below W1.heap.size W1 W5 := ((hb2.trans hb3).trans hb4).trans hb5
        clear k5 hB2 hB3 hB4 hb2 hb3 hb4 hb5
        gi_wp2_with fail
        refine ⟨trivial, (callsIn_wide.2 (size_zero b g c _ _ _ W5 hB5 (hz.upd _ (fun _ _ => by decide) _) (upd_zeros ws))).mono ?_⟩
        rintro e W5 ⟨rfl, rfl⟩
        gi_wp2_with fail
        refine ⟨trivial, (callsIn_wide.2 (same_nil _ _)).mono ?_⟩
        rintro e W5 ⟨rfl, rfl⟩
        gi_wp2_with fail
        refine ⟨trivial, (callsIn_wide.2 (nil_same _ _)).mono ?_⟩
        rintro e W5 ⟨rfl, rfl⟩
        gi_wp2_with fail
        refine ⟨trivial, (callsIn_wide.2 (known_any W5 (HT1.out.below hb15 HT1.out.1))).mono ?_⟩
        rintro e W6 ⟨rfl, hb6⟩
        gi_wp2
        obtain ⟨q1, q2⟩ := HFIN.out W6 (hb15.trans (hb6.mono hb15.size))
        refine ⟨by simp, .inl ⟨_, _, rfl, run_takeDeferred q1, ?_⟩⟩
        exact ⟨_, results_tmp rfl _ _ _, rfl, q2⟩
      · refine ⟨trivial, (callsIn_wide.2 (of_long s l W1 HS1.out HF.out hR (by omega))).mono ?_⟩
        rintro e W2 ⟨rfl, hb2⟩
        gi_wp2_with fail
        refine ⟨trivial, (callsIn_wide.2 (known_any W2 (HT1.out.below hb2 HT1.out.1))).mono ?_⟩
        rintro e W3 ⟨rfl, hb3⟩
        gi_wp2
        obtain ⟨q1, q2⟩ := HFIN.out W3 (hb2.trans (hb3.mono hb2.size))
        refine ⟨by simp, .inl ⟨_, _, rfl, run_takeDeferred q1, ?_⟩⟩
        exact ⟨_, results_tmp rfl _ _ _, rfl, q2⟩
    · refine ⟨trivial, (callsIn_wide.2 (of_no s l W1 HS1.out HF.out hR)).mono ?_⟩
      rintro e W2 ⟨rfl, hb2⟩
      gi_wp2_with fail
      refine ⟨trivial, (callsIn_wide.2 (known_any W2 (HT1.out.below hb2 HT1.out.1))).mono ?_⟩
      rintro e W3 ⟨rfl, hb3⟩
      gi_wp2
      obtain ⟨q1, q2⟩ := HFIN.out W3 (hb2.trans (hb3.mono hb2.size))
      refine ⟨by simp, .inl ⟨_, _, rfl, run_takeDeferred q1, ?_⟩⟩
      exact ⟨_, results_tmp rfl _ _ _, rfl, q2⟩
end Go.Proofs.YtgcgomofmicchaaDoor
