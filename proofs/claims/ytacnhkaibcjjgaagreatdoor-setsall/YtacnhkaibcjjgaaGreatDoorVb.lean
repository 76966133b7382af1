/-
  What is proved here: the reference's walk tells all sets that go on from one, up to a limit.
-/
import Derived.Test.YtacnhkaibcjjgaaGreatDoorVa
import Derived.Test.YtacnhkaibcjjgaaGreatDoorUh
import Derived.Test.YtacnhkaibcjjgaaGreatDoorTd
namespace Go.Proofs.YtacnhkaibcjjgaaGreatDoor
open Go.RowKit Go.Shelf
set_option linter.unusedVariables false
set_option linter.unusedSimpArgs false

theorem take_again (A C : List (List Int)) (n : Nat) : ((A.take n) ++ C).take n = (A ++ C).take n := by
  rw [List.take_append, List.take_append, List.take_take, Nat.min_self]
  congr 1
  rw [List.length_take]
  by_cases h : A.length ≤ n
  · rw [Nat.min_eq_right h]
  · rw [show n - min n A.length = 0 by omega, show n - A.length = 0 by omega]
/-- What a walk keeps: all below the fence, and all blocks but those that hold slices. -/
structure Kw (B : Nat) (W w' : World) : Prop where
  b : Below B W w'
  k : ∀ (g : Nat) (cs : Array Value) (t : TypeId), t ≠ 22 → W.heap[g]? = some (.cells cs t (0, 0)) → w'.heap[g]? = some (.cells cs t (0, 0))
theorem Kw.refl (B : Nat) (W : World) : Kw B W W := ⟨Below.refl _ _, fun _ _ _ _ e => e⟩
theorem Kw.trans {B : Nat} {W w1 w2 : World} (h1 : Kw B W w1) (h2 : Kw B w1 w2) : Kw B W w2 := ⟨h1.b.trans h2.b, fun g cs t ht e => h2.k g cs t ht (h1.k g cs t ht e)⟩
theorem Kw.of_below {B : Nat} {W w' : World} (h : Below W.heap.size W w') (hB : B ≤ W.heap.size) : Kw B W w' :=
  ⟨h.mono hB, fun g cs t _ e => (h.block g (Array.getElem?_eq_some_iff.1 e).1).trans e⟩
theorem Kw.row {B base n : Nat} {W w' : World} {s : Value} {xs : List Value} (hk : Kw B W w') (h : W.ownsRow base 2 1 s n xs) : w'.ownsRow base 2 1 s n xs :=
  ⟨h.1, by
    rcases h.2 with h2 | ⟨g, cap, cur, e1, hg, hgb, r⟩
    · exact .inl h2
    · exact .inr ⟨g, cap, cur, e1, hg, hk.k _ _ _ (by decide) hgb, r⟩⟩
theorem R6.kw {B : Nat} {w w' : World} {g : Nat} {x0 x1 x2 x3 x4 x5 : Value} (h : R6 w g x0 x1 x2 x3 x4 x5) (hk : Kw B w w') : R6 w' g x0 x1 x2 x3 x4 x5 := ⟨hk.k _ _ _ (by decide) h.h⟩
/-- A slice of slices. -/
def Outs (w : World) (B : Nat) (s : Value) (L : List (List Int)) : Prop := ∃ vs : List Value, w.ownsRow B 22 1 s L.length vs ∧ ∀ (i : Nat) (l : List Int), L[i]? = some l → ∃ v, vs[i]? = some v ∧ w.ownsRow 0 2 1 v l.length (intv l)
theorem Outs.below {w w' : World} {B : Nat} {s : Value} {L : List (List Int)} (h : Outs w B s L) (hb : Below w.heap.size w w') : Outs w' B s L := by
  obtain ⟨vs, h1, h2⟩ := h
  exact ⟨vs, own_keepB h1 hb, fun i l e => by obtain ⟨v, e1, e2⟩ := h2 i l e; exact ⟨v, e1, own_keepB e2 hb⟩⟩
theorem Outs.look {w : World} {B : Nat} {s : Value} {L : List (List Int)} (h : Outs w B s L) : ∃ p n c, s = .slice p n c ∧ L.length = n := by
  obtain ⟨vs, h1, h2⟩ := h
  rcases h1.2 with ⟨e1, e2⟩ | ⟨g, cap, cur, e1, _⟩
  · exact ⟨none, 0, 0, e1, e2⟩
  · exact ⟨_, _, _, e1, rfl⟩
theorem Outs.nil (w : World) (B : Nat) : Outs w B (.slice none 0 0) [] := ⟨[], World.ownsRow_nil _ _ _ _, fun i l e => by simp at e⟩
/-- Appending one slice. -/
theorem wpList_app_o (w : World) {ops : Array Oper} {rest : List Oper} {o : Oper} {a : Act} {Q : Exit → Act → World → Prop} (hgd : o.guard = none) (s x : Operand) (ho : o.op = .call { callee := .builtin .append, args := #[s, x], argTypes := #[49, 49] })
    (B : Nat) (vo : Value) (L : List (List Int)) (hs : a.eval s = vo) (hown : Outs w B vo L) (g : Nat) (p : Option Addr) (m k : Nat) (S : List Int) (hx : a.eval x = .slice (some ⟨g, 0, none⟩) 1 1) (hc : w.cell? ⟨g, 0, none⟩ = some (.slice p m k)) (hS : w.ownsRow 0 2 1 (.slice p m k) S.length (intv S)) (hB : B ≤ w.heap.size) (hn : L.length ≤ 1000)
    (h : ∀ v' w', Outs w' B v' (L ++ [S]) → Kw B w w' → wpList Tryz.prog ops Q rest (a.put o.dst v') w') : wpList Tryz.prog ops Q (o :: rest) a w := by
  obtain ⟨i0, hi0, hz0, hz1, hz2⟩ := info_parts Tryz.info22
  obtain ⟨vs, h1, h2⟩ := hown
  refine wpList_append_own _ hgd s x 49 ho B 22 i0 (.slice none 0 0) 1 24 Tryz.underlying49 hi0 hz0 hz1 hz2 rfl (by decide) _ _ _ hs h1 ⟨g, 0, none⟩ 1 1 [.slice p m k] hx rfl (fun j u hj => ?_) (fun u hu => ?_) (by unfold maxLen; omega) (by omega) hB ?_
  · match j, hj with
    | 0, hj => simp at hj; subst hj; simpa [Addr.add] using hc
  · simp at hu; subst hu; rfl
  · intro v' w' g1 g2 _
    have hrow : ∀ k, vo.ownBlock = some k → B ≤ k ∧ ∃ cur, w.heap[k]? = some (.cells cur 22 (0, 0)) := fun k e => by
      rcases h1.2 with ⟨e1, _⟩ | ⟨g', cap, cur, e1, hg, hgb, _⟩
      · rw [e1] at e; cases e
      · rw [e1] at e
        injection e with e
        subst e
        exact ⟨hg, cur, hgb⟩
    have hk : Kw B w w' := ⟨(Below.refl _ w).grown g2 hB (fun k e => (hrow k e).1), fun g' cs t ht e => by
      refine (g2.block g' (Array.getElem?_eq_some_iff.1 e).1 fun e9 => ?_).trans e
      obtain ⟨_, cur, e8⟩ := hrow g' e9.symm
      rw [e] at e8
      injection e8 with e8
      injection e8 with _ e8 _
      exact ht e8⟩
    refine h v' w' ⟨vs ++ [.slice p m k], by rw [List.length_append]; exact g1, fun i l e => ?_⟩ hk
    have hvl : vs.length = L.length := by have := h1.1; omega
    by_cases hi : i < L.length
    · rw [List.getElem?_append_left hi] at e
      obtain ⟨v, e1, e2⟩ := h2 i l e
      exact ⟨v, by rw [List.getElem?_append_left (by omega)]; exact e1, hk.row e2⟩
    · rw [List.getElem?_append_right (by omega)] at e
      have hi2 : i - L.length = 0 := by
        apply Classical.byContradiction; intro hne
        rw [List.getElem?_eq_none (by simp; omega)] at e
        cases e
      rw [hi2] at e
      simp at e
      subst e
      exact ⟨.slice p m k, by rw [List.getElem?_append_right (by omega), hvl, hi2]; rfl, hk.row hS⟩
theorem head_set {d : SD} (hr : RightD d) {head : List Int} {at0 : Nat} (h : head.Sublist (d.up.take at0)) : IsSet head := sub_set hr.2.2.2.1 (h.trans (List.take_sublist _ _))
theorem head_has {d : SD} (hr : RightD d) {head : List Int} {at0 : Nat} (h : head.Sublist (d.up.take at0)) : hasD d head = Qd d.lo d.least d.most head := by
  rw [Bool.eq_iff_iff, has_iff, Qd_iff, tkS_yes (head_set hr h)]
  exact ⟨fun ⟨_, h1, _, h3, h4⟩ => ⟨h1, h3, h4⟩, fun ⟨h1, h3, h4⟩ => ⟨hr, h1, fun x hx => List.mem_of_mem_take (h.subset hx), h3, h4⟩⟩
theorem head_more {up head : List Int} {at0 k : Nat} (h : head.Sublist (up.take at0)) (hk : at0 ≤ k) (hl : k < up.length) : (head ++ [nth up k]).Sublist (up.take (k + 1)) := by
  rw [List.take_succ_eq_append_getElem hl]
  have e : nth up k = up[k] := by simp [nth, hl]
  rw [e]
  refine List.Sublist.append (h.trans ?_) (List.Sublist.refl _)
  rw [show up.take at0 = (up.take k).take at0 by rw [List.take_take, Nat.min_eq_left hk]]
  exact List.take_sublist _ _
theorem head_apart {up head : List Int} {at0 k : Nat} (hu : up.Pairwise (· < ·)) (h : head.Sublist (up.take at0)) (hk : at0 ≤ k) : ∀ x ∈ up.drop k, ¬ x ∈ head := fun x hx hm => by
  have h1 : x ∈ up.take k := by
    have := h.subset hm
    rw [show up.take at0 = (up.take k).take at0 by rw [List.take_take, Nat.min_eq_left hk]] at this
    exact List.mem_of_mem_take this
  have h2 : (up.take k ++ up.drop k).Pairwise (· < ·) := by rw [List.take_append_drop]; exact hu
  exact Int.lt_irrefl _ ((List.pairwise_append.1 h2).2.2 x h1 x hx)

set_option maxRecDepth 100000 in
set_option maxHeartbeats 4000000 in
theorem walkN (Wb : World) (lim : Nat) (hlim : lim ≤ 1000) : ∀ (f : Nat) (v hv ov : Value) (d : SD) (head : List Int) (at0 : Nat) (L0 : List (List Int)) (W : World), d.up.length - at0 ≤ f → Di Wb v d → Below Wb.heap.size Wb W → W.ownsRow 0 2 1 hv head.length (intv head) → Outs W Wb.heap.size ov L0 →
    (RightD d ∧ (d.lo.length : Int) ≤ d.least ∧ d.least ≤ d.most ∧ d.most ≤ d.up.length) → head.Sublist (d.up.take at0) → at0 ≤ d.up.length → L0.length ≤ lim →
    Calls Tryz.prog 81 #[v, hv, .int .i64 (at0 : Int), .int .i64 (lim : Int), ov] W fun e w' => ∃ s, e = .returned s ∧ Outs w' Wb.heap.size s ((L0 ++ RO d.lo d.least d.most head (d.up.drop at0)).take lim) ∧ Kw Wb.heap.size W w' := by
  intro f
  induction f using Nat.strongRecOn
  rename_i f IH
  intro v hv ov d head at0 L0 W hf h hbW hh hO hne hsub hat hL0
  have HIH : Hid _ := IH
  clear IH
  have HF : Hid (d.up.length - at0 ≤ f) := hf
  have hu64 := hne.1.2.2.2.1.1
  have HNE : Hid (RightD d ∧ (d.lo.length : Int) ≤ d.least ∧ d.least ≤ d.most ∧ d.most ≤ d.up.length) := hne
  have HPW : Hid (d.up.Pairwise (· < ·)) := set_pw hne.1.2.2.2.1
  have HSB : Hid (head.Sublist (d.up.take at0)) := hsub
  have hhl : head.length ≤ 64 := (head_set hne.1 hsub).1
  have k45 := fun X (hX : Below W.heap.size W X) => refhas_dom v hv d head X (h.below (hbW.trans (hX.mono hbW.size))) ((own_si hh).below hX)
  rw [has_same, head_has hne.1 hsub] at k45
  have HDI : Hid (∀ X, Below Wb.heap.size Wb X → Di X v d) := fun X hX => h.below hX
  have HD0 : Hid (Di Wb v d) := h
  obtain ⟨ha, hc, rfl⟩ := own_slice hh
  obtain ⟨hn, hhn⟩ : ∃ n, head.length = n := ⟨_, rfl⟩
  have HHN : Hid (head.length = hn) := hhn
  have HH : Hid (W.ownsRow 0 2 1 (.slice ha head.length hc) head.length (intv head)) := hh
  rw [hhn] at hhl k45 HH ⊢
  obtain ⟨x0a, raa, rna, rca, a1a, n1a, c1a, a2a, n2a, c2a, x4a, x5a, rfl, HEa, HLOa, HUPa⟩ := h.look
  obtain ⟨p0, n0, c0, rfl, hn0⟩ := hO.look
  have HN2 : Hid (d.up.length = n2a) := HEa.out.2.2.1
  have HE4 : Hid (d.least = x4a) := HEa.out.2.2.2.1
  have HE5 : Hid (d.most = x5a) := HEa.out.2.2.2.2.1
  have hx4 : 0 ≤ x4a := by rw [← HE4.out]; omega
  have hx45 : x4a ≤ x5a := by rw [← HE4.out, ← HE5.out]; omega
  have hx5 : x5a ≤ (n2a : Int) := by rw [← HE5.out, ← HN2.out]; omega
  rw [HN2.out] at hu64 hat
  have HO0 : Hid (Outs W Wb.heap.size (.slice p0 n0 c0) L0) := hO
  have HL0 : Hid (L0.length = n0) := hn0
  rw [hn0] at hL0
  obtain ⟨w0, hW0⟩ : ∃ X, (W.alloc (Obj.cells #[.bool x0a, .slice raa rna rca, .slice a1a n1a c1a, .slice a2a n2a c2a, .int .i64 x4a, .int .i64 x5a] 37)) = X := ⟨_, rfl⟩
  have HW0 : Hid _ := hW0
  have hb0 : Below W.heap.size W w0 := by rw [← hW0]; exact ((Below.refl _ W).alloc (by simp <;> omega) _)
  have HA_0 : Hid (R6 w0 W.heap.size (.bool x0a) (.slice raa rna rca) (.slice a1a n1a c1a) (.slice a2a n2a c2a) (.int .i64 x4a) (.int .i64 x5a)) := by rw [← hW0]; exact (R6.new _ _ _ _ _ _ _)
  clear hW0
  clear h hh hO hne hf HEa HLOa hsub hhn hn0
  go_enter Tryz.func81, Tryz.ntmps81
  go_upto_region 1 with (fail)
  rw [HW0.out]
  clear HW0
  obtain ⟨zA0, zA1, zA2, zA3, zA4, zA5⟩ := HA_0.out.cells
  by_cases hfull : n0 < lim
  · have hfull' : (n0 : Int) < (lim : Int) := by omega
    cases hq : Qd d.lo d.least d.most head
    · simp only [hq] at k45
      go_wp2_with fail
      refine (k45 w0 hb0).mono ?_
      rintro e w1 ⟨rfl, hb⟩
      have hb1 : Below W.heap.size W w1 := hb0.trans (hb.mono hb0.size)
      have HA_1 : Hid (R6 w1 W.heap.size (.bool x0a) (.slice raa rna rca) (.slice a1a n1a c1a) (.slice a2a n2a c2a) (.int .i64 x4a) (.int .i64 x5a)) := HA_0.out.below hb
      have HKW1 : Hid (Kw Wb.heap.size W w1) := Kw.of_below hb1 hbW.size
      have HBW1 : Hid (Below Wb.heap.size Wb w1) := hbW.trans (hb1.mono hbW.size)
      obtain ⟨ps, hps⟩ : ∃ x, p0 = x := ⟨_, rfl⟩
      obtain ⟨ns, hns⟩ : ∃ x, n0 = x := ⟨_, rfl⟩
      obtain ⟨cs, hcs⟩ : ∃ x, c0 = x := ⟨_, rfl⟩
      obtain ⟨Ls, hLs⟩ : ∃ x, L0 = x := ⟨_, rfl⟩
      have hsl : ns ≤ lim := by omega
      have HS : Hid (Outs w1 Wb.heap.size (.slice ps ns cs) Ls ∧ Ls.length = ns ∧ (Ls ++ RS d.lo d.least d.most head (d.up.drop at0)).take lim = ((L0 ++ RO d.lo d.least d.most head (d.up.drop at0)).take lim)) := by
        rw [← hps, ← hns, ← hcs, ← hLs]
        exact ⟨HO0.out.below hb1, HL0.out, by unfold RO; rw [hq]; rfl⟩
      rw [hps, hns, hcs]
      clear hps hns hcs hLs hq hb hb0 hb1 HA_0 zA0 zA1 zA2 zA3 zA4 zA5 k45 HO0 hL0 hfull hfull' HL0
      go_wp2
      go_loopw [4, 12] (fun out i wr => ∃ (k n : Nat) (p : Option Addr) (c : Nat) (L : List (List Int)), at0 ≤ k ∧ k ≤ n2a ∧ n ≤ lim ∧ i = .int .i64 (k : Int) ∧ out = .slice p n c ∧ Hid (Kw Wb.heap.size w1 wr) ∧ Hid (Outs wr Wb.heap.size (.slice p n c) L ∧ L.length = n ∧ (L ++ RS d.lo d.least d.most head (d.up.drop k)).take lim = ((L0 ++ RO d.lo d.least d.most head (d.up.drop at0)).take lim))) (fun _ i _ => n2a + 1 - (intOf i).toNat)
      case atStart => exact ⟨at0, ns, ps, cs, Ls, Nat.le_refl _, hat, hsl, rfl, rfl, Kw.refl _ _, HS.out⟩
      case round =>
        obtain ⟨k, n, p, c, L, hk1, hk2, hnl, rfl, rfl, HB, HO⟩ := hrel
        have HOL : Hid (L.length = n) := HO.out.2.1
        have HT : Hid ((L ++ RS d.lo d.least d.most head (d.up.drop k)).take lim = ((L0 ++ RO d.lo d.least d.most head (d.up.drop at0)).take lim)) := HO.out.2.2
        have HA_2 : Hid (R6 wr W.heap.size (.bool x0a) (.slice raa rna rca) (.slice a1a n1a c1a) (.slice a2a n2a c2a) (.int .i64 x4a) (.int .i64 x5a)) := HA_1.out.kw HB.out
        have HBWr : Hid (Below Wb.heap.size Wb wr) := HBW1.out.trans HB.out.b
        obtain ⟨z0, z1, z2, z3, z4, z5⟩ := HA_2.out.cells
        by_cases hl : k < n2a
        · by_cases hln : n < lim
          · by_cases hhm : (hn : Int) < x5a
            · by_cases hfew : (hn : Int) + (n2a : Int) - (k : Int) < x4a
              · have hl' : (k : Int) < (n2a : Int) := by omega
                have hln' : (n : Int) < (lim : Int) := by omega
                have hw1 : IntKind.i64.wrap ((hn : Int) + (n2a : Int)) = (hn : Int) + (n2a : Int) := by rw [IntKind.wrap_i64]; omega
                have hw2 : IntKind.i64.wrap ((hn : Int) + (n2a : Int) - (k : Int)) = (hn : Int) + (n2a : Int) - (k : Int) := by rw [IntKind.wrap_i64]; omega
                have HE9 : Hid (L = ((L0 ++ RO d.lo d.least d.most head (d.up.drop at0)).take lim)) := by
                  have h8 := HT.out
                  rw [RS_few (by rw [HHN.out, List.length_drop, HN2.out, HE4.out]; omega), List.append_nil, List.take_of_length_le (by have := HOL.out; omega)] at h8
                  exact h8
                go_wp2
                go_ret
                exact ⟨_, rfl, by rw [← HE9.out]; exact HO.out.1, HKW1.out.trans HB.out⟩
              · have hl' : (k : Int) < (n2a : Int) := by omega
                have hln' : (n : Int) < (lim : Int) := by omega
                have hw1 : IntKind.i64.wrap ((hn : Int) + (n2a : Int)) = (hn : Int) + (n2a : Int) := by rw [IntKind.wrap_i64]; omega
                have hw2 : IntKind.i64.wrap ((hn : Int) + (n2a : Int) - (k : Int)) = (hn : Int) + (n2a : Int) - (k : Int) := by rw [IntKind.wrap_i64]; omega
                have hup' := HUPa.out
                obtain ⟨p', c', e, hc'⟩ := hup'
                rw [HN2.out] at e hc'
                injection e with e1 _ e3
                subst e1 e3
                obtain ⟨b, off, rfl, hbl, hcell⟩ := hc' (by omega)
                obtain ⟨x, hx⟩ : ∃ x, nth d.up k = x := ⟨_, rfl⟩
                have hcx : Wb.cell? ⟨b, off + k, none⟩ = some (.int .i64 x) := by rw [hcell k hl, hx]
                have hkl : k < d.up.length := by rw [HN2.out]; exact hl
                have HX : Hid (d.up.drop k = x :: d.up.drop (k + 1) ∧ True) := by rw [← hx]; exact ⟨drop_cons hkl, trivial⟩
                have HXN : Hid (¬ x ∈ head) := head_apart HPW.out HSB.out hk1 x (by rw [HX.out.1]; exact List.mem_cons_self)
                have HXD : Hid (¬ x ∈ d.up.drop (k + 1)) := pw_notin (by rw [← HX.out.1]; exact HPW.out.sublist (List.drop_sublist _ _))
                have HSL : Hid ((head ++ [x]).Sublist (d.up.take (k + 1))) := by rw [← hx]; exact head_more HSB.out hk1 hkl
                clear hcell hc' hkl
                obtain ⟨M, hM⟩ : ∃ m, mn d.lo d.up (k + 1) = m := ⟨_, rfl⟩
                have hMl := mn_le d.lo d.up (k + 1)
                rw [hM, HN2.out] at hMl
                have HRO : Hid (x5a < (hn : Int) + 1 + (M : Int) → RO d.lo d.least d.most (head ++ [x]) (d.up.drop (k + 1)) = []) := fun h => by
                  refine RO_many (HPW.out.sublist (List.drop_sublist _ _)) (head_apart HPW.out HSL.out (Nat.le_refl _)) ?_
                  rw [show ((d.up.drop (k + 1)).filter fun x => d.lo.contains x).length = mn d.lo d.up (k + 1) from rfl, hM, List.length_append, HHN.out, HE5.out]
                  simp; omega
                have k106 := fun X (hX : Below Wb.heap.size Wb X) => mustn_any (.agg #[.bool x0a, .slice raa rna rca, .slice a1a n1a c1a, .slice (some ⟨b, off, none⟩) n2a c2a, .int .i64 x4a, .int .i64 x5a]) d (k + 1) X (HDI.out X hX) HNE.out.1.2.2.1 (by rw [HN2.out]; omega) (by omega)
                rw [hM, show ((k + 1 : Nat) : Int) = (k : Int) + 1 by omega] at k106
                have k26 := fun X (hX : Below Wb.heap.size Wb X) => refin_below x (.slice a1a n1a c1a) d.lo X (di_si (HDI.out X hX)).1
                rw [tkS_yes HNE.out.1.2.2.1] at k26
                obtain ⟨bb, hbb⟩ : ∃ bo, d.lo.contains x = bo := ⟨_, rfl⟩
                have HBB : Hid (d.lo.contains x = bb) := hbb
                rw [hbb] at k26
                clear hM hbb hx
                have hsh := own_si' ((HKW1.out.trans HB.out).row HH.out) HHN.out
                have hbd : head.length * 8 ≤ 140737488351232 := by rw [HHN.out]; omega
                have HO1 : Hid (Outs wr Wb.heap.size (.slice p n c) L) := HO.out.1
                go_upto_region 11 with (at_builtin; refine wpList_app_i _ rfl _ _ rfl rfl _ head rfl hsh hbd ?_; intro v9 w2 hrow hbel; obtain ⟨p9, c9, rfl⟩ := own_slice hrow; have HR9 : Hid (w2.ownsRow wr.heap.size 2 1 (.slice p9 head.length c9) head.length (intv head)) := hrow; have HA_3 : Hid (R6 w2 W.heap.size (.bool x0a) (.slice raa rna rca) (.slice a1a n1a c1a) (.slice (some ⟨b, off, none⟩) n2a c2a) (.int .i64 x4a) (.int .i64 x5a)) := HA_2.out.below hbel; have HBr2 : Hid (Below wr.heap.size wr w2) := hbel; clear hrow hbel z0 z1 z2 z3 z4 z5)
                clear hsh hbd
                have hrow3 := World.ownsRow.alloc HR9.out (Obj.cells #[.int .i64 x] 2)
                have hba := (Below.refl w2.heap.size w2).alloc (Nat.le_refl _) (Obj.cells #[.int .i64 x] 2)
                have hsz : wr.heap.size ≤ (w2.alloc (Obj.cells #[.int .i64 x] 2)).heap.size := Nat.le_trans HBr2.out.size hba.size
                obtain ⟨z0, z1, z2, z3, z4, z5⟩ := HA_3.out.cells
                have hbW2 : Below Wb.heap.size Wb w2 := HBWr.out.trans (HBr2.out.mono HBWr.out.size)
                have hcx2 := (hbW2.cell (p := ⟨b, off + k, none⟩) hbl).trans hcx
                rw [HHN.out] at hrow3 ⊢
                have HBA : Hid (Below wr.heap.size wr (w2.alloc (Obj.cells #[.int .i64 x] 2))) := HBr2.out.trans (hba.mono HBr2.out.size)
                go_upto_region 12 with (at_builtin; refine wpList_app_sr _ rfl _ _ rfl wr.heap.size _ _ head rfl hrow3 HHN.out.symm _ [x] rfl (one_si w2 x) (by rw [HHN.out]; simp; omega) hsz ?_; intro v7 w7 hown7 hbel7; obtain ⟨n7, hn7⟩ : ∃ n, head.length + [x].length = n := ⟨_, rfl⟩; rw [hn7] at hown7; obtain ⟨p7, c7, rfl⟩ := own_slice hown7; have HN8 : Hid (n7 = hn + 1) := (by unfold Hid; rw [← hn7, HHN.out]; rfl); have HR7 : Hid (w7.ownsRow wr.heap.size 2 1 (.slice p7 n7 c7) (head ++ [x]).length (intv (head ++ [x]))) := (by unfold Hid; rw [List.length_append, hn7]; exact hown7); have HBw : Hid (Below wr.heap.size wr w7) := HBA.out.trans hbel7; clear hn7 hown7 hbel7 z0 z1 z2 z3 z4 z5)
                have HA_7 : Hid (R6 w7 W.heap.size (.bool x0a) (.slice raa rna rca) (.slice a1a n1a c1a) (.slice (some ⟨b, off, none⟩) n2a c2a) (.int .i64 x4a) (.int .i64 x5a)) := HA_2.out.below HBw.out
                have HBW7 : Hid (Below Wb.heap.size Wb w7) := HBWr.out.trans (HBw.out.mono HBWr.out.size)
                have HKW7 : Hid (Kw Wb.heap.size w1 w7) := HB.out.trans (Kw.of_below HBw.out HBWr.out.size)
                have HO7 : Hid (Outs w7 Wb.heap.size (.slice p n c) L) := HO1.out.below HBw.out
                clear hrow3 hba hsz hcx2 hbW2 HA_3 HR9 HBr2 HBA HBw HA_2
                have h9a : n7 ≤ hn + 1 := by rw [HN8.out]; exact Nat.le_refl _
                have h9b : hn + 1 ≤ n7 := by rw [HN8.out]; exact Nat.le_refl _
                by_cases hmore : (hn : Int) + 1 + (M : Int) ≤ x5a
                · have hwk : IntKind.i64.wrap ((k : Int) + 1) = (k : Int) + 1 := by rw [IntKind.wrap_i64]; omega
                  have hwm : IntKind.i64.wrap ((n7 : Int) + (M : Int)) = (n7 : Int) + (M : Int) := by rw [IntKind.wrap_i64]; omega
                  have HK : ∀ X, Below w7.heap.size w7 X → R6 X W.heap.size (.bool x0a) (.slice raa rna rca) (.slice a1a n1a c1a) (.slice (some ⟨b, off, none⟩) n2a c2a) (.int .i64 x4a) (.int .i64 x5a) := fun X hX => HA_7.out.below hX
                  have hB0 : Below w7.heap.size w7 w7.drew := Below.drew (Below.refl _ _)
                  have hBW : ∀ X, Below w7.heap.size w7 X → Below Wb.heap.size Wb X := fun X hX => HBW7.out.trans (hX.mono HBW7.out.size)
                  have q12 : decide ((n7 : Int) + (M : Int) ≤ x5a) = true := by simp; omega
                  refine wp_region_held_drew (S := (fun w' => R6 w' W.heap.size (.bool x0a) (.slice raa rna rca) (.slice a1a n1a c1a) (.slice (some ⟨b, off, none⟩) n2a c2a) (.int .i64 x4a) (.int .i64 x5a))) (by kernel_rfl) (HK _ hB0) (fun hHeld => ?_)
                  refine wpAnyH_take (i := 0) (oi := { dst := some 73, op := Go.Op.move (Go.Operand.tmp 13), type := 22, pos := "ref.go:314", after := #[], guard := none }) (v := ?_) rfl (by kernel_rfl) (by kernel_rfl) (by kernel_rfl) (fun _ _ _ h => h) (Or.inl ⟨by rfl, ?_⟩) hHeld ?_
                  rotate_left
                  · intro w hSw; (try dsimp only at hSw); go_simp <;> with_reducible rfl
                  try simp only [Act.put, List.setIfInBounds_toArray, List.set_cons_zero, List.set_cons_succ]
                  refine wpAnyH_take (i := 1) (oi := { dst := some 74, op := Go.Op.call { callee := Go.Callee.builtin Go.Builtin.len, args := #[Go.Operand.tmp 73], argTypes := #[22] }, type := 3, pos := "ref.go:314", after := #[{ on := 0, ground := Go.Ground.data }], guard := none }) (v := ?_) rfl (by kernel_rfl) (by kernel_rfl) (by kernel_rfl) (fun _ _ _ h => h) (Or.inl ⟨by rfl, ?_⟩) hHeld ?_
                  rotate_left
                  · intro w hSw; (try dsimp only at hSw); go_simp <;> with_reducible rfl
                  try simp only [Act.put, List.setIfInBounds_toArray, List.set_cons_zero, List.set_cons_succ]
                  refine wpAnyH_take (i := 2) (oi := { dst := some 75, op := Go.Op.load 37 (Go.Operand.tmp 5), type := 37, pos := "ref.go:314", after := #[], guard := none }) (v := ?_) rfl (by kernel_rfl) (by kernel_rfl) (by kernel_rfl) (fun _ _ _ h => h) (Or.inl ⟨by rfl, ?_⟩) hHeld ?_
                  rotate_left
                  · intro w hSw; obtain ⟨u0, u1, u2, u3, u4, u5⟩ := hSw.cells; go_simp <;> with_reducible rfl
                  try simp only [Act.put, List.setIfInBounds_toArray, List.set_cons_zero, List.set_cons_succ]
                  refine wpAnyH_take (i := 3) (oi := { dst := some 76, op := Go.Op.move (Go.Operand.tmp 12), type := 3, pos := "ref.go:314", after := #[], guard := none }) (v := ?_) rfl (by kernel_rfl) (by kernel_rfl) (by kernel_rfl) (fun _ _ _ h => h) (Or.inl ⟨by rfl, ?_⟩) hHeld ?_
                  rotate_left
                  · intro w hSw; (try dsimp only at hSw); go_simp <;> with_reducible rfl
                  try simp only [Act.put, List.setIfInBounds_toArray, List.set_cons_zero, List.set_cons_succ]
                  refine wpAnyH_take (i := 4) (oi := { dst := some 77, op := Go.Op.binOp Go.BinOp.add 3 (Go.Operand.tmp 76) (Go.Operand.const (Go.Value.int Go.IntKind.i64 1)) 3, type := 3, pos := "ref.go:314", after := #[{ on := 3, ground := Go.Ground.data }], guard := none }) (v := ?_) rfl (by kernel_rfl) (by kernel_rfl) (by kernel_rfl) (fun _ _ _ h => h) (Or.inl ⟨by rfl, ?_⟩) hHeld ?_
                  rotate_left
                  · intro w hSw; (try dsimp only at hSw); go_simp <;> with_reducible rfl
                  try simp only [Act.put, List.setIfInBounds_toArray, List.set_cons_zero, List.set_cons_succ]
                  refine wpAnyH_take (i := 7) (oi := { dst := some 80, op := Go.Op.fieldAddr 37 (Go.Operand.tmp 5) 5, type := 0, pos := "ref.go:314", after := #[], guard := none }) (v := ?_) rfl (by kernel_rfl) (by kernel_rfl) (by kernel_rfl) (fun _ _ _ h => h) (Or.inl ⟨by rfl, ?_⟩) hHeld ?_
                  rotate_left
                  · intro w hSw; (try dsimp only at hSw); go_simp <;> with_reducible rfl
                  try simp only [Act.put, List.setIfInBounds_toArray, List.set_cons_zero, List.set_cons_succ]
                  refine wpAnyH_take (i := 8) (oi := { dst := some 81, op := Go.Op.load 3 (Go.Operand.tmp 80), type := 3, pos := "ref.go:314", after := #[{ on := 7, ground := Go.Ground.data }], guard := none }) (v := ?_) rfl (by kernel_rfl) (by kernel_rfl) (by kernel_rfl) (fun _ _ _ h => h) (Or.inl ⟨by rfl, ?_⟩) hHeld ?_
                  rotate_left
                  · intro w hSw; obtain ⟨u0, u1, u2, u3, u4, u5⟩ := hSw.cells; go_simp <;> with_reducible rfl
                  try simp only [Act.put, List.setIfInBounds_toArray, List.set_cons_zero, List.set_cons_succ]
                  refine wpAnyH_ready (rs := [5]) (by kernel_rfl) (by simp) ?_
                  refine AllReadyH.cons rfl (fun K hK => ?_) AllReadyH.nil
                  go_simp
                  refine (k106 _ (hBW _ hB0)).mono ?_
                  rintro e w8 ⟨rfl, hb⟩
                  have hB8 : Below w7.heap.size w7 w8 := hB0.trans (hb.mono hB0.size)
                  clear hb
                  refine hK.out _ _ (HK _ hB8) (fun hHeld2 => ?_)
                  clear hK K hHeld
                  have hHeld := hHeld2
                  clear hHeld2
                  try simp only [Act.put, List.setIfInBounds_toArray, List.set_cons_zero, List.set_cons_succ]
                  refine wpAnyH_take (i := 6) (oi := { dst := some 79, op := Go.Op.binOp Go.BinOp.add 3 (Go.Operand.tmp 74) (Go.Operand.tmp 78) 3, type := 3, pos := "ref.go:314", after := #[{ on := 1, ground := Go.Ground.data }, { on := 5, ground := Go.Ground.data }], guard := none }) (v := ?_) rfl (by kernel_rfl) (by kernel_rfl) (by kernel_rfl) (fun _ _ _ h => h) (Or.inl ⟨by rfl, ?_⟩) hHeld ?_
                  rotate_left
                  · intro w hSw; (try dsimp only at hSw); go_simp <;> with_reducible rfl
                  try simp only [Act.put, List.setIfInBounds_toArray, List.set_cons_zero, List.set_cons_succ]
                  refine wpAnyH_take (i := 9) (oi := { dst := some 82, op := Go.Op.binOp Go.BinOp.leq 3 (Go.Operand.tmp 79) (Go.Operand.tmp 81) 3, type := 4, pos := "ref.go:314", after := #[{ on := 6, ground := Go.Ground.data }, { on := 8, ground := Go.Ground.data }], guard := none }) (v := ?_) rfl (by kernel_rfl) (by kernel_rfl) (by kernel_rfl) (fun _ _ _ h => h) (Or.inl ⟨by rfl, ?_⟩) hHeld ?_
                  rotate_left
                  · intro w hSw; (try dsimp only at hSw); go_simp <;> with_reducible rfl
                  try simp only [Act.put, List.setIfInBounds_toArray, List.set_cons_zero, List.set_cons_succ]
                  refine wpAnyH_done (by kernel_rfl) ?_ _
                  skip
                  have HA_8 : Hid (R6 w8 W.heap.size (.bool x0a) (.slice raa rna rca) (.slice a1a n1a c1a) (.slice (some ⟨b, off, none⟩) n2a c2a) (.int .i64 x4a) (.int .i64 x5a)) := HA_7.out.below hB8
                  have HBW8 : Hid (Below Wb.heap.size Wb w8) := hBW _ hB8
                  have HKW8 : Hid (Kw Wb.heap.size w1 w8) := HKW7.out.trans (Kw.of_below hB8 HBW7.out.size)
                  have HO8 : Hid (Outs w8 Wb.heap.size (.slice p n c) L) := HO7.out.below hB8
                  have kIH := HIH.out (d.up.length - (k + 1)) (by have := HF.out; rw [HN2.out] at this ⊢; omega) (.agg #[.bool x0a, .slice raa rna rca, .slice a1a n1a c1a, .slice (some ⟨b, off, none⟩) n2a c2a, .int .i64 x4a, .int .i64 x5a]) (.slice p7 n7 c7) (.slice p n c) d (head ++ [x]) (k + 1) L w8 (Nat.le_refl _) HD0.out HBW8.out (own_base (own_keepB HR7.out hB8) (Nat.zero_le _)) HO8.out HNE.out HSL.out (by rw [HN2.out]; omega) (by have := HOL.out; omega)
                  rw [show ((k + 1 : Nat) : Int) = (k : Int) + 1 by omega] at kIH
                  obtain ⟨z0, z1, z2, z3, z4, z5⟩ := HA_8.out.cells
                  go_wp2_with fail
                  refine kIH.mono ?_
                  rintro e w9 ⟨s9, rfl, hO9, hk9⟩
                  obtain ⟨p9, n9, c9, rfl, hl9⟩ := hO9.look
                  obtain ⟨L9, hL9⟩ : ∃ X, (L ++ RO d.lo d.least d.most (head ++ [x]) (d.up.drop (k + 1))).take lim = X := ⟨_, rfl⟩
                  have h9n : n9 ≤ lim := by rw [← hl9, List.length_take]; exact Nat.min_le_left _ _
                  rw [hL9] at hO9 hl9
                  have HO9 : Hid (Outs w9 Wb.heap.size (.slice p9 n9 c9) L9 ∧ L9.length = n9 ∧ n9 ≤ lim) := ⟨hO9, hl9, h9n⟩
                  have HT9 : Hid ((L9 ++ RS d.lo d.least d.most head (d.up.drop (k + 1))).take lim = ((L0 ++ RO d.lo d.least d.most head (d.up.drop at0)).take lim)) := by
                    unfold Hid
                    rw [← hL9, take_again, List.append_assoc, ← RS_cons, ← HX.out.1]
                    exact HT.out
                  have HA_9 : Hid (R6 w9 W.heap.size (.bool x0a) (.slice raa rna rca) (.slice a1a n1a c1a) (.slice (some ⟨b, off, none⟩) n2a c2a) (.int .i64 x4a) (.int .i64 x5a)) := HA_8.out.kw hk9
                  have HBW9 : Hid (Below Wb.heap.size Wb w9) := HBW8.out.trans hk9.b
                  have HKW9 : Hid (Kw Wb.heap.size w1 w9) := HKW8.out.trans hk9
                  clear hk9 hO9 hl9 hL9 z0 z1 z2 z3 z4 z5
                  go_upto_region 14 with (fail)
                  clear kIH
                  have HK4 : ∀ X, Below w9.heap.size w9 X → X.cell? ⟨W.heap.size, 2, none⟩ = some (.slice a1a n1a c1a) ∧ X.cell? ⟨W.heap.size, 3, none⟩ = some (.slice (some ⟨b, off, none⟩) n2a c2a) ∧ X.cell? ⟨b, off + k, none⟩ = some (.int .i64 x) := fun X hX => by
                    obtain ⟨_, _, c2, c3, _, _⟩ := (HA_9.out.below hX).cells
                    exact ⟨c2, c3, ((HBW9.out.trans (hX.mono HBW9.out.size)).cell (p := ⟨b, off + k, none⟩) hbl).trans hcx⟩
                  have hD0 : Below w9.heap.size w9 w9.drew := Below.drew (Below.refl _ _)
                  have hBW4 : ∀ X, Below w9.heap.size w9 X → Below Wb.heap.size Wb X := fun X hX => HBW9.out.trans (hX.mono HBW9.out.size)
                  refine wp_region_held_drew (S := (fun w' => w'.cell? ⟨W.heap.size, 2, none⟩ = some (.slice a1a n1a c1a) ∧ w'.cell? ⟨W.heap.size, 3, none⟩ = some (.slice (some ⟨b, off, none⟩) n2a c2a) ∧ w'.cell? ⟨b, off + k, none⟩ = some (.int .i64 x))) (by kernel_rfl) (HK4 _ hD0) (fun hHeld => ?_)
                  refine wpAnyH_take (i := 0) (oi := { dst := some 90, op := Go.Op.fieldAddr 37 (Go.Operand.tmp 5) 3, type := 0, pos := "ref.go:317", after := #[], guard := none }) (v := ?_) rfl (by kernel_rfl) (by kernel_rfl) (by kernel_rfl) (fun _ _ _ h => h) (Or.inl ⟨by rfl, ?_⟩) hHeld ?_
                  rotate_left
                  · intro w hSw; (try dsimp only at hSw); go_simp <;> with_reducible rfl
                  try simp only [Act.put, List.setIfInBounds_toArray, List.set_cons_zero, List.set_cons_succ]
                  refine wpAnyH_take (i := 1) (oi := { dst := some 91, op := Go.Op.load 22 (Go.Operand.tmp 90), type := 22, pos := "ref.go:317", after := #[{ on := 0, ground := Go.Ground.data }], guard := none }) (v := ?_) rfl (by kernel_rfl) (by kernel_rfl) (by kernel_rfl) (fun _ _ _ h => h) (Or.inl ⟨by rfl, ?_⟩) hHeld ?_
                  rotate_left
                  · intro w hSw; (try dsimp only at hSw); go_simp <;> with_reducible rfl
                  try simp only [Act.put, List.setIfInBounds_toArray, List.set_cons_zero, List.set_cons_succ]
                  refine wpAnyH_take (i := 2) (oi := { dst := some 92, op := Go.Op.move (Go.Operand.tmp 12), type := 3, pos := "ref.go:317", after := #[], guard := none }) (v := ?_) rfl (by kernel_rfl) (by kernel_rfl) (by kernel_rfl) (fun _ _ _ h => h) (Or.inl ⟨by rfl, ?_⟩) hHeld ?_
                  rotate_left
                  · intro w hSw; (try dsimp only at hSw); go_simp <;> with_reducible rfl
                  try simp only [Act.put, List.setIfInBounds_toArray, List.set_cons_zero, List.set_cons_succ]
                  refine wpAnyH_take (i := 5) (oi := { dst := some 95, op := Go.Op.fieldAddr 37 (Go.Operand.tmp 5) 2, type := 0, pos := "ref.go:317", after := #[], guard := none }) (v := ?_) rfl (by kernel_rfl) (by kernel_rfl) (by kernel_rfl) (fun _ _ _ h => h) (Or.inl ⟨by rfl, ?_⟩) hHeld ?_
                  rotate_left
                  · intro w hSw; (try dsimp only at hSw); go_simp <;> with_reducible rfl
                  try simp only [Act.put, List.setIfInBounds_toArray, List.set_cons_zero, List.set_cons_succ]
                  refine wpAnyH_take (i := 6) (oi := { dst := some 96, op := Go.Op.load 22 (Go.Operand.tmp 95), type := 22, pos := "ref.go:317", after := #[{ on := 5, ground := Go.Ground.data }], guard := none }) (v := ?_) rfl (by kernel_rfl) (by kernel_rfl) (by kernel_rfl) (fun _ _ _ h => h) (Or.inl ⟨by rfl, ?_⟩) hHeld ?_
                  rotate_left
                  · intro w hSw; (try dsimp only at hSw); go_simp <;> with_reducible rfl
                  try simp only [Act.put, List.setIfInBounds_toArray, List.set_cons_zero, List.set_cons_succ]
                  refine wpAnyH_ready (rs := [3]) (by kernel_rfl) (by simp) ?_
                  refine AllReadyH.cons rfl (fun K hK => ?_) AllReadyH.nil
                  go_simp
                  refine hK.out _ _ (HK4 _ hD0) (fun hHeld2 => ?_)
                  clear hK K hHeld
                  have hHeld := hHeld2
                  clear hHeld2
                  try simp only [Act.put, List.setIfInBounds_toArray, List.set_cons_zero, List.set_cons_succ]
                  refine wpAnyH_take (i := 4) (oi := { dst := some 94, op := Go.Op.load 2 (Go.Operand.tmp 93), type := 2, pos := "ref.go:317", after := #[{ on := 3, ground := Go.Ground.data }], guard := none }) (v := ?_) rfl (by kernel_rfl) (by kernel_rfl) (by kernel_rfl) (fun _ _ _ h => h) (Or.inl ⟨by rfl, ?_⟩) hHeld ?_
                  rotate_left
                  · intro w hSw; (try dsimp only at hSw); go_simp <;> with_reducible rfl
                  try simp only [Act.put, List.setIfInBounds_toArray, List.set_cons_zero, List.set_cons_succ]
                  refine wpAnyH_ready (rs := [7]) (by kernel_rfl) (by simp) ?_
                  refine AllReadyH.cons rfl (fun K hK => ?_) AllReadyH.nil
                  go_simp
                  refine (k26 _ (hBW4 _ hD0)).mono ?_
                  rintro e w20 ⟨rfl, hb⟩
                  have hD1 : Below w9.heap.size w9 w20 := hD0.trans (hb.mono hD0.size)
                  clear hb
                  refine hK.out _ _ (HK4 _ hD1) (fun hHeld2 => ?_)
                  clear hK K hHeld
                  have hHeld := hHeld2
                  clear hHeld2
                  try simp only [Act.put, List.setIfInBounds_toArray, List.set_cons_zero, List.set_cons_succ]
                  refine wpAnyH_done (by kernel_rfl) ?_ _
                  have HK20 : Hid (Kw Wb.heap.size w1 w20) := HKW9.out.trans (Kw.of_below hD1 HBW9.out.size)
                  have HO20 : Hid _ := HO9.out.1.below hD1
                  cases bb
                  · go_wp2
                    go_roundw
                    case rel => exact ⟨k + 1, _, _, _, L9, by omega, by omega, h9n, by go_num, rfl, HK20.out, HO20.out, HO9.out.2.1, HT9.out⟩
                    case measure => simp [intOf]; omega
                  · have HE9 : Hid (L9 = ((L0 ++ RO d.lo d.least d.most head (d.up.drop at0)).take lim)) := by
                      have h8 := HT9.out
                      rw [RS_of_RO (RS_gone (x := x) (by simpa using HBB.out) (HXN.out) (HXD.out)), List.append_nil, List.take_of_length_le (by have := HO9.out.2.1; omega)] at h8
                      exact h8
                    go_wp2
                    go_ret
                    exact ⟨_, rfl, by rw [← HE9.out]; exact HO20.out, HKW1.out.trans HK20.out⟩
                · have hwk : IntKind.i64.wrap ((k : Int) + 1) = (k : Int) + 1 := by rw [IntKind.wrap_i64]; omega
                  have hwm : IntKind.i64.wrap ((n7 : Int) + (M : Int)) = (n7 : Int) + (M : Int) := by rw [IntKind.wrap_i64]; omega
                  have HK : ∀ X, Below w7.heap.size w7 X → R6 X W.heap.size (.bool x0a) (.slice raa rna rca) (.slice a1a n1a c1a) (.slice (some ⟨b, off, none⟩) n2a c2a) (.int .i64 x4a) (.int .i64 x5a) := fun X hX => HA_7.out.below hX
                  have hB0 : Below w7.heap.size w7 w7.drew := Below.drew (Below.refl _ _)
                  have hBW : ∀ X, Below w7.heap.size w7 X → Below Wb.heap.size Wb X := fun X hX => HBW7.out.trans (hX.mono HBW7.out.size)
                  have q12 : decide ((n7 : Int) + (M : Int) ≤ x5a) = false := by simp; omega
                  refine wp_region_held_drew (S := (fun w' => R6 w' W.heap.size (.bool x0a) (.slice raa rna rca) (.slice a1a n1a c1a) (.slice (some ⟨b, off, none⟩) n2a c2a) (.int .i64 x4a) (.int .i64 x5a))) (by kernel_rfl) (HK _ hB0) (fun hHeld => ?_)
                  refine wpAnyH_take (i := 0) (oi := { dst := some 73, op := Go.Op.move (Go.Operand.tmp 13), type := 22, pos := "ref.go:314", after := #[], guard := none }) (v := ?_) rfl (by kernel_rfl) (by kernel_rfl) (by kernel_rfl) (fun _ _ _ h => h) (Or.inl ⟨by rfl, ?_⟩) hHeld ?_
                  rotate_left
                  · intro w hSw; (try dsimp only at hSw); go_simp <;> with_reducible rfl
                  try simp only [Act.put, List.setIfInBounds_toArray, List.set_cons_zero, List.set_cons_succ]
                  refine wpAnyH_take (i := 1) (oi := { dst := some 74, op := Go.Op.call { callee := Go.Callee.builtin Go.Builtin.len, args := #[Go.Operand.tmp 73], argTypes := #[22] }, type := 3, pos := "ref.go:314", after := #[{ on := 0, ground := Go.Ground.data }], guard := none }) (v := ?_) rfl (by kernel_rfl) (by kernel_rfl) (by kernel_rfl) (fun _ _ _ h => h) (Or.inl ⟨by rfl, ?_⟩) hHeld ?_
                  rotate_left
                  · intro w hSw; (try dsimp only at hSw); go_simp <;> with_reducible rfl
                  try simp only [Act.put, List.setIfInBounds_toArray, List.set_cons_zero, List.set_cons_succ]
                  refine wpAnyH_take (i := 2) (oi := { dst := some 75, op := Go.Op.load 37 (Go.Operand.tmp 5), type := 37, pos := "ref.go:314", after := #[], guard := none }) (v := ?_) rfl (by kernel_rfl) (by kernel_rfl) (by kernel_rfl) (fun _ _ _ h => h) (Or.inl ⟨by rfl, ?_⟩) hHeld ?_
                  rotate_left
                  · intro w hSw; obtain ⟨u0, u1, u2, u3, u4, u5⟩ := hSw.cells; go_simp <;> with_reducible rfl
                  try simp only [Act.put, List.setIfInBounds_toArray, List.set_cons_zero, List.set_cons_succ]
                  refine wpAnyH_take (i := 3) (oi := { dst := some 76, op := Go.Op.move (Go.Operand.tmp 12), type := 3, pos := "ref.go:314", after := #[], guard := none }) (v := ?_) rfl (by kernel_rfl) (by kernel_rfl) (by kernel_rfl) (fun _ _ _ h => h) (Or.inl ⟨by rfl, ?_⟩) hHeld ?_
                  rotate_left
                  · intro w hSw; (try dsimp only at hSw); go_simp <;> with_reducible rfl
                  try simp only [Act.put, List.setIfInBounds_toArray, List.set_cons_zero, List.set_cons_succ]
                  refine wpAnyH_take (i := 4) (oi := { dst := some 77, op := Go.Op.binOp Go.BinOp.add 3 (Go.Operand.tmp 76) (Go.Operand.const (Go.Value.int Go.IntKind.i64 1)) 3, type := 3, pos := "ref.go:314", after := #[{ on := 3, ground := Go.Ground.data }], guard := none }) (v := ?_) rfl (by kernel_rfl) (by kernel_rfl) (by kernel_rfl) (fun _ _ _ h => h) (Or.inl ⟨by rfl, ?_⟩) hHeld ?_
                  rotate_left
                  · intro w hSw; (try dsimp only at hSw); go_simp <;> with_reducible rfl
                  try simp only [Act.put, List.setIfInBounds_toArray, List.set_cons_zero, List.set_cons_succ]
                  refine wpAnyH_take (i := 7) (oi := { dst := some 80, op := Go.Op.fieldAddr 37 (Go.Operand.tmp 5) 5, type := 0, pos := "ref.go:314", after := #[], guard := none }) (v := ?_) rfl (by kernel_rfl) (by kernel_rfl) (by kernel_rfl) (fun _ _ _ h => h) (Or.inl ⟨by rfl, ?_⟩) hHeld ?_
                  rotate_left
                  · intro w hSw; (try dsimp only at hSw); go_simp <;> with_reducible rfl
                  try simp only [Act.put, List.setIfInBounds_toArray, List.set_cons_zero, List.set_cons_succ]
                  refine wpAnyH_take (i := 8) (oi := { dst := some 81, op := Go.Op.load 3 (Go.Operand.tmp 80), type := 3, pos := "ref.go:314", after := #[{ on := 7, ground := Go.Ground.data }], guard := none }) (v := ?_) rfl (by kernel_rfl) (by kernel_rfl) (by kernel_rfl) (fun _ _ _ h => h) (Or.inl ⟨by rfl, ?_⟩) hHeld ?_
                  rotate_left
                  · intro w hSw; obtain ⟨u0, u1, u2, u3, u4, u5⟩ := hSw.cells; go_simp <;> with_reducible rfl
                  try simp only [Act.put, List.setIfInBounds_toArray, List.set_cons_zero, List.set_cons_succ]
                  refine wpAnyH_ready (rs := [5]) (by kernel_rfl) (by simp) ?_
                  refine AllReadyH.cons rfl (fun K hK => ?_) AllReadyH.nil
                  go_simp
                  refine (k106 _ (hBW _ hB0)).mono ?_
                  rintro e w8 ⟨rfl, hb⟩
                  have hB8 : Below w7.heap.size w7 w8 := hB0.trans (hb.mono hB0.size)
                  clear hb
                  refine hK.out _ _ (HK _ hB8) (fun hHeld2 => ?_)
                  clear hK K hHeld
                  have hHeld := hHeld2
                  clear hHeld2
                  try simp only [Act.put, List.setIfInBounds_toArray, List.set_cons_zero, List.set_cons_succ]
                  refine wpAnyH_take (i := 6) (oi := { dst := some 79, op := Go.Op.binOp Go.BinOp.add 3 (Go.Operand.tmp 74) (Go.Operand.tmp 78) 3, type := 3, pos := "ref.go:314", after := #[{ on := 1, ground := Go.Ground.data }, { on := 5, ground := Go.Ground.data }], guard := none }) (v := ?_) rfl (by kernel_rfl) (by kernel_rfl) (by kernel_rfl) (fun _ _ _ h => h) (Or.inl ⟨by rfl, ?_⟩) hHeld ?_
                  rotate_left
                  · intro w hSw; (try dsimp only at hSw); go_simp <;> with_reducible rfl
                  try simp only [Act.put, List.setIfInBounds_toArray, List.set_cons_zero, List.set_cons_succ]
                  refine wpAnyH_take (i := 9) (oi := { dst := some 82, op := Go.Op.binOp Go.BinOp.leq 3 (Go.Operand.tmp 79) (Go.Operand.tmp 81) 3, type := 4, pos := "ref.go:314", after := #[{ on := 6, ground := Go.Ground.data }, { on := 8, ground := Go.Ground.data }], guard := none }) (v := ?_) rfl (by kernel_rfl) (by kernel_rfl) (by kernel_rfl) (fun _ _ _ h => h) (Or.inl ⟨by rfl, ?_⟩) hHeld ?_
                  rotate_left
                  · intro w hSw; (try dsimp only at hSw); go_simp <;> with_reducible rfl
                  try simp only [Act.put, List.setIfInBounds_toArray, List.set_cons_zero, List.set_cons_succ]
                  refine wpAnyH_done (by kernel_rfl) ?_ _
                  skip
                  have HA_9 : Hid (R6 w8 W.heap.size (.bool x0a) (.slice raa rna rca) (.slice a1a n1a c1a) (.slice (some ⟨b, off, none⟩) n2a c2a) (.int .i64 x4a) (.int .i64 x5a)) := HA_7.out.below hB8
                  have HBW9 : Hid (Below Wb.heap.size Wb w8) := hBW _ hB8
                  have HKW9 : Hid (Kw Wb.heap.size w1 w8) := HKW7.out.trans (Kw.of_below hB8 HBW7.out.size)
                  obtain ⟨L9, hL9⟩ : ∃ X, L = X := ⟨_, rfl⟩
                  have h9n : n ≤ lim := hnl
                  have HO9 : Hid (Outs w8 Wb.heap.size (.slice p n c) L9 ∧ L9.length = n ∧ n ≤ lim) := by rw [← hL9]; exact ⟨HO7.out.below hB8, HOL.out, h9n⟩
                  have HT9 : Hid ((L9 ++ RS d.lo d.least d.most head (d.up.drop (k + 1))).take lim = ((L0 ++ RO d.lo d.least d.most head (d.up.drop at0)).take lim)) := by
                    unfold Hid
                    have h8 := HT.out
                    rw [HX.out.1, RS_cons, HRO.out (by omega), List.nil_append] at h8
                    rw [← hL9]; exact h8
                  clear hL9
                  go_upto_region 14 with (fail)
                  have HK4 : ∀ X, Below w8.heap.size w8 X → X.cell? ⟨W.heap.size, 2, none⟩ = some (.slice a1a n1a c1a) ∧ X.cell? ⟨W.heap.size, 3, none⟩ = some (.slice (some ⟨b, off, none⟩) n2a c2a) ∧ X.cell? ⟨b, off + k, none⟩ = some (.int .i64 x) := fun X hX => by
                    obtain ⟨_, _, c2, c3, _, _⟩ := (HA_9.out.below hX).cells
                    exact ⟨c2, c3, ((HBW9.out.trans (hX.mono HBW9.out.size)).cell (p := ⟨b, off + k, none⟩) hbl).trans hcx⟩
                  have hD0 : Below w8.heap.size w8 w8.drew := Below.drew (Below.refl _ _)
                  have hBW4 : ∀ X, Below w8.heap.size w8 X → Below Wb.heap.size Wb X := fun X hX => HBW9.out.trans (hX.mono HBW9.out.size)
                  refine wp_region_held_drew (S := (fun w' => w'.cell? ⟨W.heap.size, 2, none⟩ = some (.slice a1a n1a c1a) ∧ w'.cell? ⟨W.heap.size, 3, none⟩ = some (.slice (some ⟨b, off, none⟩) n2a c2a) ∧ w'.cell? ⟨b, off + k, none⟩ = some (.int .i64 x))) (by kernel_rfl) (HK4 _ hD0) (fun hHeld => ?_)
                  refine wpAnyH_take (i := 0) (oi := { dst := some 90, op := Go.Op.fieldAddr 37 (Go.Operand.tmp 5) 3, type := 0, pos := "ref.go:317", after := #[], guard := none }) (v := ?_) rfl (by kernel_rfl) (by kernel_rfl) (by kernel_rfl) (fun _ _ _ h => h) (Or.inl ⟨by rfl, ?_⟩) hHeld ?_
                  rotate_left
                  · intro w hSw; (try dsimp only at hSw); go_simp <;> with_reducible rfl
                  try simp only [Act.put, List.setIfInBounds_toArray, List.set_cons_zero, List.set_cons_succ]
                  refine wpAnyH_take (i := 1) (oi := { dst := some 91, op := Go.Op.load 22 (Go.Operand.tmp 90), type := 22, pos := "ref.go:317", after := #[{ on := 0, ground := Go.Ground.data }], guard := none }) (v := ?_) rfl (by kernel_rfl) (by kernel_rfl) (by kernel_rfl) (fun _ _ _ h => h) (Or.inl ⟨by rfl, ?_⟩) hHeld ?_
                  rotate_left
                  · intro w hSw; (try dsimp only at hSw); go_simp <;> with_reducible rfl
                  try simp only [Act.put, List.setIfInBounds_toArray, List.set_cons_zero, List.set_cons_succ]
                  refine wpAnyH_take (i := 2) (oi := { dst := some 92, op := Go.Op.move (Go.Operand.tmp 12), type := 3, pos := "ref.go:317", after := #[], guard := none }) (v := ?_) rfl (by kernel_rfl) (by kernel_rfl) (by kernel_rfl) (fun _ _ _ h => h) (Or.inl ⟨by rfl, ?_⟩) hHeld ?_
                  rotate_left
                  · intro w hSw; (try dsimp only at hSw); go_simp <;> with_reducible rfl
                  try simp only [Act.put, List.setIfInBounds_toArray, List.set_cons_zero, List.set_cons_succ]
                  refine wpAnyH_take (i := 5) (oi := { dst := some 95, op := Go.Op.fieldAddr 37 (Go.Operand.tmp 5) 2, type := 0, pos := "ref.go:317", after := #[], guard := none }) (v := ?_) rfl (by kernel_rfl) (by kernel_rfl) (by kernel_rfl) (fun _ _ _ h => h) (Or.inl ⟨by rfl, ?_⟩) hHeld ?_
                  rotate_left
                  · intro w hSw; (try dsimp only at hSw); go_simp <;> with_reducible rfl
                  try simp only [Act.put, List.setIfInBounds_toArray, List.set_cons_zero, List.set_cons_succ]
                  refine wpAnyH_take (i := 6) (oi := { dst := some 96, op := Go.Op.load 22 (Go.Operand.tmp 95), type := 22, pos := "ref.go:317", after := #[{ on := 5, ground := Go.Ground.data }], guard := none }) (v := ?_) rfl (by kernel_rfl) (by kernel_rfl) (by kernel_rfl) (fun _ _ _ h => h) (Or.inl ⟨by rfl, ?_⟩) hHeld ?_
                  rotate_left
                  · intro w hSw; (try dsimp only at hSw); go_simp <;> with_reducible rfl
                  try simp only [Act.put, List.setIfInBounds_toArray, List.set_cons_zero, List.set_cons_succ]
                  refine wpAnyH_ready (rs := [3]) (by kernel_rfl) (by simp) ?_
                  refine AllReadyH.cons rfl (fun K hK => ?_) AllReadyH.nil
                  go_simp
                  refine hK.out _ _ (HK4 _ hD0) (fun hHeld2 => ?_)
                  clear hK K hHeld
                  have hHeld := hHeld2
                  clear hHeld2
                  try simp only [Act.put, List.setIfInBounds_toArray, List.set_cons_zero, List.set_cons_succ]
                  refine wpAnyH_take (i := 4) (oi := { dst := some 94, op := Go.Op.load 2 (Go.Operand.tmp 93), type := 2, pos := "ref.go:317", after := #[{ on := 3, ground := Go.Ground.data }], guard := none }) (v := ?_) rfl (by kernel_rfl) (by kernel_rfl) (by kernel_rfl) (fun _ _ _ h => h) (Or.inl ⟨by rfl, ?_⟩) hHeld ?_
                  rotate_left
                  · intro w hSw; (try dsimp only at hSw); go_simp <;> with_reducible rfl
                  try simp only [Act.put, List.setIfInBounds_toArray, List.set_cons_zero, List.set_cons_succ]
                  refine wpAnyH_ready (rs := [7]) (by kernel_rfl) (by simp) ?_
                  refine AllReadyH.cons rfl (fun K hK => ?_) AllReadyH.nil
                  go_simp
                  refine (k26 _ (hBW4 _ hD0)).mono ?_
                  rintro e w20 ⟨rfl, hb⟩
                  have hD1 : Below w8.heap.size w8 w20 := hD0.trans (hb.mono hD0.size)
                  clear hb
                  refine hK.out _ _ (HK4 _ hD1) (fun hHeld2 => ?_)
                  clear hK K hHeld
                  have hHeld := hHeld2
                  clear hHeld2
                  try simp only [Act.put, List.setIfInBounds_toArray, List.set_cons_zero, List.set_cons_succ]
                  refine wpAnyH_done (by kernel_rfl) ?_ _
                  have HK20 : Hid (Kw Wb.heap.size w1 w20) := HKW9.out.trans (Kw.of_below hD1 HBW9.out.size)
                  have HO20 : Hid _ := HO9.out.1.below hD1
                  cases bb
                  · go_wp2
                    go_roundw
                    case rel => exact ⟨k + 1, _, _, _, L9, by omega, by omega, h9n, by go_num, rfl, HK20.out, HO20.out, HO9.out.2.1, HT9.out⟩
                    case measure => simp [intOf]; omega
                  · have HE9 : Hid (L9 = ((L0 ++ RO d.lo d.least d.most head (d.up.drop at0)).take lim)) := by
                      have h8 := HT9.out
                      rw [RS_of_RO (RS_gone (x := x) (by simpa using HBB.out) (HXN.out) (HXD.out)), List.append_nil, List.take_of_length_le (by have := HO9.out.2.1; omega)] at h8
                      exact h8
                    go_wp2
                    go_ret
                    exact ⟨_, rfl, by rw [← HE9.out]; exact HO20.out, HKW1.out.trans HK20.out⟩
            · have hl' : (k : Int) < (n2a : Int) := by omega
              have hln' : (n : Int) < (lim : Int) := by omega
              have HE9 : Hid (L = ((L0 ++ RO d.lo d.least d.most head (d.up.drop at0)).take lim)) := by
                have h8 := HT.out
                rw [RS_full (by rw [HHN.out, HE5.out]; omega), List.append_nil, List.take_of_length_le (by have := HOL.out; omega)] at h8
                exact h8
              go_wp2
              go_ret
              exact ⟨_, rfl, by rw [← HE9.out]; exact HO.out.1, HKW1.out.trans HB.out⟩
          · have hl' : (k : Int) < (n2a : Int) := by omega
            have hln' : ¬ (n : Int) < (lim : Int) := by omega
            have HE9 : Hid (L = ((L0 ++ RO d.lo d.least d.most head (d.up.drop at0)).take lim)) := by
              have h8 := HT.out
              rw [List.take_append_of_le_length (by have := HOL.out; omega), List.take_of_length_le (by have := HOL.out; omega)] at h8
              exact h8
            go_wp2
            go_ret
            exact ⟨_, rfl, by rw [← HE9.out]; exact HO.out.1, HKW1.out.trans HB.out⟩
        · have hl' : ¬ (k : Int) < (n2a : Int) := by omega
          have HE9 : Hid (L = ((L0 ++ RO d.lo d.least d.most head (d.up.drop at0)).take lim)) := by
            have h8 := HT.out
            rw [List.drop_eq_nil_of_le (by rw [HN2.out]; omega), show RS d.lo d.least d.most head [] = [] from rfl, List.append_nil, List.take_of_length_le (by have := HOL.out; omega)] at h8
            exact h8
          go_wp2
          go_ret
          exact ⟨_, rfl, by rw [← HE9.out]; exact HO.out.1, HKW1.out.trans HB.out⟩
    · simp only [hq] at k45
      go_wp2_with fail
      refine (k45 w0 hb0).mono ?_
      rintro e wx ⟨rfl, hb⟩
      have hb1 : Below W.heap.size W wx := hb0.trans (hb.mono hb0.size)
      have HA_x : Hid (R6 wx W.heap.size (.bool x0a) (.slice raa rna rca) (.slice a1a n1a c1a) (.slice a2a n2a c2a) (.int .i64 x4a) (.int .i64 x5a)) := HA_0.out.below hb
      have hsh := own_si (own_keepB (show W.ownsRow 0 2 1 (.slice ha hn hc) head.length (intv head) by rw [HHN.out]; exact HH.out) hb1)
      have hbd : head.length * 8 ≤ 140737488351232 := by rw [HHN.out]; omega
      have HOx : Hid (Outs wx Wb.heap.size (.slice p0 n0 c0) L0) := HO0.out.below hb1
      have HBx : Hid (Below Wb.heap.size Wb wx) := hbW.trans (hb1.mono hbW.size)
      clear zA0 zA1 zA2 zA3 zA4 zA5 hb HA_0 hb0 k45 HO0
      go_upto_region 4 with (at_builtin; refine wpList_app_i _ rfl _ _ rfl rfl _ head rfl hsh hbd ?_; intro v9 w2 hrow hbel; obtain ⟨p9, c9, rfl⟩ := own_slice hrow; have HR9 : Hid (w2.ownsRow wx.heap.size 2 1 (.slice p9 head.length c9) head.length (intv head)) := hrow; have hb2 := hb1.trans (hbel.mono hb1.size); have HA_2 : Hid (R6 w2 W.heap.size (.bool x0a) (.slice raa rna rca) (.slice a1a n1a c1a) (.slice a2a n2a c2a) (.int .i64 x4a) (.int .i64 x5a)) := HA_x.out.below hbel; have HO2 : Hid (Outs w2 Wb.heap.size (.slice p0 n0 c0) L0) := HOx.out.below hbel; clear hrow hbel hsh HA_x HOx)
      have hba := (Below.refl w2.heap.size w2).alloc (Nat.le_refl _) (Obj.cells #[.slice p9 hn c9] 22)
      have hb3 := hb2.trans (hba.mono hb2.size)
      have hcA := cell_alloc1 w2 (.slice p9 hn c9) 22
      have hO3 := HO2.out.below hba
      have HA_3 : Hid (R6 (w2.alloc (Obj.cells #[.slice p9 hn c9] 22)) W.heap.size (.bool x0a) (.slice raa rna rca) (.slice a1a n1a c1a) (.slice a2a n2a c2a) (.int .i64 x4a) (.int .i64 x5a)) := HA_2.out.below hba
      have hR3 : (w2.alloc (Obj.cells #[.slice p9 hn c9] 22)).ownsRow 0 2 1 (.slice p9 hn c9) head.length (intv head) := own_base (own_keepB (by have := HR9.out; rw [HHN.out] at this ⊢; exact this) hba) (Nat.zero_le _)
      have hbs : Wb.heap.size ≤ (w2.alloc (Obj.cells #[.slice p9 hn c9] 22)).heap.size := Nat.le_trans hbW.size hb3.size
      rw [HHN.out]
      clear HR9 HO2 HA_2 hb2 hbd
      go_wp2_with (at_builtin; refine wpList_app_o _ rfl _ _ rfl Wb.heap.size _ L0 rfl hO3 w2.heap.size p9 _ c9 head rfl hcA hR3 hbs (by have := HL0.out; omega) ?_; intro v8 w1 hout hkw; obtain ⟨ps, ns, cs, rfl, hns⟩ := hout.look; have HO4 : Hid (Outs w1 Wb.heap.size (.slice ps ns cs) (L0 ++ [head])) := hout; have HA_1 : Hid (R6 w1 W.heap.size (.bool x0a) (.slice raa rna rca) (.slice a1a n1a c1a) (.slice a2a n2a c2a) (.int .i64 x4a) (.int .i64 x5a)) := HA_3.out.kw hkw; have HKW1 : Hid (Kw Wb.heap.size W w1) := (Kw.of_below hb3 hbW.size).trans hkw; have HNS : Hid ((L0 ++ [head]).length = ns) := hns; clear hout hkw hns hcA hO3 hR3 hbs HA_3 hba hb3 hb1)
      have HBW1 : Hid (Below Wb.heap.size Wb w1) := hbW.trans HKW1.out.b
      have hsl : ns ≤ lim := by have := HNS.out; rw [List.length_append, HL0.out] at this; simp at this; omega
      obtain ⟨Ls, hLs⟩ : ∃ x, L0 ++ [head] = x := ⟨_, rfl⟩
      have HS : Hid (Outs w1 Wb.heap.size (.slice ps ns cs) Ls ∧ Ls.length = ns ∧ (Ls ++ RS d.lo d.least d.most head (d.up.drop at0)).take lim = ((L0 ++ RO d.lo d.least d.most head (d.up.drop at0)).take lim)) := by
        rw [← hLs]
        exact ⟨HO4.out, HNS.out, by unfold RO; rw [hq, List.append_assoc]; rfl⟩
      clear hLs hq HO4 HNS hL0 hfull hfull' HL0
      go_loopw [4, 12] (fun out i wr => ∃ (k n : Nat) (p : Option Addr) (c : Nat) (L : List (List Int)), at0 ≤ k ∧ k ≤ n2a ∧ n ≤ lim ∧ i = .int .i64 (k : Int) ∧ out = .slice p n c ∧ Hid (Kw Wb.heap.size w1 wr) ∧ Hid (Outs wr Wb.heap.size (.slice p n c) L ∧ L.length = n ∧ (L ++ RS d.lo d.least d.most head (d.up.drop k)).take lim = ((L0 ++ RO d.lo d.least d.most head (d.up.drop at0)).take lim))) (fun _ i _ => n2a + 1 - (intOf i).toNat)
      case atStart => exact ⟨at0, ns, ps, cs, Ls, Nat.le_refl _, hat, hsl, rfl, rfl, Kw.refl _ _, HS.out⟩
      case round =>
        obtain ⟨k, n, p, c, L, hk1, hk2, hnl, rfl, rfl, HB, HO⟩ := hrel
        have HOL : Hid (L.length = n) := HO.out.2.1
        have HT : Hid ((L ++ RS d.lo d.least d.most head (d.up.drop k)).take lim = ((L0 ++ RO d.lo d.least d.most head (d.up.drop at0)).take lim)) := HO.out.2.2
        have HA_2 : Hid (R6 wr W.heap.size (.bool x0a) (.slice raa rna rca) (.slice a1a n1a c1a) (.slice a2a n2a c2a) (.int .i64 x4a) (.int .i64 x5a)) := HA_1.out.kw HB.out
        have HBWr : Hid (Below Wb.heap.size Wb wr) := HBW1.out.trans HB.out.b
        obtain ⟨z0, z1, z2, z3, z4, z5⟩ := HA_2.out.cells
        by_cases hl : k < n2a
        · by_cases hln : n < lim
          · by_cases hhm : (hn : Int) < x5a
            · by_cases hfew : (hn : Int) + (n2a : Int) - (k : Int) < x4a
              · have hl' : (k : Int) < (n2a : Int) := by omega
                have hln' : (n : Int) < (lim : Int) := by omega
                have hw1 : IntKind.i64.wrap ((hn : Int) + (n2a : Int)) = (hn : Int) + (n2a : Int) := by rw [IntKind.wrap_i64]; omega
                have hw2 : IntKind.i64.wrap ((hn : Int) + (n2a : Int) - (k : Int)) = (hn : Int) + (n2a : Int) - (k : Int) := by rw [IntKind.wrap_i64]; omega
                have HE9 : Hid (L = ((L0 ++ RO d.lo d.least d.most head (d.up.drop at0)).take lim)) := by
                  have h8 := HT.out
                  rw [RS_few (by rw [HHN.out, List.length_drop, HN2.out, HE4.out]; omega), List.append_nil, List.take_of_length_le (by have := HOL.out; omega)] at h8
                  exact h8
                go_wp2
                go_ret
                exact ⟨_, rfl, by rw [← HE9.out]; exact HO.out.1, HKW1.out.trans HB.out⟩
              · have hl' : (k : Int) < (n2a : Int) := by omega
                have hln' : (n : Int) < (lim : Int) := by omega
                have hw1 : IntKind.i64.wrap ((hn : Int) + (n2a : Int)) = (hn : Int) + (n2a : Int) := by rw [IntKind.wrap_i64]; omega
                have hw2 : IntKind.i64.wrap ((hn : Int) + (n2a : Int) - (k : Int)) = (hn : Int) + (n2a : Int) - (k : Int) := by rw [IntKind.wrap_i64]; omega
                have hup' := HUPa.out
                obtain ⟨p', c', e, hc'⟩ := hup'
                rw [HN2.out] at e hc'
                injection e with e1 _ e3
                subst e1 e3
                obtain ⟨b, off, rfl, hbl, hcell⟩ := hc' (by omega)
                obtain ⟨x, hx⟩ : ∃ x, nth d.up k = x := ⟨_, rfl⟩
                have hcx : Wb.cell? ⟨b, off + k, none⟩ = some (.int .i64 x) := by rw [hcell k hl, hx]
                have hkl : k < d.up.length := by rw [HN2.out]; exact hl
                have HX : Hid (d.up.drop k = x :: d.up.drop (k + 1) ∧ True) := by rw [← hx]; exact ⟨drop_cons hkl, trivial⟩
                have HXN : Hid (¬ x ∈ head) := head_apart HPW.out HSB.out hk1 x (by rw [HX.out.1]; exact List.mem_cons_self)
                have HXD : Hid (¬ x ∈ d.up.drop (k + 1)) := pw_notin (by rw [← HX.out.1]; exact HPW.out.sublist (List.drop_sublist _ _))
                have HSL : Hid ((head ++ [x]).Sublist (d.up.take (k + 1))) := by rw [← hx]; exact head_more HSB.out hk1 hkl
                clear hcell hc' hkl
                obtain ⟨M, hM⟩ : ∃ m, mn d.lo d.up (k + 1) = m := ⟨_, rfl⟩
                have hMl := mn_le d.lo d.up (k + 1)
                rw [hM, HN2.out] at hMl
                have HRO : Hid (x5a < (hn : Int) + 1 + (M : Int) → RO d.lo d.least d.most (head ++ [x]) (d.up.drop (k + 1)) = []) := fun h => by
                  refine RO_many (HPW.out.sublist (List.drop_sublist _ _)) (head_apart HPW.out HSL.out (Nat.le_refl _)) ?_
                  rw [show ((d.up.drop (k + 1)).filter fun x => d.lo.contains x).length = mn d.lo d.up (k + 1) from rfl, hM, List.length_append, HHN.out, HE5.out]
                  simp; omega
                have k106 := fun X (hX : Below Wb.heap.size Wb X) => mustn_any (.agg #[.bool x0a, .slice raa rna rca, .slice a1a n1a c1a, .slice (some ⟨b, off, none⟩) n2a c2a, .int .i64 x4a, .int .i64 x5a]) d (k + 1) X (HDI.out X hX) HNE.out.1.2.2.1 (by rw [HN2.out]; omega) (by omega)
                rw [hM, show ((k + 1 : Nat) : Int) = (k : Int) + 1 by omega] at k106
                have k26 := fun X (hX : Below Wb.heap.size Wb X) => refin_below x (.slice a1a n1a c1a) d.lo X (di_si (HDI.out X hX)).1
                rw [tkS_yes HNE.out.1.2.2.1] at k26
                obtain ⟨bb, hbb⟩ : ∃ bo, d.lo.contains x = bo := ⟨_, rfl⟩
                have HBB : Hid (d.lo.contains x = bb) := hbb
                rw [hbb] at k26
                clear hM hbb hx
                have hsh := own_si' ((HKW1.out.trans HB.out).row HH.out) HHN.out
                have hbd : head.length * 8 ≤ 140737488351232 := by rw [HHN.out]; omega
                have HO1 : Hid (Outs wr Wb.heap.size (.slice p n c) L) := HO.out.1
                go_upto_region 11 with (at_builtin; refine wpList_app_i _ rfl _ _ rfl rfl _ head rfl hsh hbd ?_; intro v9 w2 hrow hbel; obtain ⟨p9, c9, rfl⟩ := own_slice hrow; have HR9 : Hid (w2.ownsRow wr.heap.size 2 1 (.slice p9 head.length c9) head.length (intv head)) := hrow; have HA_3 : Hid (R6 w2 W.heap.size (.bool x0a) (.slice raa rna rca) (.slice a1a n1a c1a) (.slice (some ⟨b, off, none⟩) n2a c2a) (.int .i64 x4a) (.int .i64 x5a)) := HA_2.out.below hbel; have HBr2 : Hid (Below wr.heap.size wr w2) := hbel; clear hrow hbel z0 z1 z2 z3 z4 z5)
                clear hsh hbd
                have hrow3 := World.ownsRow.alloc HR9.out (Obj.cells #[.int .i64 x] 2)
                have hba := (Below.refl w2.heap.size w2).alloc (Nat.le_refl _) (Obj.cells #[.int .i64 x] 2)
                have hsz : wr.heap.size ≤ (w2.alloc (Obj.cells #[.int .i64 x] 2)).heap.size := Nat.le_trans HBr2.out.size hba.size
                obtain ⟨z0, z1, z2, z3, z4, z5⟩ := HA_3.out.cells
                have hbW2 : Below Wb.heap.size Wb w2 := HBWr.out.trans (HBr2.out.mono HBWr.out.size)
                have hcx2 := (hbW2.cell (p := ⟨b, off + k, none⟩) hbl).trans hcx
                rw [HHN.out] at hrow3 ⊢
                have HBA : Hid (Below wr.heap.size wr (w2.alloc (Obj.cells #[.int .i64 x] 2))) := HBr2.out.trans (hba.mono HBr2.out.size)
                go_upto_region 12 with (at_builtin; refine wpList_app_sr _ rfl _ _ rfl wr.heap.size _ _ head rfl hrow3 HHN.out.symm _ [x] rfl (one_si w2 x) (by rw [HHN.out]; simp; omega) hsz ?_; intro v7 w7 hown7 hbel7; obtain ⟨n7, hn7⟩ : ∃ n, head.length + [x].length = n := ⟨_, rfl⟩; rw [hn7] at hown7; obtain ⟨p7, c7, rfl⟩ := own_slice hown7; have HN8 : Hid (n7 = hn + 1) := (by unfold Hid; rw [← hn7, HHN.out]; rfl); have HR7 : Hid (w7.ownsRow wr.heap.size 2 1 (.slice p7 n7 c7) (head ++ [x]).length (intv (head ++ [x]))) := (by unfold Hid; rw [List.length_append, hn7]; exact hown7); have HBw : Hid (Below wr.heap.size wr w7) := HBA.out.trans hbel7; clear hn7 hown7 hbel7 z0 z1 z2 z3 z4 z5)
                have HA_7 : Hid (R6 w7 W.heap.size (.bool x0a) (.slice raa rna rca) (.slice a1a n1a c1a) (.slice (some ⟨b, off, none⟩) n2a c2a) (.int .i64 x4a) (.int .i64 x5a)) := HA_2.out.below HBw.out
                have HBW7 : Hid (Below Wb.heap.size Wb w7) := HBWr.out.trans (HBw.out.mono HBWr.out.size)
                have HKW7 : Hid (Kw Wb.heap.size w1 w7) := HB.out.trans (Kw.of_below HBw.out HBWr.out.size)
                have HO7 : Hid (Outs w7 Wb.heap.size (.slice p n c) L) := HO1.out.below HBw.out
                clear hrow3 hba hsz hcx2 hbW2 HA_3 HR9 HBr2 HBA HBw HA_2
                have h9a : n7 ≤ hn + 1 := by rw [HN8.out]; exact Nat.le_refl _
                have h9b : hn + 1 ≤ n7 := by rw [HN8.out]; exact Nat.le_refl _
                by_cases hmore : (hn : Int) + 1 + (M : Int) ≤ x5a
                · have hwk : IntKind.i64.wrap ((k : Int) + 1) = (k : Int) + 1 := by rw [IntKind.wrap_i64]; omega
                  have hwm : IntKind.i64.wrap ((n7 : Int) + (M : Int)) = (n7 : Int) + (M : Int) := by rw [IntKind.wrap_i64]; omega
                  have HK : ∀ X, Below w7.heap.size w7 X → R6 X W.heap.size (.bool x0a) (.slice raa rna rca) (.slice a1a n1a c1a) (.slice (some ⟨b, off, none⟩) n2a c2a) (.int .i64 x4a) (.int .i64 x5a) := fun X hX => HA_7.out.below hX
                  have hB0 : Below w7.heap.size w7 w7.drew := Below.drew (Below.refl _ _)
                  have hBW : ∀ X, Below w7.heap.size w7 X → Below Wb.heap.size Wb X := fun X hX => HBW7.out.trans (hX.mono HBW7.out.size)
                  have q12 : decide ((n7 : Int) + (M : Int) ≤ x5a) = true := by simp; omega
                  refine wp_region_held_drew (S := (fun w' => R6 w' W.heap.size (.bool x0a) (.slice raa rna rca) (.slice a1a n1a c1a) (.slice (some ⟨b, off, none⟩) n2a c2a) (.int .i64 x4a) (.int .i64 x5a))) (by kernel_rfl) (HK _ hB0) (fun hHeld => ?_)
                  refine wpAnyH_take (i := 0) (oi := { dst := some 73, op := Go.Op.move (Go.Operand.tmp 13), type := 22, pos := "ref.go:314", after := #[], guard := none }) (v := ?_) rfl (by kernel_rfl) (by kernel_rfl) (by kernel_rfl) (fun _ _ _ h => h) (Or.inl ⟨by rfl, ?_⟩) hHeld ?_
                  rotate_left
                  · intro w hSw; (try dsimp only at hSw); go_simp <;> with_reducible rfl
                  try simp only [Act.put, List.setIfInBounds_toArray, List.set_cons_zero, List.set_cons_succ]
                  refine wpAnyH_take (i := 1) (oi := { dst := some 74, op := Go.Op.call { callee := Go.Callee.builtin Go.Builtin.len, args := #[Go.Operand.tmp 73], argTypes := #[22] }, type := 3, pos := "ref.go:314", after := #[{ on := 0, ground := Go.Ground.data }], guard := none }) (v := ?_) rfl (by kernel_rfl) (by kernel_rfl) (by kernel_rfl) (fun _ _ _ h => h) (Or.inl ⟨by rfl, ?_⟩) hHeld ?_
                  rotate_left
                  · intro w hSw; (try dsimp only at hSw); go_simp <;> with_reducible rfl
                  try simp only [Act.put, List.setIfInBounds_toArray, List.set_cons_zero, List.set_cons_succ]
                  refine wpAnyH_take (i := 2) (oi := { dst := some 75, op := Go.Op.load 37 (Go.Operand.tmp 5), type := 37, pos := "ref.go:314", after := #[], guard := none }) (v := ?_) rfl (by kernel_rfl) (by kernel_rfl) (by kernel_rfl) (fun _ _ _ h => h) (Or.inl ⟨by rfl, ?_⟩) hHeld ?_
                  rotate_left
                  · intro w hSw; obtain ⟨u0, u1, u2, u3, u4, u5⟩ := hSw.cells; go_simp <;> with_reducible rfl
                  try simp only [Act.put, List.setIfInBounds_toArray, List.set_cons_zero, List.set_cons_succ]
                  refine wpAnyH_take (i := 3) (oi := { dst := some 76, op := Go.Op.move (Go.Operand.tmp 12), type := 3, pos := "ref.go:314", after := #[], guard := none }) (v := ?_) rfl (by kernel_rfl) (by kernel_rfl) (by kernel_rfl) (fun _ _ _ h => h) (Or.inl ⟨by rfl, ?_⟩) hHeld ?_
                  rotate_left
                  · intro w hSw; (try dsimp only at hSw); go_simp <;> with_reducible rfl
                  try simp only [Act.put, List.setIfInBounds_toArray, List.set_cons_zero, List.set_cons_succ]
                  refine wpAnyH_take (i := 4) (oi := { dst := some 77, op := Go.Op.binOp Go.BinOp.add 3 (Go.Operand.tmp 76) (Go.Operand.const (Go.Value.int Go.IntKind.i64 1)) 3, type := 3, pos := "ref.go:314", after := #[{ on := 3, ground := Go.Ground.data }], guard := none }) (v := ?_) rfl (by kernel_rfl) (by kernel_rfl) (by kernel_rfl) (fun _ _ _ h => h) (Or.inl ⟨by rfl, ?_⟩) hHeld ?_
                  rotate_left
                  · intro w hSw; (try dsimp only at hSw); go_simp <;> with_reducible rfl
                  try simp only [Act.put, List.setIfInBounds_toArray, List.set_cons_zero, List.set_cons_succ]
                  refine wpAnyH_take (i := 7) (oi := { dst := some 80, op := Go.Op.fieldAddr 37 (Go.Operand.tmp 5) 5, type := 0, pos := "ref.go:314", after := #[], guard := none }) (v := ?_) rfl (by kernel_rfl) (by kernel_rfl) (by kernel_rfl) (fun _ _ _ h => h) (Or.inl ⟨by rfl, ?_⟩) hHeld ?_
                  rotate_left
                  · intro w hSw; (try dsimp only at hSw); go_simp <;> with_reducible rfl
                  try simp only [Act.put, List.setIfInBounds_toArray, List.set_cons_zero, List.set_cons_succ]
                  refine wpAnyH_take (i := 8) (oi := { dst := some 81, op := Go.Op.load 3 (Go.Operand.tmp 80), type := 3, pos := "ref.go:314", after := #[{ on := 7, ground := Go.Ground.data }], guard := none }) (v := ?_) rfl (by kernel_rfl) (by kernel_rfl) (by kernel_rfl) (fun _ _ _ h => h) (Or.inl ⟨by rfl, ?_⟩) hHeld ?_
                  rotate_left
                  · intro w hSw; obtain ⟨u0, u1, u2, u3, u4, u5⟩ := hSw.cells; go_simp <;> with_reducible rfl
                  try simp only [Act.put, List.setIfInBounds_toArray, List.set_cons_zero, List.set_cons_succ]
                  refine wpAnyH_ready (rs := [5]) (by kernel_rfl) (by simp) ?_
                  refine AllReadyH.cons rfl (fun K hK => ?_) AllReadyH.nil
                  go_simp
                  refine (k106 _ (hBW _ hB0)).mono ?_
                  rintro e w8 ⟨rfl, hb⟩
                  have hB8 : Below w7.heap.size w7 w8 := hB0.trans (hb.mono hB0.size)
                  clear hb
                  refine hK.out _ _ (HK _ hB8) (fun hHeld2 => ?_)
                  clear hK K hHeld
                  have hHeld := hHeld2
                  clear hHeld2
                  try simp only [Act.put, List.setIfInBounds_toArray, List.set_cons_zero, List.set_cons_succ]
                  refine wpAnyH_take (i := 6) (oi := { dst := some 79, op := Go.Op.binOp Go.BinOp.add 3 (Go.Operand.tmp 74) (Go.Operand.tmp 78) 3, type := 3, pos := "ref.go:314", after := #[{ on := 1, ground := Go.Ground.data }, { on := 5, ground := Go.Ground.data }], guard := none }) (v := ?_) rfl (by kernel_rfl) (by kernel_rfl) (by kernel_rfl) (fun _ _ _ h => h) (Or.inl ⟨by rfl, ?_⟩) hHeld ?_
                  rotate_left
                  · intro w hSw; (try dsimp only at hSw); go_simp <;> with_reducible rfl
                  try simp only [Act.put, List.setIfInBounds_toArray, List.set_cons_zero, List.set_cons_succ]
                  refine wpAnyH_take (i := 9) (oi := { dst := some 82, op := Go.Op.binOp Go.BinOp.leq 3 (Go.Operand.tmp 79) (Go.Operand.tmp 81) 3, type := 4, pos := "ref.go:314", after := #[{ on := 6, ground := Go.Ground.data }, { on := 8, ground := Go.Ground.data }], guard := none }) (v := ?_) rfl (by kernel_rfl) (by kernel_rfl) (by kernel_rfl) (fun _ _ _ h => h) (Or.inl ⟨by rfl, ?_⟩) hHeld ?_
                  rotate_left
                  · intro w hSw; (try dsimp only at hSw); go_simp <;> with_reducible rfl
                  try simp only [Act.put, List.setIfInBounds_toArray, List.set_cons_zero, List.set_cons_succ]
                  refine wpAnyH_done (by kernel_rfl) ?_ _
                  skip
                  have HA_8 : Hid (R6 w8 W.heap.size (.bool x0a) (.slice raa rna rca) (.slice a1a n1a c1a) (.slice (some ⟨b, off, none⟩) n2a c2a) (.int .i64 x4a) (.int .i64 x5a)) := HA_7.out.below hB8
                  have HBW8 : Hid (Below Wb.heap.size Wb w8) := hBW _ hB8
                  have HKW8 : Hid (Kw Wb.heap.size w1 w8) := HKW7.out.trans (Kw.of_below hB8 HBW7.out.size)
                  have HO8 : Hid (Outs w8 Wb.heap.size (.slice p n c) L) := HO7.out.below hB8
                  have kIH := HIH.out (d.up.length - (k + 1)) (by have := HF.out; rw [HN2.out] at this ⊢; omega) (.agg #[.bool x0a, .slice raa rna rca, .slice a1a n1a c1a, .slice (some ⟨b, off, none⟩) n2a c2a, .int .i64 x4a, .int .i64 x5a]) (.slice p7 n7 c7) (.slice p n c) d (head ++ [x]) (k + 1) L w8 (Nat.le_refl _) HD0.out HBW8.out (own_base (own_keepB HR7.out hB8) (Nat.zero_le _)) HO8.out HNE.out HSL.out (by rw [HN2.out]; omega) (by have := HOL.out; omega)
                  rw [show ((k + 1 : Nat) : Int) = (k : Int) + 1 by omega] at kIH
                  obtain ⟨z0, z1, z2, z3, z4, z5⟩ := HA_8.out.cells
                  go_wp2_with fail
                  refine kIH.mono ?_
                  rintro e w9 ⟨s9, rfl, hO9, hk9⟩
                  obtain ⟨p9, n9, c9, rfl, hl9⟩ := hO9.look
                  obtain ⟨L9, hL9⟩ : ∃ X, (L ++ RO d.lo d.least d.most (head ++ [x]) (d.up.drop (k + 1))).take lim = X := ⟨_, rfl⟩
                  have h9n : n9 ≤ lim := by rw [← hl9, List.length_take]; exact Nat.min_le_left _ _
                  rw [hL9] at hO9 hl9
                  have HO9 : Hid (Outs w9 Wb.heap.size (.slice p9 n9 c9) L9 ∧ L9.length = n9 ∧ n9 ≤ lim) := ⟨hO9, hl9, h9n⟩
                  have HT9 : Hid ((L9 ++ RS d.lo d.least d.most head (d.up.drop (k + 1))).take lim = ((L0 ++ RO d.lo d.least d.most head (d.up.drop at0)).take lim)) := by
                    unfold Hid
                    rw [← hL9, take_again, List.append_assoc, ← RS_cons, ← HX.out.1]
                    exact HT.out
                  have HA_9 : Hid (R6 w9 W.heap.size (.bool x0a) (.slice raa rna rca) (.slice a1a n1a c1a) (.slice (some ⟨b, off, none⟩) n2a c2a) (.int .i64 x4a) (.int .i64 x5a)) := HA_8.out.kw hk9
                  have HBW9 : Hid (Below Wb.heap.size Wb w9) := HBW8.out.trans hk9.b
                  have HKW9 : Hid (Kw Wb.heap.size w1 w9) := HKW8.out.trans hk9
                  clear hk9 hO9 hl9 hL9 z0 z1 z2 z3 z4 z5
                  go_upto_region 14 with (fail)
                  clear kIH
                  have HK4 : ∀ X, Below w9.heap.size w9 X → X.cell? ⟨W.heap.size, 2, none⟩ = some (.slice a1a n1a c1a) ∧ X.cell? ⟨W.heap.size, 3, none⟩ = some (.slice (some ⟨b, off, none⟩) n2a c2a) ∧ X.cell? ⟨b, off + k, none⟩ = some (.int .i64 x) := fun X hX => by
                    obtain ⟨_, _, c2, c3, _, _⟩ := (HA_9.out.below hX).cells
                    exact ⟨c2, c3, ((HBW9.out.trans (hX.mono HBW9.out.size)).cell (p := ⟨b, off + k, none⟩) hbl).trans hcx⟩
                  have hD0 : Below w9.heap.size w9 w9.drew := Below.drew (Below.refl _ _)
                  have hBW4 : ∀ X, Below w9.heap.size w9 X → Below Wb.heap.size Wb X := fun X hX => HBW9.out.trans (hX.mono HBW9.out.size)
                  refine wp_region_held_drew (S := (fun w' => w'.cell? ⟨W.heap.size, 2, none⟩ = some (.slice a1a n1a c1a) ∧ w'.cell? ⟨W.heap.size, 3, none⟩ = some (.slice (some ⟨b, off, none⟩) n2a c2a) ∧ w'.cell? ⟨b, off + k, none⟩ = some (.int .i64 x))) (by kernel_rfl) (HK4 _ hD0) (fun hHeld => ?_)
                  refine wpAnyH_take (i := 0) (oi := { dst := some 90, op := Go.Op.fieldAddr 37 (Go.Operand.tmp 5) 3, type := 0, pos := "ref.go:317", after := #[], guard := none }) (v := ?_) rfl (by kernel_rfl) (by kernel_rfl) (by kernel_rfl) (fun _ _ _ h => h) (Or.inl ⟨by rfl, ?_⟩) hHeld ?_
                  rotate_left
                  · intro w hSw; (try dsimp only at hSw); go_simp <;> with_reducible rfl
                  try simp only [Act.put, List.setIfInBounds_toArray, List.set_cons_zero, List.set_cons_succ]
                  refine wpAnyH_take (i := 1) (oi := { dst := some 91, op := Go.Op.load 22 (Go.Operand.tmp 90), type := 22, pos := "ref.go:317", after := #[{ on := 0, ground := Go.Ground.data }], guard := none }) (v := ?_) rfl (by kernel_rfl) (by kernel_rfl) (by kernel_rfl) (fun _ _ _ h => h) (Or.inl ⟨by rfl, ?_⟩) hHeld ?_
                  rotate_left
                  · intro w hSw; (try dsimp only at hSw); go_simp <;> with_reducible rfl
                  try simp only [Act.put, List.setIfInBounds_toArray, List.set_cons_zero, List.set_cons_succ]
                  refine wpAnyH_take (i := 2) (oi := { dst := some 92, op := Go.Op.move (Go.Operand.tmp 12), type := 3, pos := "ref.go:317", after := #[], guard := none }) (v := ?_) rfl (by kernel_rfl) (by kernel_rfl) (by kernel_rfl) (fun _ _ _ h => h) (Or.inl ⟨by rfl, ?_⟩) hHeld ?_
                  rotate_left
                  · intro w hSw; (try dsimp only at hSw); go_simp <;> with_reducible rfl
                  try simp only [Act.put, List.setIfInBounds_toArray, List.set_cons_zero, List.set_cons_succ]
                  refine wpAnyH_take (i := 5) (oi := { dst := some 95, op := Go.Op.fieldAddr 37 (Go.Operand.tmp 5) 2, type := 0, pos := "ref.go:317", after := #[], guard := none }) (v := ?_) rfl (by kernel_rfl) (by kernel_rfl) (by kernel_rfl) (fun _ _ _ h => h) (Or.inl ⟨by rfl, ?_⟩) hHeld ?_
                  rotate_left
                  · intro w hSw; (try dsimp only at hSw); go_simp <;> with_reducible rfl
                  try simp only [Act.put, List.setIfInBounds_toArray, List.set_cons_zero, List.set_cons_succ]
                  refine wpAnyH_take (i := 6) (oi := { dst := some 96, op := Go.Op.load 22 (Go.Operand.tmp 95), type := 22, pos := "ref.go:317", after := #[{ on := 5, ground := Go.Ground.data }], guard := none }) (v := ?_) rfl (by kernel_rfl) (by kernel_rfl) (by kernel_rfl) (fun _ _ _ h => h) (Or.inl ⟨by rfl, ?_⟩) hHeld ?_
                  rotate_left
                  · intro w hSw; (try dsimp only at hSw); go_simp <;> with_reducible rfl
                  try simp only [Act.put, List.setIfInBounds_toArray, List.set_cons_zero, List.set_cons_succ]
                  refine wpAnyH_ready (rs := [3]) (by kernel_rfl) (by simp) ?_
                  refine AllReadyH.cons rfl (fun K hK => ?_) AllReadyH.nil
                  go_simp
                  refine hK.out _ _ (HK4 _ hD0) (fun hHeld2 => ?_)
                  clear hK K hHeld
                  have hHeld := hHeld2
                  clear hHeld2
                  try simp only [Act.put, List.setIfInBounds_toArray, List.set_cons_zero, List.set_cons_succ]
                  refine wpAnyH_take (i := 4) (oi := { dst := some 94, op := Go.Op.load 2 (Go.Operand.tmp 93), type := 2, pos := "ref.go:317", after := #[{ on := 3, ground := Go.Ground.data }], guard := none }) (v := ?_) rfl (by kernel_rfl) (by kernel_rfl) (by kernel_rfl) (fun _ _ _ h => h) (Or.inl ⟨by rfl, ?_⟩) hHeld ?_
                  rotate_left
                  · intro w hSw; (try dsimp only at hSw); go_simp <;> with_reducible rfl
                  try simp only [Act.put, List.setIfInBounds_toArray, List.set_cons_zero, List.set_cons_succ]
                  refine wpAnyH_ready (rs := [7]) (by kernel_rfl) (by simp) ?_
                  refine AllReadyH.cons rfl (fun K hK => ?_) AllReadyH.nil
                  go_simp
                  refine (k26 _ (hBW4 _ hD0)).mono ?_
                  rintro e w20 ⟨rfl, hb⟩
                  have hD1 : Below w9.heap.size w9 w20 := hD0.trans (hb.mono hD0.size)
                  clear hb
                  refine hK.out _ _ (HK4 _ hD1) (fun hHeld2 => ?_)
                  clear hK K hHeld
                  have hHeld := hHeld2
                  clear hHeld2
                  try simp only [Act.put, List.setIfInBounds_toArray, List.set_cons_zero, List.set_cons_succ]
                  refine wpAnyH_done (by kernel_rfl) ?_ _
                  have HK20 : Hid (Kw Wb.heap.size w1 w20) := HKW9.out.trans (Kw.of_below hD1 HBW9.out.size)
                  have HO20 : Hid _ := HO9.out.1.below hD1
                  cases bb
                  · go_wp2
                    go_roundw
                    case rel => exact ⟨k + 1, _, _, _, L9, by omega, by omega, h9n, by go_num, rfl, HK20.out, HO20.out, HO9.out.2.1, HT9.out⟩
                    case measure => simp [intOf]; omega
                  · have HE9 : Hid (L9 = ((L0 ++ RO d.lo d.least d.most head (d.up.drop at0)).take lim)) := by
                      have h8 := HT9.out
                      rw [RS_of_RO (RS_gone (x := x) (by simpa using HBB.out) (HXN.out) (HXD.out)), List.append_nil, List.take_of_length_le (by have := HO9.out.2.1; omega)] at h8
                      exact h8
                    go_wp2
                    go_ret
                    exact ⟨_, rfl, by rw [← HE9.out]; exact HO20.out, HKW1.out.trans HK20.out⟩
                · have hwk : IntKind.i64.wrap ((k : Int) + 1) = (k : Int) + 1 := by rw [IntKind.wrap_i64]; omega
                  have hwm : IntKind.i64.wrap ((n7 : Int) + (M : Int)) = (n7 : Int) + (M : Int) := by rw [IntKind.wrap_i64]; omega
                  have HK : ∀ X, Below w7.heap.size w7 X → R6 X W.heap.size (.bool x0a) (.slice raa rna rca) (.slice a1a n1a c1a) (.slice (some ⟨b, off, none⟩) n2a c2a) (.int .i64 x4a) (.int .i64 x5a) := fun X hX => HA_7.out.below hX
                  have hB0 : Below w7.heap.size w7 w7.drew := Below.drew (Below.refl _ _)
                  have hBW : ∀ X, Below w7.heap.size w7 X → Below Wb.heap.size Wb X := fun X hX => HBW7.out.trans (hX.mono HBW7.out.size)
                  have q12 : decide ((n7 : Int) + (M : Int) ≤ x5a) = false := by simp; omega
                  refine wp_region_held_drew (S := (fun w' => R6 w' W.heap.size (.bool x0a) (.slice raa rna rca) (.slice a1a n1a c1a) (.slice (some ⟨b, off, none⟩) n2a c2a) (.int .i64 x4a) (.int .i64 x5a))) (by kernel_rfl) (HK _ hB0) (fun hHeld => ?_)
                  refine wpAnyH_take (i := 0) (oi := { dst := some 73, op := Go.Op.move (Go.Operand.tmp 13), type := 22, pos := "ref.go:314", after := #[], guard := none }) (v := ?_) rfl (by kernel_rfl) (by kernel_rfl) (by kernel_rfl) (fun _ _ _ h => h) (Or.inl ⟨by rfl, ?_⟩) hHeld ?_
                  rotate_left
                  · intro w hSw; (try dsimp only at hSw); go_simp <;> with_reducible rfl
                  try simp only [Act.put, List.setIfInBounds_toArray, List.set_cons_zero, List.set_cons_succ]
                  refine wpAnyH_take (i := 1) (oi := { dst := some 74, op := Go.Op.call { callee := Go.Callee.builtin Go.Builtin.len, args := #[Go.Operand.tmp 73], argTypes := #[22] }, type := 3, pos := "ref.go:314", after := #[{ on := 0, ground := Go.Ground.data }], guard := none }) (v := ?_) rfl (by kernel_rfl) (by kernel_rfl) (by kernel_rfl) (fun _ _ _ h => h) (Or.inl ⟨by rfl, ?_⟩) hHeld ?_
                  rotate_left
                  · intro w hSw; (try dsimp only at hSw); go_simp <;> with_reducible rfl
                  try simp only [Act.put, List.setIfInBounds_toArray, List.set_cons_zero, List.set_cons_succ]
                  refine wpAnyH_take (i := 2) (oi := { dst := some 75, op := Go.Op.load 37 (Go.Operand.tmp 5), type := 37, pos := "ref.go:314", after := #[], guard := none }) (v := ?_) rfl (by kernel_rfl) (by kernel_rfl) (by kernel_rfl) (fun _ _ _ h => h) (Or.inl ⟨by rfl, ?_⟩) hHeld ?_
                  rotate_left
                  · intro w hSw; obtain ⟨u0, u1, u2, u3, u4, u5⟩ := hSw.cells; go_simp <;> with_reducible rfl
                  try simp only [Act.put, List.setIfInBounds_toArray, List.set_cons_zero, List.set_cons_succ]
                  refine wpAnyH_take (i := 3) (oi := { dst := some 76, op := Go.Op.move (Go.Operand.tmp 12), type := 3, pos := "ref.go:314", after := #[], guard := none }) (v := ?_) rfl (by kernel_rfl) (by kernel_rfl) (by kernel_rfl) (fun _ _ _ h => h) (Or.inl ⟨by rfl, ?_⟩) hHeld ?_
                  rotate_left
                  · intro w hSw; (try dsimp only at hSw); go_simp <;> with_reducible rfl
                  try simp only [Act.put, List.setIfInBounds_toArray, List.set_cons_zero, List.set_cons_succ]
                  refine wpAnyH_take (i := 4) (oi := { dst := some 77, op := Go.Op.binOp Go.BinOp.add 3 (Go.Operand.tmp 76) (Go.Operand.const (Go.Value.int Go.IntKind.i64 1)) 3, type := 3, pos := "ref.go:314", after := #[{ on := 3, ground := Go.Ground.data }], guard := none }) (v := ?_) rfl (by kernel_rfl) (by kernel_rfl) (by kernel_rfl) (fun _ _ _ h => h) (Or.inl ⟨by rfl, ?_⟩) hHeld ?_
                  rotate_left
                  · intro w hSw; (try dsimp only at hSw); go_simp <;> with_reducible rfl
                  try simp only [Act.put, List.setIfInBounds_toArray, List.set_cons_zero, List.set_cons_succ]
                  refine wpAnyH_take (i := 7) (oi := { dst := some 80, op := Go.Op.fieldAddr 37 (Go.Operand.tmp 5) 5, type := 0, pos := "ref.go:314", after := #[], guard := none }) (v := ?_) rfl (by kernel_rfl) (by kernel_rfl) (by kernel_rfl) (fun _ _ _ h => h) (Or.inl ⟨by rfl, ?_⟩) hHeld ?_
                  rotate_left
                  · intro w hSw; (try dsimp only at hSw); go_simp <;> with_reducible rfl
                  try simp only [Act.put, List.setIfInBounds_toArray, List.set_cons_zero, List.set_cons_succ]
                  refine wpAnyH_take (i := 8) (oi := { dst := some 81, op := Go.Op.load 3 (Go.Operand.tmp 80), type := 3, pos := "ref.go:314", after := #[{ on := 7, ground := Go.Ground.data }], guard := none }) (v := ?_) rfl (by kernel_rfl) (by kernel_rfl) (by kernel_rfl) (fun _ _ _ h => h) (Or.inl ⟨by rfl, ?_⟩) hHeld ?_
                  rotate_left
                  · intro w hSw; obtain ⟨u0, u1, u2, u3, u4, u5⟩ := hSw.cells; go_simp <;> with_reducible rfl
                  try simp only [Act.put, List.setIfInBounds_toArray, List.set_cons_zero, List.set_cons_succ]
                  refine wpAnyH_ready (rs := [5]) (by kernel_rfl) (by simp) ?_
                  refine AllReadyH.cons rfl (fun K hK => ?_) AllReadyH.nil
                  go_simp
                  refine (k106 _ (hBW _ hB0)).mono ?_
                  rintro e w8 ⟨rfl, hb⟩
                  have hB8 : Below w7.heap.size w7 w8 := hB0.trans (hb.mono hB0.size)
                  clear hb
                  refine hK.out _ _ (HK _ hB8) (fun hHeld2 => ?_)
                  clear hK K hHeld
                  have hHeld := hHeld2
                  clear hHeld2
                  try simp only [Act.put, List.setIfInBounds_toArray, List.set_cons_zero, List.set_cons_succ]
                  refine wpAnyH_take (i := 6) (oi := { dst := some 79, op := Go.Op.binOp Go.BinOp.add 3 (Go.Operand.tmp 74) (Go.Operand.tmp 78) 3, type := 3, pos := "ref.go:314", after := #[{ on := 1, ground := Go.Ground.data }, { on := 5, ground := Go.Ground.data }], guard := none }) (v := ?_) rfl (by kernel_rfl) (by kernel_rfl) (by kernel_rfl) (fun _ _ _ h => h) (Or.inl ⟨by rfl, ?_⟩) hHeld ?_
                  rotate_left
                  · intro w hSw; (try dsimp only at hSw); go_simp <;> with_reducible rfl
                  try simp only [Act.put, List.setIfInBounds_toArray, List.set_cons_zero, List.set_cons_succ]
                  refine wpAnyH_take (i := 9) (oi := { dst := some 82, op := Go.Op.binOp Go.BinOp.leq 3 (Go.Operand.tmp 79) (Go.Operand.tmp 81) 3, type := 4, pos := "ref.go:314", after := #[{ on := 6, ground := Go.Ground.data }, { on := 8, ground := Go.Ground.data }], guard := none }) (v := ?_) rfl (by kernel_rfl) (by kernel_rfl) (by kernel_rfl) (fun _ _ _ h => h) (Or.inl ⟨by rfl, ?_⟩) hHeld ?_
                  rotate_left
                  · intro w hSw; (try dsimp only at hSw); go_simp <;> with_reducible rfl
                  try simp only [Act.put, List.setIfInBounds_toArray, List.set_cons_zero, List.set_cons_succ]
                  refine wpAnyH_done (by kernel_rfl) ?_ _
                  skip
                  have HA_9 : Hid (R6 w8 W.heap.size (.bool x0a) (.slice raa rna rca) (.slice a1a n1a c1a) (.slice (some ⟨b, off, none⟩) n2a c2a) (.int .i64 x4a) (.int .i64 x5a)) := HA_7.out.below hB8
                  have HBW9 : Hid (Below Wb.heap.size Wb w8) := hBW _ hB8
                  have HKW9 : Hid (Kw Wb.heap.size w1 w8) := HKW7.out.trans (Kw.of_below hB8 HBW7.out.size)
                  obtain ⟨L9, hL9⟩ : ∃ X, L = X := ⟨_, rfl⟩
                  have h9n : n ≤ lim := hnl
                  have HO9 : Hid (Outs w8 Wb.heap.size (.slice p n c) L9 ∧ L9.length = n ∧ n ≤ lim) := by rw [← hL9]; exact ⟨HO7.out.below hB8, HOL.out, h9n⟩
                  have HT9 : Hid ((L9 ++ RS d.lo d.least d.most head (d.up.drop (k + 1))).take lim = ((L0 ++ RO d.lo d.least d.most head (d.up.drop at0)).take lim)) := by
                    unfold Hid
                    have h8 := HT.out
                    rw [HX.out.1, RS_cons, HRO.out (by omega), List.nil_append] at h8
                    rw [← hL9]; exact h8
                  clear hL9
                  go_upto_region 14 with (fail)
                  have HK4 : ∀ X, Below w8.heap.size w8 X → X.cell? ⟨W.heap.size, 2, none⟩ = some (.slice a1a n1a c1a) ∧ X.cell? ⟨W.heap.size, 3, none⟩ = some (.slice (some ⟨b, off, none⟩) n2a c2a) ∧ X.cell? ⟨b, off + k, none⟩ = some (.int .i64 x) := fun X hX => by
                    obtain ⟨_, _, c2, c3, _, _⟩ := (HA_9.out.below hX).cells
                    exact ⟨c2, c3, ((HBW9.out.trans (hX.mono HBW9.out.size)).cell (p := ⟨b, off + k, none⟩) hbl).trans hcx⟩
                  have hD0 : Below w8.heap.size w8 w8.drew := Below.drew (Below.refl _ _)
                  have hBW4 : ∀ X, Below w8.heap.size w8 X → Below Wb.heap.size Wb X := fun X hX => HBW9.out.trans (hX.mono HBW9.out.size)
                  refine wp_region_held_drew (S := (fun w' => w'.cell? ⟨W.heap.size, 2, none⟩ = some (.slice a1a n1a c1a) ∧ w'.cell? ⟨W.heap.size, 3, none⟩ = some (.slice (some ⟨b, off, none⟩) n2a c2a) ∧ w'.cell? ⟨b, off + k, none⟩ = some (.int .i64 x))) (by kernel_rfl) (HK4 _ hD0) (fun hHeld => ?_)
                  refine wpAnyH_take (i := 0) (oi := { dst := some 90, op := Go.Op.fieldAddr 37 (Go.Operand.tmp 5) 3, type := 0, pos := "ref.go:317", after := #[], guard := none }) (v := ?_) rfl (by kernel_rfl) (by kernel_rfl) (by kernel_rfl) (fun _ _ _ h => h) (Or.inl ⟨by rfl, ?_⟩) hHeld ?_
                  rotate_left
                  · intro w hSw; (try dsimp only at hSw); go_simp <;> with_reducible rfl
                  try simp only [Act.put, List.setIfInBounds_toArray, List.set_cons_zero, List.set_cons_succ]
                  refine wpAnyH_take (i := 1) (oi := { dst := some 91, op := Go.Op.load 22 (Go.Operand.tmp 90), type := 22, pos := "ref.go:317", after := #[{ on := 0, ground := Go.Ground.data }], guard := none }) (v := ?_) rfl (by kernel_rfl) (by kernel_rfl) (by kernel_rfl) (fun _ _ _ h => h) (Or.inl ⟨by rfl, ?_⟩) hHeld ?_
                  rotate_left
                  · intro w hSw; (try dsimp only at hSw); go_simp <;> with_reducible rfl
                  try simp only [Act.put, List.setIfInBounds_toArray, List.set_cons_zero, List.set_cons_succ]
                  refine wpAnyH_take (i := 2) (oi := { dst := some 92, op := Go.Op.move (Go.Operand.tmp 12), type := 3, pos := "ref.go:317", after := #[], guard := none }) (v := ?_) rfl (by kernel_rfl) (by kernel_rfl) (by kernel_rfl) (fun _ _ _ h => h) (Or.inl ⟨by rfl, ?_⟩) hHeld ?_
                  rotate_left
                  · intro w hSw; (try dsimp only at hSw); go_simp <;> with_reducible rfl
                  try simp only [Act.put, List.setIfInBounds_toArray, List.set_cons_zero, List.set_cons_succ]
                  refine wpAnyH_take (i := 5) (oi := { dst := some 95, op := Go.Op.fieldAddr 37 (Go.Operand.tmp 5) 2, type := 0, pos := "ref.go:317", after := #[], guard := none }) (v := ?_) rfl (by kernel_rfl) (by kernel_rfl) (by kernel_rfl) (fun _ _ _ h => h) (Or.inl ⟨by rfl, ?_⟩) hHeld ?_
                  rotate_left
                  · intro w hSw; (try dsimp only at hSw); go_simp <;> with_reducible rfl
                  try simp only [Act.put, List.setIfInBounds_toArray, List.set_cons_zero, List.set_cons_succ]
                  refine wpAnyH_take (i := 6) (oi := { dst := some 96, op := Go.Op.load 22 (Go.Operand.tmp 95), type := 22, pos := "ref.go:317", after := #[{ on := 5, ground := Go.Ground.data }], guard := none }) (v := ?_) rfl (by kernel_rfl) (by kernel_rfl) (by kernel_rfl) (fun _ _ _ h => h) (Or.inl ⟨by rfl, ?_⟩) hHeld ?_
                  rotate_left
                  · intro w hSw; (try dsimp only at hSw); go_simp <;> with_reducible rfl
                  try simp only [Act.put, List.setIfInBounds_toArray, List.set_cons_zero, List.set_cons_succ]
                  refine wpAnyH_ready (rs := [3]) (by kernel_rfl) (by simp) ?_
                  refine AllReadyH.cons rfl (fun K hK => ?_) AllReadyH.nil
                  go_simp
                  refine hK.out _ _ (HK4 _ hD0) (fun hHeld2 => ?_)
                  clear hK K hHeld
                  have hHeld := hHeld2
                  clear hHeld2
                  try simp only [Act.put, List.setIfInBounds_toArray, List.set_cons_zero, List.set_cons_succ]
                  refine wpAnyH_take (i := 4) (oi := { dst := some 94, op := Go.Op.load 2 (Go.Operand.tmp 93), type := 2, pos := "ref.go:317", after := #[{ on := 3, ground := Go.Ground.data }], guard := none }) (v := ?_) rfl (by kernel_rfl) (by kernel_rfl) (by kernel_rfl) (fun _ _ _ h => h) (Or.inl ⟨by rfl, ?_⟩) hHeld ?_
                  rotate_left
                  · intro w hSw; (try dsimp only at hSw); go_simp <;> with_reducible rfl
                  try simp only [Act.put, List.setIfInBounds_toArray, List.set_cons_zero, List.set_cons_succ]
                  refine wpAnyH_ready (rs := [7]) (by kernel_rfl) (by simp) ?_
                  refine AllReadyH.cons rfl (fun K hK => ?_) AllReadyH.nil
                  go_simp
                  refine (k26 _ (hBW4 _ hD0)).mono ?_
                  rintro e w20 ⟨rfl, hb⟩
                  have hD1 : Below w8.heap.size w8 w20 := hD0.trans (hb.mono hD0.size)
                  clear hb
                  refine hK.out _ _ (HK4 _ hD1) (fun hHeld2 => ?_)
                  clear hK K hHeld
                  have hHeld := hHeld2
                  clear hHeld2
                  try simp only [Act.put, List.setIfInBounds_toArray, List.set_cons_zero, List.set_cons_succ]
                  refine wpAnyH_done (by kernel_rfl) ?_ _
                  have HK20 : Hid (Kw Wb.heap.size w1 w20) := HKW9.out.trans (Kw.of_below hD1 HBW9.out.size)
                  have HO20 : Hid _ := HO9.out.1.below hD1
                  cases bb
                  · go_wp2
                    go_roundw
                    case rel => exact ⟨k + 1, _, _, _, L9, by omega, by omega, h9n, by go_num, rfl, HK20.out, HO20.out, HO9.out.2.1, HT9.out⟩
                    case measure => simp [intOf]; omega
                  · have HE9 : Hid (L9 = ((L0 ++ RO d.lo d.least d.most head (d.up.drop at0)).take lim)) := by
                      have h8 := HT9.out
                      rw [RS_of_RO (RS_gone (x := x) (by simpa using HBB.out) (HXN.out) (HXD.out)), List.append_nil, List.take_of_length_le (by have := HO9.out.2.1; omega)] at h8
                      exact h8
                    go_wp2
                    go_ret
                    exact ⟨_, rfl, by rw [← HE9.out]; exact HO20.out, HKW1.out.trans HK20.out⟩
            · have hl' : (k : Int) < (n2a : Int) := by omega
              have hln' : (n : Int) < (lim : Int) := by omega
              have HE9 : Hid (L = ((L0 ++ RO d.lo d.least d.most head (d.up.drop at0)).take lim)) := by
                have h8 := HT.out
                rw [RS_full (by rw [HHN.out, HE5.out]; omega), List.append_nil, List.take_of_length_le (by have := HOL.out; omega)] at h8
                exact h8
              go_wp2
              go_ret
              exact ⟨_, rfl, by rw [← HE9.out]; exact HO.out.1, HKW1.out.trans HB.out⟩
          · have hl' : (k : Int) < (n2a : Int) := by omega
            have hln' : ¬ (n : Int) < (lim : Int) := by omega
            have HE9 : Hid (L = ((L0 ++ RO d.lo d.least d.most head (d.up.drop at0)).take lim)) := by
              have h8 := HT.out
              rw [List.take_append_of_le_length (by have := HOL.out; omega), List.take_of_length_le (by have := HOL.out; omega)] at h8
              exact h8
            go_wp2
            go_ret
            exact ⟨_, rfl, by rw [← HE9.out]; exact HO.out.1, HKW1.out.trans HB.out⟩
        · have hl' : ¬ (k : Int) < (n2a : Int) := by omega
          have HE9 : Hid (L = ((L0 ++ RO d.lo d.least d.most head (d.up.drop at0)).take lim)) := by
            have h8 := HT.out
            rw [List.drop_eq_nil_of_le (by rw [HN2.out]; omega), show RS d.lo d.least d.most head [] = [] from rfl, List.append_nil, List.take_of_length_le (by have := HOL.out; omega)] at h8
            exact h8
          go_wp2
          go_ret
          exact ⟨_, rfl, by rw [← HE9.out]; exact HO.out.1, HKW1.out.trans HB.out⟩
  · have hfull' : ¬ (n0 : Int) < (lim : Int) := by omega
    have HA_1 : Hid (R6 w0 W.heap.size (.bool x0a) (.slice raa rna rca) (.slice a1a n1a c1a) (.slice a2a n2a c2a) (.int .i64 x4a) (.int .i64 x5a)) := HA_0.out
    have HKW1 : Hid (Kw Wb.heap.size W w0) := Kw.of_below hb0 hbW.size
    have HBW1 : Hid (Below Wb.heap.size Wb w0) := hbW.trans (hb0.mono hbW.size)
    have HE9 : Hid (L0 = ((L0 ++ RO d.lo d.least d.most head (d.up.drop at0)).take lim)) := by
      unfold Hid
      rw [List.take_append_of_le_length (by have := HL0.out; omega), List.take_of_length_le (by have := HL0.out; omega)]
    have HO9 : Hid (Outs w0 Wb.heap.size (.slice p0 n0 c0) L0) := HO0.out.below hb0
    go_wp2
    go_loopw [4, 12] (fun out i wr => out = .slice p0 n0 c0 ∧ i = .int .i64 (at0 : Int) ∧ w0 = wr) (fun _ _ _ => 0)
    case atStart => exact ⟨rfl, rfl, rfl⟩
    case round =>
      obtain ⟨rfl, rfl, hwr⟩ := hrel
      subst hwr
      by_cases hl : at0 < n2a
      · have hl' : (at0 : Int) < (n2a : Int) := by omega
        go_wp2
        go_ret
        exact ⟨_, rfl, by rw [← HE9.out]; exact HO9.out, HKW1.out⟩
      · have hl' : ¬ (at0 : Int) < (n2a : Int) := by omega
        go_wp2
        go_ret
        exact ⟨_, rfl, by rw [← HE9.out]; exact HO9.out, HKW1.out⟩
end Go.Proofs.YtacnhkaibcjjgaaGreatDoor
