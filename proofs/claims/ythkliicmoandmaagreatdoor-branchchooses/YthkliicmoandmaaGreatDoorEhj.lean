/-
  What is proved here: a list of domains that is lent.
  What is proved here: a list of domains that is lent; new draws of the reference.
  What is proved here: the open variables, told from memory of its own.
-/
import Derived.Test.YthkliicmoandmaaGreatDoorEg
import Derived.OwnWalk
import Derived.Test.YthkliicmoandmaaGreatDoorEf
import Derived.Test.YthkliicmoandmaaGreatDoorDa
import Derived.Lib.AppendZerosOnto
import Derived.Lib.OwnBridge
namespace Go.Proofs.YthkliicmoandmaaGreatDoor
open Go.RowKit Go.Shelf
set_option linter.unusedVariables false
set_option linter.unusedSimpArgs false

theorem intv_flat (r : List Dm.Rg) : St.intv (flI r) = Dm.flat r := by
  have e : Dm.flat r = (r.map fun q => [Value.int .i64 q.1, Value.int .i64 q.2]).flatten := by unfold Dm.flat; rw [List.flatMap_def]
  have hk : ∀ c ∈ (r.map fun q => [Value.int .i64 q.1, Value.int .i64 q.2]), c.length = 2 := fun c hc => by
    obtain ⟨q, _, rfl⟩ := List.mem_map.1 hc
    rfl
  apply List.ext_getElem?
  intro i
  by_cases hi : i < r.length * 2
  · have h1 : (St.intv (flI r))[i]? = some (.int .i64 (if i % 2 = 0 then Dm.lo r (i / 2) else Dm.hi r (i / 2))) := by
      unfold St.intv
      rw [List.getElem?_map, nth_get (by rw [flI_len]; exact hi), flI_nth r i hi]
      rfl
    have hd : i / 2 < r.length := by omega
    have h2 := flat_get hk (i / 2) (i % 2) (by omega)
    rw [← e, show i / 2 * 2 + i % 2 = i by omega] at h2
    rw [h1, h2, List.getElem?_map, List.getElem?_eq_getElem hd]
    unfold Dm.lo Dm.hi
    rw [List.getElem?_eq_getElem hd]
    rcases Nat.mod_two_eq_zero_or_one i with q | q
    · rw [q]; rfl
    · rw [q]; rfl
  · rw [List.getElem?_eq_none (by unfold St.intv; rw [List.length_map, flI_len]; omega), List.getElem?_eq_none (by rw [Dm.flat_length]; omega)]
theorem lent_z {X : Nat → Prop} {W : World} {c : List Value} {d : MD} (h : Dc X W c d) (hz : SzD d) : Calls Tryz.prog 18 #[.agg c.toArray] W fun e w' => ∃ q : List Value, e = .returned (.agg q.toArray) ∧ (∀ Z : Nat → Prop, (∀ b, Z b → b < W.heap.size) → Dc Z w' q d) ∧ Below W.heap.size W w' :=
  (St.lent_own _ (sdM d) (flI d.r) W (h.dr hz)).mono fun e w' ⟨s1, s2, s3, he, h1, h2, h3, hb⟩ => by
    have o1 : w'.ownsRow W.heap.size 92 2 s1 d.r.length (Dm.flat d.r) := by
      have e1 : St.intv (flI d.r) = Dm.flat d.r := by
        exact intv_flat d.r
      rw [← e1]; exact h1
    obtain ⟨p1, c1, rfl⟩ : ∃ p c, s1 = .slice p d.r.length c := by
      rcases o1.2 with ⟨q1, q2⟩ | ⟨g, cap, cur, q1, _⟩
      · exact ⟨none, 0, by rw [q2]; exact q1⟩
      · exact ⟨_, cap, q1⟩
    obtain ⟨p2, c2, rfl⟩ : ∃ p c, s2 = .slice p d.lo.length c := by
      rcases h2.2 with ⟨q1, q2⟩ | ⟨g, cap, cur, q1, _⟩
      · have q2' : d.lo.length = 0 := q2
        exact ⟨none, 0, by rw [q2']; exact q1⟩
      · exact ⟨_, cap, q1⟩
    obtain ⟨p3, c3, rfl⟩ : ∃ p c, s3 = .slice p d.up.length c := by
      rcases h3.2 with ⟨q1, q2⟩ | ⟨g, cap, cur, q1, _⟩
      · have q2' : d.up.length = 0 := q2
        exact ⟨none, 0, by rw [q2']; exact q1⟩
      · exact ⟨_, cap, q1⟩
    exact ⟨_, he, fun Z hZ => ⟨p1, c1, p2, c2, p3, c3, rfl, rm_own o1 hZ, nm_own h2 hZ, nm_own h3 hZ⟩, hb⟩
theorem Dc.weak {X : Nat → Prop} {w : World} {c : List Value} {d : MD} (h : Dc X w c d) : Dc (fun _ => False) w c d := h.up (fun b hb => hb.elim)
/-- A list of domains in memory of its own. -/
structure LD (N : Nat) (w : World) (v : Value) (D : List MD) (vs : List (List Value)) : Prop where
  n : vs.length = D.length
  r : Rw w 50 v 6 vs
  d : ∀ (i : Nat) (c : List Value) (d : MD), vs[i]? = some c → D[i]? = some d → Dc (fun b => v.ownBlock = some b) w c d
  b : ∀ g, v.ownBlock = some g → N ≤ g
theorem LD.below {N : Nat} {w w' : World} {v : Value} {D : List MD} {vs : List (List Value)} (h : LD N w v D vs) (hb : Below w.heap.size w w') : LD N w' v D vs :=
  ⟨h.n, h.r.keep (fun g hg => hb.block g (h.r.lt hg)), fun i c d h1 h2 => (h.d i c d h1 h2).below hb, h.b⟩
theorem LD.ds {N : Nat} {w : World} {v : Value} {D : List MD} {vs : List (List Value)} (h : LD N w v D vs) : Ds w v D := by
  obtain ⟨a, c, e, hcc, hm⟩ := h.r.shape
  refine ⟨a, c, by rw [e, h.n], fun h0 => ?_⟩
  have hv0 : 0 < vs.length := by rw [h.n]; exact h0
  obtain ⟨g, cap, e2, hgl, hat⟩ : ∃ g cap, v = .slice (some ⟨g, 0, none⟩) vs.length cap ∧ g < w.heap.size ∧ True := by
    rcases h.r.2.2 with ⟨q1, q2⟩ | ⟨g, cap, cur, q1, _, q3, _⟩
    · omega
    · exact ⟨g, cap, q1, (Array.getElem?_eq_some_iff.1 q3).1, trivial⟩
  rw [e] at e2
  injection e2 with e3 _ _
  refine ⟨g, 0, e3, hgl, fun i d hd => ?_⟩
  have hi : i < vs.length := by rw [h.n]; exact (List.getElem?_eq_some_iff.1 hd).1
  have hc : vs[i]? = some vs[i] := List.getElem?_eq_getElem hi
  have hdc := h.d i _ d hc hd
  have hl6 := hdc.len
  obtain ⟨g2, cap2, e4, _, _, _, hra, _⟩ := h.r.at hc
  rw [e] at e4
  injection e4 with e5 _ _
  obtain rfl : g = g2 := by
    rw [e3] at e5
    injection e5 with e5
    injection e5
  obtain ⟨c0, c1, c2, c3, c4, c5, hv6⟩ := list6 hl6
  rw [hv6] at hdc hra
  have cell : ∀ j u, [c0, c1, c2, c3, c4, c5][j]? = some u → w.cell? ⟨g, 0 + i * 6 + j, none⟩ = some u := fun j u hu => by rw [Nat.zero_add]; exact hra j u hu
  exact ⟨c0, c1, c2, c3, c4, c5, hdc.weak, cell 0 _ rfl, cell 1 _ rfl, cell 2 _ rfl, cell 3 _ rfl, cell 4 _ rfl, cell 5 _ rfl⟩

set_option maxRecDepth 100000 in
set_option maxHeartbeats 4000000 in
theorem lents_any {W : World} {p1 : Option Addr} {n1 k1 : Nat} {D : List MD} (h : Ds W (.slice p1 n1 k1) D) (hz : ∀ d ∈ D, SzD d) (hl : D.length * 96 ≤ 140737488351232) :
    Calls Tryz.prog 36 #[.slice p1 n1 k1] W fun e w' => ∃ v vs, e = .returned v ∧ LD W.heap.size w' v D vs ∧ Below W.heap.size W w' := by
  have e1 : D.length = n1 := by obtain ⟨a, c, e, _⟩ := h; injection e with _ e2 _; exact e2.symm
  obtain ⟨N, hN⟩ : ∃ N, W.heap.size = N := ⟨_, rfl⟩
  have HA : Hid (∀ w, Below N W w → Ds w (.slice p1 n1 k1) D) := fun w hb => h.below (by rw [hN]; exact hb)
  have HZ : Hid (∀ d ∈ D, SzD d) := hz
  have HL : Hid (D.length = n1) := e1
  have HN : Hid (W.heap.size = N) := hN
  rw [e1] at hl
  rw [hN]
  clear h hz e1 hN
  go_enter Tryz.func36, Tryz.ntmps36
  go_wp2
  go_loopw [3, 4] (fun v i wr => ∃ (k : Nat) (vs : List (List Value)), i = .int .i64 (k : Int) ∧ k ≤ n1 ∧ Hid (LD N wr v (D.take k) vs) ∧ Hid (Below N W wr)) (fun _ i _ => n1 - (intOf i).toNat)
  case atStart => exact ⟨0, [], rfl, Nat.zero_le _, ⟨rfl, ⟨fun _ h => by simp at h, by simpa using World.ownsRow_nil _ _ _ _⟩, fun i c d h _ => by simp at h, fun g hg => by simp [Value.ownBlock] at hg⟩, Below.refl _ _⟩
  case round =>
    obtain ⟨k, vs, rfl, hk, HLD, HB⟩ := hrel
    obtain ⟨sa, sc, rfl, _, _⟩ := HLD.out.r.shape
    have hvl : vs.length = k := by rw [HLD.out.n, List.length_take, HL.out]; omega
    rw [hvl] at HLD ⊢
    by_cases hlt : k < n1
    · have hlt' : (k : Int) < (n1 : Int) := by omega
      have hwk : IntKind.i64.wrap ((k : Int) + 1) = (k : Int) + 1 := by rw [IntKind.wrap_i64]; omega
      obtain ⟨d, hd⟩ : ∃ d, D[k]? = some d := ⟨_, List.getElem?_eq_getElem (by rw [HL.out]; exact hlt)⟩
      obtain ⟨b1, off1, rfl, hb1, _, c0, c1, c2, c3, c4, c5, hDc, i0, i1, i2, i3, i4, i5⟩ := (HA.out wr HB.out).at hd
      have kl := lent_z hDc (HZ.out d (List.mem_of_getElem? hd))
      have HDD : Hid (D[k]? = some d) := hd
      have hone := hDc.one
      have HVL : Hid (vs.length = k) := hvl
      clear hd hb1 hDc hvl
      go_wp2_with fail
      refine kl.mono ?_
      clear kl i0 i1 i2 i3 i4 i5 hone
      rintro e w1 ⟨q, rfl, hq, hb1⟩
      have hDq := hq (fun b => (Value.slice sa k sc).ownBlock = some b) (fun b hb => HLD.out.r.lt (by rw [HVL.out] at *; exact hb))
      obtain ⟨f0, f1, f2, f3, f4, f5, rfl⟩ := list6 hDq.len
      have HSZ : Hid (N ≤ wr.heap.size) := by have := HB.out.size; rw [HN.out] at this; exact this
      have HB1 : Hid (Below N W w1) := HB.out.trans (hb1.mono HSZ.out)
      have HLD1 : Hid (LD N w1 (.slice sa k sc) (D.take k) vs) := HLD.out.below hb1
      have hq1 := hDq.one
      obtain ⟨M, hM⟩ : ∃ x, w1.heap.size = x := ⟨_, rfl⟩
      obtain ⟨w2, hw2⟩ : ∃ x, w1.alloc (Obj.cells #[f0, f1, f2, f3, f4, f5] 50) = x := ⟨_, rfl⟩
      have hb2 : Below w1.heap.size w1 w2 := by rw [← hw2]; exact (Below.refl _ _).alloc (Nat.le_refl _) _
      have HBX : Hid (Bx w2 M #[f0, f1, f2, f3, f4, f5] 50) := by rw [← hw2]; exact Bx.new' hM _ _
      have HLD2 : Hid (LD N w2 (.slice sa k sc) (D.take k) vs) := HLD1.out.below hb2
      have HDq : Hid (Dc (fun b => (Value.slice sa k sc).ownBlock = some b) w2 [f0, f1, f2, f3, f4, f5] d) := hDq.below hb2
      have HB2 : Hid (Below N W w2) := HB1.out.trans (hb2.mono (by have := HB1.out.size; rw [HN.out] at this; exact this))
      have HW2 : Hid _ := hw2
      have HOW : Hid (w2.ownsRow 0 50 6 (.slice sa k sc) k vs.flatten) := by have := HLD2.out.r.2; rw [HVL.out] at this; exact this
      have HQ1 : Hid _ := hq1
      clear hw2 hb2 hDq hq hb1 hq1
      go_wp2_with (at_builtin; rw [HW2.out]; refine list_dom HVL.out HLD2.out.r.1 HOW.out rfl _ _ rfl rfl ⟨M, 0, none⟩ 1 (by first | rfl | (rw [← hM]; rfl)) [f0, f1, f2, f3, f4, f5] rfl (fun j u hu => by rw [Addr.add_lit, Nat.zero_add]; exact (HBX.out.cell j).trans (by simpa using hu)) HQ1.out (by omega) ?_; intro v' w3 hown' hgrow hnew; obtain ⟨gn, capn, rfl⟩ := ownsRow_succ hown')
      go_roundw
      case rel =>
        have hlt2 : ∀ g, (Value.slice sa k sc).ownBlock = some g → g < w2.heap.size := fun g hg => HLD2.out.r.lt (by rw [HVL.out] at *; exact hg)
        have key : ∀ c' d', Dc (fun b => (Value.slice sa k sc).ownBlock = some b) w2 c' d' → Dc (fun b => (Value.slice (some ⟨gn, 0, none⟩) (k + 1) capn).ownBlock = some b) w3 c' d' := fun c' d' hdc =>
          hdc.go ⟨hgrow.os, hgrow.tape, hgrow.output, hgrow.size, fun b hb hn => hgrow.block b hb (fun e => hn e.symm)⟩ (fun b hb => (hnew b hb).imp id id)
        refine ⟨k + 1, vs ++ [[f0, f1, f2, f3, f4, f5]], by go_num, by omega, ⟨?_, ⟨?_, ?_⟩, ?_, ?_⟩, ?_⟩
        · rw [List.length_append, HVL.out, List.length_take, HL.out]; simp; omega
        · intro c' hc'
          rcases List.mem_append.1 hc' with h | h
          · exact HLD2.out.r.1 c' h
          · rw [List.mem_singleton.1 h]; rfl
        · have : (vs ++ [[f0, f1, f2, f3, f4, f5]]).length = k + 1 := by rw [List.length_append, HVL.out]; rfl
          rw [this]; exact hown'
        · intro i c' d' hc' hd'
          rcases Nat.lt_or_ge i k with q1 | q1
          · rw [List.getElem?_append_left (by rw [HVL.out]; exact q1)] at hc'
            rw [List.getElem?_take, if_pos (by omega)] at hd'
            exact key _ _ (HLD2.out.d i c' d' hc' (by rw [List.getElem?_take, if_pos q1]; exact hd'))
          · have hi : i < k + 1 := by have := (List.getElem?_eq_some_iff.1 hc').1; rw [List.length_append, HVL.out] at this; simpa using this
            obtain rfl : i = k := by omega
            rw [List.getElem?_append_right (by rw [HVL.out]; exact Nat.le_refl _), HVL.out, Nat.sub_self] at hc'
            rw [List.getElem?_take, if_pos (by omega), HDD.out] at hd'
            injection hc' with hc'
            injection hd' with hd'
            subst hc' hd'
            exact key _ _ HDq.out
        · intro g hg
          rcases hnew g hg with q1 | q1
          · exact HLD2.out.b g q1
          · have := HB2.out.size; rw [HN.out] at this; omega
        · exact HB2.out.grown hgrow (by have := HB2.out.size; rw [HN.out] at this; exact this) (fun g hg => HLD2.out.b g hg)
      case measure => simp [intOf]; omega
    · have hlt' : ¬ (k : Int) < (n1 : Int) := by omega
      obtain rfl : k = n1 := by omega
      have hfull : D.take k = D := List.take_of_length_le (by rw [HL.out]; exact Nat.le_refl _)
      rw [hfull] at HLD
      clear hfull hvl
      go_wp2
      go_ret
      exact ⟨_, rfl, ⟨vs, HLD.out⟩, HB.out⟩
end Go.Proofs.YthkliicmoandmaaGreatDoor

namespace Go.Proofs.YthkliicmoandmaaGreatDoor
open Go.RowKit Go.Shelf
set_option linter.unusedVariables false
set_option linter.unusedSimpArgs false

theorem lentl_any {W : World} {p1 : Option Addr} {n1 k1 : Nat} {D : List MD} (h : Ds W (.slice p1 n1 k1) D) (hz : ∀ d ∈ D, SzD d) (hl : D.length * 96 ≤ 140737488351232) :
    Calls Tryz.prog 8 #[.slice p1 n1 k1] W fun e w' => ∃ p2 k2, e = .returned (.slice p2 n1 k2) ∧ Ds w' (.slice p2 n1 k2) D ∧ Below W.heap.size W w' := by
  have e1 : D.length = n1 := by obtain ⟨a, c, e, _⟩ := h; injection e with _ e2 _; exact e2.symm
  have kc := lents_any h hz hl
  clear h hz hl
  go_enter Tryz.func8, Tryz.ntmps8
  go_wp2_with fail
  refine kc.mono ?_
  clear kc
  rintro e w1 ⟨v, vs, rfl, hv, hb⟩
  have hd := hv.ds
  obtain ⟨p2, k2, rfl, _⟩ := id hd
  rw [e1] at hd ⊢
  clear hv
  go_wp2
  go_ret
  exact ⟨p2, k2, rfl, hd, hb⟩
theorem rq_new {W W' : World} {p : Nat} {a : Option Addr} {n c : Nat} {l : List Int} (h : Ns W (.slice a n c) l) (hl : l.length ≤ 9223372036854775806) (hb : Below W.heap.size W W') (hp : W.heap.size ≤ p) (hx : Bx W' p #[.slice a n c, .int .i64 0] 30) : Rq (fun _ => False) W' p l l := by
  obtain ⟨a', c', e, h0⟩ := h
  injection e with e1 e2 e3
  subst e1 e2 e3
  refine ⟨0, ⟨_, _, hx, hl, Nat.zero_le _, fun hl0 => ?_⟩, List.drop_zero⟩
  obtain ⟨b, off, e1, e2, _, e3⟩ := h0 hl0
  exact ⟨b, off, e1, Nat.lt_of_lt_of_le e2 hb.size, by omega, fun h => h, fun i x hi => (hb.cell (p := ⟨b, _, none⟩) e2).trans (e3 i x hi)⟩
end Go.Proofs.YthkliicmoandmaaGreatDoor

namespace Go.Proofs.YthkliicmoandmaaGreatDoor
open Go.RowKit Go.Shelf
set_option linter.unusedVariables false
set_option linter.unusedSimpArgs false

set_option maxRecDepth 100000 in
set_option maxHeartbeats 4000000 in
theorem open_own {W : World} {p2 : Option Addr} {nd k2 : Nat} {D : List MD} (h : Ds W (.slice p2 nd k2) D) (hD : ∀ d ∈ D, Good d) (hDl : D.length * 8 ≤ 140737488355328) :
    Calls Tryz.prog 13 #[.slice p2 nd k2] W fun e w' => ∃ B s, e = .returned (.func (.func 87) #[] #[.pointer (some ⟨B, 0, none⟩)]) ∧ (∀ (X : Nat → Prop) (w2 : World), (∀ b, X b → b < W.heap.size) → Kept X w' w2 → VaK B s (openAll D) w2) ∧ Below W.heap.size W w' := by
  obtain ⟨N, hN⟩ : ∃ N, W.heap.size = N := ⟨_, rfl⟩
  have hnd : D.length = nd := by obtain ⟨a, c, e, _⟩ := h; injection e with _ e2 _; exact e2.symm
  have HD : Hid (∀ w, Below N W w → Ds w (.slice p2 nd k2) D) := fun w hb => h.below (by rw [hN]; exact hb)
  have HG : Hid _ := hD
  have HDL : Hid _ := hDl
  have HND : Hid (D.length = nd) := hnd
  have HN : Hid (W.heap.size = N) := hN
  rw [hnd] at hDl
  obtain ⟨i0, hi0, hz0, hz1, hz2⟩ := info_parts Tryz.infoI
  clear h hD hnd
  go_enter Tryz.func13, Tryz.ntmps13
  go_wp2
  go_loopw [3, 7] (fun v i wr => ∃ k : Nat, i = .int .i64 (k : Int) ∧ k ≤ nd ∧ Hid (Oi N wr v ((rangeI nd).take k)) ∧ Hid (Below N W wr)) (fun _ i _ => nd - (intOf i).toNat)
  case atStart => exact ⟨0, rfl, Nat.zero_le _, by unfold Hid; simpa [Oi, ivl] using World.ownsRow_nil _ _ _ _, Below.refl _ _⟩
  case round =>
    obtain ⟨k, rfl, hk, HO, HB⟩ := hrel
    obtain ⟨va, vc, rfl⟩ := HO.out.shape
    have hlen : ((rangeI nd).take k).length = k := by rw [List.length_take, rangeI_len]; omega
    rw [hlen] at HO ⊢
    by_cases hlt : k < nd
    · have hlt' : (k : Int) < (nd : Int) := by omega
      have hwk : IntKind.i64.wrap ((k : Int) + 1) = (k : Int) + 1 := by rw [IntKind.wrap_i64]; omega
      have hbytes : (k + 1) * 8 ≤ 140737488355328 := by omega
      have hlenm : k + 1 ≤ maxLen := by unfold maxLen; omega
      have HOW : Hid (wr.ownsRow N 3 1 (.slice va k vc) k (ivl ((rangeI nd).take k))) := by have := HO.out; unfold Oi at this; rw [hlen] at this; exact this
      have HTK : Hid (ivl ((rangeI nd).take (k + 1)) = ivl ((rangeI nd).take k) ++ [.int .i64 (k : Int)] ∧ ((rangeI nd).take (k + 1)).length = k + 1) := by
        unfold Hid ivl; rw [rangeI_take _ _ hlt]; simp [hlen]
      have HSZ : Hid (N ≤ wr.heap.size) := by have := HB.out.size; rw [HN.out] at this; exact this
      have hb1 : Below N W (wr.alloc (Obj.cells #[.int .i64 (k : Int)] 3)) := HB.out.alloc HSZ.out _
      have HB1 : Hid (Below N W (wr.alloc (Obj.cells #[.int .i64 (k : Int)] 3))) := hb1
      clear hb1
      go_wp2_with (at_builtin; refine wpList_append_own _ rfl _ _ 24 rfl N 3 i0 (.int .i64 0) 1 8 Tryz.underlying24 hi0 hz0 hz1 hz2 rfl (by decide) _ _ _ rfl (HOW.out.alloc _) ⟨wr.heap.size, 0, none⟩ 1 1 [.int .i64 (k : Int)] rfl rfl (fun j u hj => by cases j with | zero => (simp at hj; subst hj; simp [Addr.add]) | succ j => simp at hj) (by simp [Value.oneCell']) hlenm hbytes (by simp; have := HSZ.out; omega) ?_; intro v' w1 hown' hgrow _; obtain ⟨gn, capn, rfl⟩ := ownsRow_succ hown')
      go_roundw
      case rel =>
        refine ⟨k + 1, by go_num, by omega, ?_, ?_⟩
        · unfold Hid Oi; rw [HTK.out.1, HTK.out.2]; exact hown'
        · exact HB1.out.grown hgrow (by simp; have := HSZ.out; omega) (fun g hg => own_typN HOW.out hg)
      case measure => simp [intOf]; omega
    · have hlt' : ¬ (k : Int) < (nd : Int) := by omega
      obtain rfl : k = nd := by omega
      have hfull : (rangeI k).take k = rangeI k := List.take_of_length_le (by rw [rangeI_len]; exact Nat.le_refl _)
      rw [hfull] at HO
      clear hlen hfull
      go_upto_region 7 with (fail)
      go_wp2_with fail
      refine (openOf_any va k vc p2 k k2 wr).mono ?_
      rintro e w1 ⟨rfl, hw1⟩
      obtain ⟨M, hM⟩ : ∃ q, wr.heap.size = q := ⟨_, rfl⟩
      have hb1 : Below M wr w1 := by rw [hw1, ← hM]; exact ((Below.refl _ _).alloc (Nat.le_refl _) _).alloc (by simp) _
      have hN1 : N ≤ M := by rw [← hM]; have := HB.out.size; rw [HN.out] at this; exact this
      have hbN1 : Below N W w1 := HB.out.trans (hb1.mono hN1)
      have hK : OpK M (M + 1) (.slice va k vc) (.slice p2 k k2) (rangeI k) D w1 := by
        refine ⟨?_, HO.out.ns.below (by rw [hM]; exact hb1), ?_, HD.out _ hbN1⟩
        · rw [hw1]; exact ((Bx.new' hM _ _).alloc _).cell 0
        · rw [hw1]; exact (Bx.new' (by simp [hM]) _ _).cell 0
      have kc := collect_open hK HG.out (by rw [rangeI_len, ← HND.out]; exact HDL.out) (by have := HDL.out; omega)
      have HB1 : Hid (Below N W w1) := hbN1
      have HOA : Hid (openAll D = openL (rangeI k) D) := by unfold Hid openAll; rw [HND.out]
      rw [hM]
      clear hw1 hb1 hbN1 hK hM
      go_wp2_with fail
      refine kc.mono ?_
      clear kc
      rintro e w2 ⟨v, rfl, ho2, hb2⟩
      obtain ⟨ea, ec, rfl⟩ := ho2.shape
      obtain ⟨en, hen⟩ : ∃ q, (openL (rangeI k) D).length = q := ⟨_, rfl⟩
      rw [hen] at ho2 ⊢
      have HO2 : Hid (Oi w1.heap.size w2 (.slice ea en ec) (openL (rangeI k) D)) := ho2
      have HB2 : Hid (Below N W w2) := HB1.out.trans (hb2.mono (by have := HB1.out.size; rw [HN.out] at this; exact this))
      clear hen ho2 hb2
      go_wp2_with fail
      refine (values_any ea en ec w2).mono ?_
      rintro e w3 ⟨rfl, hw3⟩
      obtain ⟨M2, hM2⟩ : ∃ q, w2.heap.size = q := ⟨_, rfl⟩
      have hb3 : Below w2.heap.size w2 w3 := by rw [hw3]; exact (Below.refl _ _).alloc (Nat.le_refl _) _
      have hN12 : N ≤ w1.heap.size := by have := HB1.out.size; rw [HN.out] at this; exact this
      have hN22 : N ≤ M2 := by rw [← hM2]; have := HB2.out.size; rw [HN.out] at this; exact this
      have hv3 : ∀ (X : Nat → Prop) (w2 : World), (∀ b, X b → b < N) → Kept X w3 w2 → VaK M2 (.slice ea en ec) (openAll D) w2 := by
        intro X wx hX hk
        have ho3 := HO2.out.below hb3
        have hbx : Bx w3 M2 #[.slice ea en ec] 24 := by rw [hw3]; exact Bx.new' hM2 _ _
        refine ⟨?_, ?_⟩
        · exact (hbx.kept hk (fun h => by have := hX _ h; omega)).cell 0
        · rw [HOA.out]
          exact Oi.ns (own_keep ho3 fun g q => hk.block g (ho3.typ q).2.1 (fun h => by have := hX _ h; have := (ho3.typ q).1; omega))
      have HV3 : Hid _ := hv3
      have HB3 : Hid (Below N W w3) := HB2.out.trans (hb3.mono (by have := HB2.out.size; rw [HN.out] at this; exact this))
      rw [hM2]
      clear hw3 hb3 hv3
      go_wp2
      go_ret
      exact ⟨M2, _, rfl, by rw [HN.out]; exact HV3.out, by rw [HN.out]; exact HB3.out⟩
end Go.Proofs.YthkliicmoandmaaGreatDoor
