/-
  What is proved here: put of package parse: texts are written behind a writer's own.
-/
import Derived.Test.YtdnhhmnllhlbbaaGreatDoorOi
import Derived.Test.YtdnhhmnllhlbbaaGreatDoorXJb
import Derived.BigQuiet
namespace Go.Proofs.YtdnhhmnllhlbbaaGreatDoor
open Go.RowKit Go.Shelf
set_option linter.unusedVariables false
set_option linter.unusedSimpArgs false

/-- A writer: its text in own memory, and endless room. -/
structure Wr (W : World) (B g : Nat) (v : Value) (D : List UInt8) : Prop where
  box : Rw W g 123 #[v, .int .i64 9223372036854775807]
  own : W.ownsRow B 5 1 v D.length (Lib.byteCells D)
  ge : B ≤ g
  one : v.oneCell' = true
theorem Wr.lt {W : World} {B g : Nat} {v : Value} {D : List UInt8} (h : Wr W B g v D) : g < W.heap.size := h.box.lt
theorem Wr.below {W W' : World} {B g : Nat} {v : Value} {D : List UInt8} (h : Wr W B g v D) (hb : Below W.heap.size W W') : Wr W' B g v D := ⟨h.box.below hb, own_below h.own hb, h.ge, h.one⟩
theorem Wr.ne {W : World} {B g : Nat} {v : Value} {D : List UInt8} (h : Wr W B g v D) : v.ownBlock ≠ some g := fun e => by
  rcases h.own.2 with ⟨h2, _⟩ | ⟨k, cap, cur, e1, hB, hg, r⟩
  · rw [h2] at e; cases e
  · rw [e1] at e
    injection e with e
    subst e
    have := h.box.h
    rw [hg] at this
    injection this with this
    injection this with _ this _
    cases this
/-- Texts in memory. -/
def Txs (W : World) (s : Value) (P : List (List UInt8)) : Prop := ∃ b c, s = .slice (some ⟨b, 0, none⟩) P.length c ∧ b < W.heap.size ∧ (∃ cs, W.heap[b]? = some (.cells cs 9 (0, 0))) ∧ ∀ i p, P[i]? = some p → W.cell? ⟨b, i, none⟩ = some (.string (bs p))
theorem Txs.block {W W' : World} {b n c : Nat} {P : List (List UInt8)} (h : Txs W (.slice (some ⟨b, 0, none⟩) n c) P) (hb : W'.heap[b]? = W.heap[b]?) : Txs W' (.slice (some ⟨b, 0, none⟩) n c) P := by
  obtain ⟨b', c', e, h1, h2, h3⟩ := h
  injection e with e1 e2 e3
  injection e1 with e1
  injection e1 with e1 _ _
  subst e1 e2
  refine ⟨b, c', by rw [e3], ?_, by rw [hb]; exact h2, fun i p hp => (World.cell?_of_block (a := ⟨b, i, none⟩) hb).trans (h3 i p hp)⟩
  obtain ⟨cs, h2⟩ := h2
  rw [← hb] at h2
  exact (Array.getElem?_eq_some_iff.1 h2).1
theorem own_ne {W : World} {B b n : Nat} {t : TypeId} {v : Value} {xs : List Value} (h : W.ownsRow B 5 1 v n xs) {cs : Array Value} (hb : W.heap[b]? = some (.cells cs t (0, 0))) (ht : t ≠ 5) : v.ownBlock ≠ some b := fun e => by
  rcases h.2 with ⟨h2, _⟩ | ⟨k, cap, cur, e1, hB, hg, r⟩
  · rw [h2] at e; cases e
  · rw [e1] at e
    injection e with e
    subst e
    rw [hg] at hb
    injection hb with this
    injection this with _ this _
    exact ht this.symm
/-- Nothing but bytes and writers turns. -/
def Fr (W X : World) : Prop := ∀ (k : Nat) (cs : Array Value) (t : TypeId), W.heap[k]? = some (.cells cs t (0, 0)) → t ≠ 5 → t ≠ 123 → X.heap[k]? = W.heap[k]?
theorem Fr.refl (W : World) : Fr W W := fun _ _ _ _ _ _ => rfl
theorem Fr.trans {a b c : World} (h : Fr a b) (k : Fr b c) : Fr a c := fun i cs t h1 h2 h3 => by
  have h4 := h i cs t h1 h2 h3
  rw [k i cs t (h4.trans h1) h2 h3, h4]
theorem Fr.of_below {W X : World} (h : Below W.heap.size W X) : Fr W X := fun i cs t h1 _ _ => h.block i (Array.getElem?_eq_some_iff.1 h1).1
theorem Fr.grown {W X : World} {B n : Nat} {v : Value} {xs : List Value} (h : W.ownsRow B 5 1 v n xs) (hg : W.grownBy X v.ownBlock) : Fr W X := fun i cs t h1 h2 _ => hg.block i (Array.getElem?_eq_some_iff.1 h1).1 (fun e => own_ne h h1 h2 e.symm)
theorem Fr.set {W : World} {g : Nat} {cs : Array Value} (h : Rw W g 123 cs) (q : Nat) (u : Value) : Fr W (W.setCell ⟨g, q, none⟩ u) := fun i cs' t h1 _ h3 => Below.heap_setCell _ _ _ _ fun e => by
  have h4 := h.h
  have e' : i = g := e
  rw [← e', h1] at h4
  injection h4 with h4
  injection h4 with _ h4 _
  exact h3 h4
theorem Fr.blk {W X : World} (h : Fr W X) {k : Nat} {cs : Array Value} {t : TypeId} (hk : Blk W k cs t) (h5 : t ≠ 5) (h9 : t ≠ 123) : Blk X k cs t := ⟨(h k cs t hk.h h5 h9).trans hk.h⟩

set_option maxRecDepth 100000 in
set_option maxHeartbeats 4000000 in
theorem put97 {B g b n c : Nat} {W : World} {v : Value} {D : List UInt8} (P : List (List UInt8)) (h : Wr W B g v D) (hP : Txs W (.slice (some ⟨b, 0, none⟩) n c) P) (hlen : P.length = n) (hn : n ≤ 1000) (hsz : D.length + P.flatten.length ≤ 1000000000) :
    Calls Tryz.prog 97 #[.pointer (some ⟨g, 0, none⟩), .slice (some ⟨b, 0, none⟩) n c] W fun e w' => e = .returned (.tuple #[]) ∧ ∃ v', Wr w' B g v' (D ++ P.flatten) ∧ Below B W w' ∧ Fr W w' := by
  have HW : Hid (Wr W B g v D) := h
  have HP : Hid (Txs W (.slice (some ⟨b, 0, none⟩) n c) P) := hP
  have HN : Hid (P.length = n) := hlen
  have HS : Hid (D.length + P.flatten.length ≤ 1000000000) := hsz
  clear h hP hlen hsz
  go_enter Tryz.func97, Tryz.ntmps97
  go_wp2
  go_loopw [8] (fun i wr => ∃ (k : Nat) (vk : Value), k ≤ n ∧ i = .int .i64 (k : Int) ∧ Hid (Wr wr B g vk (D ++ (P.take k).flatten)) ∧ Hid (Txs wr (.slice (some ⟨b, 0, none⟩) n c) P) ∧ Hid (Below B W wr) ∧ Hid (Fr W wr)) (fun i _ => n - (intOf i).toNat)
  case atStart => exact ⟨0, v, Nat.zero_le _, rfl, by simpa using HW, HP, Below.refl _ _, Fr.refl _⟩
  case round =>
    obtain ⟨k, vk, hk, rfl, HWK, HPK, HB, HF⟩ := hrel
    by_cases hlt : k < n
    · have hlt' : (k : Int) < n := by omega
      obtain ⟨p, hp⟩ : ∃ p, P[k]? = some p := ⟨_, List.getElem?_eq_getElem (by rw [HN.out]; exact hlt)⟩
      have y0 : wr.cell? ⟨b, k, none⟩ = some (.string (bs p)) := by
        obtain ⟨b', c', e, h1, h2, h3⟩ := HPK.out
        injection e with e1 e2 e3
        injection e1 with e1
        injection e1 with e1 _ _
        rw [e1]
        exact h3 k p hp
      have htk : (P.take (k + 1)).flatten = (P.take k).flatten ++ p := by rw [List.take_add_one, hp]; simp
      have hfl : (P.take (k + 1)).flatten.length ≤ P.flatten.length := by
        have : P.flatten = (P.take (k + 1)).flatten ++ (P.drop (k + 1)).flatten := by rw [← List.flatten_append, List.take_append_drop]
        rw [this, List.length_append]; omega
      have HTK : Hid ((P.take (k + 1)).flatten = (P.take k).flatten ++ p) := htk
      obtain ⟨E, hE⟩ : ∃ E, D ++ (P.take k).flatten = E := ⟨_, rfl⟩
      have HE : Hid (D ++ (P.take k).flatten = E) := hE
      rw [hE] at HWK
      have hEl : E.length + p.length ≤ 1000000000 := by
        have := HS.out
        rw [htk, List.length_append] at hfl
        rw [← hE, List.length_append]
        omega
      obtain ⟨va, vc, rfl⟩ := own_shape HWK.out.own
      obtain ⟨m, hm⟩ : ∃ m, E.length = m := ⟨_, rfl⟩
      have HM : Hid (E.length = m) := hm
      rw [hm] at HWK hEl
      have hpl : (bs p).size = p.length := bs_size p
      obtain ⟨pl, hpl2⟩ : ∃ q, p.length = q := ⟨_, rfl⟩
      have HPL : Hid (p.length = pl) := hpl2
      rw [hpl2] at hpl hEl
      have z0 : wr.cell? ⟨g, 0, none⟩ = some (.slice va m vc) := HWK.out.box.cell 0 _ rfl
      have z1 : wr.cell? ⟨g, 1, none⟩ = some (.int .i64 9223372036854775807) := HWK.out.box.cell 1 _ rfl
      have hw1 : IntKind.i64.wrap (9223372036854775807 - (m : Int)) = 9223372036854775807 - (m : Int) := by rw [IntKind.wrap_i64]; omega
      have hgt : ¬ (9223372036854775807 - (m : Int)) < (pl : Int) := by omega
      have hw2 : IntKind.i64.wrap ((k : Int) + 1) = (k : Int) + 1 := by rw [IntKind.wrap_i64]; omega
      clear hp htk hfl hE hm hpl2
      go_upto_region 3 with (fail)
      go_quiet (fail)
      obtain ⟨wA, hwA⟩ : ∃ q, wr.drewN nq = q := ⟨_, rfl⟩
      rw [hwA]
      have hbA : Below wr.heap.size wr wA := by rw [← hwA]; exact ⟨rfl, rfl, rfl, Nat.le_refl _, fun _ _ => rfl⟩
      have HWA : Hid (Wr wA B g (.slice va m vc) E) := HWK.out.below hbA
      have HPA : Hid (Txs wA (.slice (some ⟨b, 0, none⟩) n c) P) := by
        obtain ⟨b', c', e, h1, _⟩ := HPK.out
        injection e with e1 e2 e3
        injection e1 with e1
        injection e1 with e1 _ _
        subst e1
        exact HPK.out.block (hbA.block _ h1)
      have HBg : Hid (B ≤ wA.heap.size) := Nat.le_trans HWA.out.ge (Nat.le_of_lt HWA.out.lt)
      have HBA : Hid (Below B W wA) := HB.out.trans (hbA.mono (Nat.le_trans HWK.out.ge (Nat.le_of_lt HWK.out.lt)))
      have HFA : Hid (Fr W wA) := HF.out.trans (Fr.of_below hbA)
      clear hwA hbA HWK HPK HB HF z0 z1 y0 hgt hw1
      have z0 : wA.cell? ⟨g, 0, none⟩ = some (.slice va m vc) := HWA.out.box.cell 0 _ rfl
      clear wr
      have HG : Hid (B ≤ g) := HWA.out.ge
      have hEl' : E.length + p.length ≤ 1000000000000 := by have h1 := HM.out; have h2 := HPL.out; omega
      go_wp2_with (at_builtin; refine wpList_app_s rfl (.tmp 31) (.tmp 32) rfl B _ E p rfl HWA.out.own rfl hEl' HBg.out ?_; intro v3 w3 hown3 hb3 hg3; refine Hid.out ?_)
      refine (show Hid _ from ?_)
      unfold Hid
      obtain ⟨va3, vc3, rfl⟩ := own_shape hown3
      have hgv : w3.heap[g]? = wA.heap[g]? := hg3.block g HWA.out.lt (fun e => HWA.out.ne e.symm)
      have HX3 : Hid (Rw w3 g 123 #[.slice va m vc, .int .i64 9223372036854775807]) := ⟨hgv.trans HWA.out.box.h⟩
      have HP3 : Hid (Txs w3 (.slice (some ⟨b, 0, none⟩) n c) P) := by
        obtain ⟨b', c', e, h1, ⟨cs, h2⟩, h3⟩ := HPA.out
        have e' := e
        injection e with e1 e2 e3
        injection e1 with e1
        injection e1 with e1 _ _
        subst e1
        exact HPA.out.block (hg3.block _ h1 (fun q => own_ne HWA.out.own h2 (by decide) q.symm))
      have HO3 : Hid (w3.ownsRow B 5 1 (.slice va3 (E ++ p).length vc3) (E ++ p).length (Lib.byteCells (E ++ p))) := hown3
      have HB3 : Hid (Below B W w3) := HBA.out.trans hb3
      have HF3 : Hid (Fr W w3) := HFA.out.trans (Fr.grown HWA.out.own hg3)
      obtain ⟨m3, hm3⟩ : ∃ q, (E ++ p).length = q := ⟨_, rfl⟩
      rw [hm3] at HO3
      have HM3 : Hid ((E ++ p).length = m3) := hm3
      rw [hm3]
      clear hown3 hb3 hg3 hgv hm3 HBA HWA HPA HFA z0
      have z3 : w3.cell? ⟨g, 0, none⟩ = some (.slice va m vc) := HX3.out.cell 0 _ rfl
      have zf := (⟨HX3.out.h⟩ : Blk w3 g _ _).frozen 0
      go_wp2
      refine ⟨?_, by simp [intOf]; omega⟩
      · refine ⟨k + 1, .slice va3 m3 vc3, by omega, by go_num, ?_, ?_, HB3.out.setCell HG.out _, HF3.out.trans (Fr.set HX3.out _ _)⟩
        · unfold Hid
          rw [HTK.out, ← List.append_assoc, HE.out]
          refine ⟨⟨row_set HX3.out.h 0 _⟩, ?_, HG.out, by simp [Value.oneCell']⟩
          rw [HM3.out]
          exact ownsRow_setCell_other HO3.out (own_ne HO3.out HX3.out.h (by decide)) _
        · obtain ⟨b', c', e, h1, ⟨cs, h2⟩, h3⟩ := HP3.out
          injection e with e1 e2 e3
          injection e1 with e1
          injection e1 with e1 _ _
          subst e1
          refine HP3.out.block (Below.heap_setCell _ _ _ _ fun q => ?_)
          have h4 := HX3.out.h
          have q' : b = g := q
          rw [← q', h2] at h4
          injection h4 with h4
          injection h4 with _ h4 _
          cases h4
    · have hk' : n = k := by omega
      have hlt' : ¬ (k : Int) < n := by omega
      have HTL : Hid (P.take k = P) := by unfold Hid; rw [← hk', ← HN.out]; exact List.take_length
      rw [HTL.out] at HWK
      go_wp2
      exact ⟨rfl, _, results_none rfl _ _ _, rfl, ⟨_, HWK⟩, HB, HF⟩
end Go.Proofs.YtdnhhmnllhlbbaaGreatDoor
