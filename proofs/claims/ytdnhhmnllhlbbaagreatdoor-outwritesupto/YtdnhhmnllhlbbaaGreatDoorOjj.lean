/-
  What is proved here: put of package parse: texts are written behind a writer's own.
  What is proved here: Texts of numbers and of truths, and expressions of three kinds as a writer writes them.
  What is proved here: parse.Expr of three kinds, and what package out writes with it: numbers and spans.
-/
import Derived.Test.YtdnhhmnllhlbbaaGreatDoorOi
import Derived.Test.YtdnhhmnllhlbbaaGreatDoorXJb
import Derived.BigQuiet
import Derived.Test.YtdnhhmnllhlbbaaGreatDoorXSh
import Derived.Lib.ItoaLen
namespace Go.Proofs.YtdnhhmnllhlbbaaGreatDoor
open Go.RowKit Go.Shelf
set_option linter.unusedVariables false
set_option linter.unusedSimpArgs false

/-- A writer: its text in own memory, and endless room. -/
structure Wr (W : World) (B g : Nat) (v : Value) (D : List UInt8) : Prop where
  box : Rw W g 123 #[v, .int .i64 9223372036854775807]
  own : W.ownsRow B 5 1 v D.length (Lib.byteCells D)
  ge : B ≤ g
  one : v.oneCell' = true
theorem Wr.lt {W : World} {B g : Nat} {v : Value} {D : List UInt8} (h : Wr W B g v D) : g < W.heap.size := h.box.lt
theorem Wr.below {W W' : World} {B g : Nat} {v : Value} {D : List UInt8} (h : Wr W B g v D) (hb : Below W.heap.size W W') : Wr W' B g v D := ⟨h.box.below hb, own_below h.own hb, h.ge, h.one⟩
theorem Wr.ne {W : World} {B g : Nat} {v : Value} {D : List UInt8} (h : Wr W B g v D) : v.ownBlock ≠ some g := fun e => by
  rcases h.own.2 with ⟨h2, _⟩ | ⟨k, cap, cur, e1, hB, hg, r⟩
  · rw [h2] at e; cases e
  · rw [e1] at e
    injection e with e
    subst e
    have := h.box.h
    rw [hg] at this
    injection this with this
    injection this with _ this _
    cases this
/-- Texts in memory. -/
def Txs (W : World) (s : Value) (P : List (List UInt8)) : Prop := ∃ b c, s = .slice (some ⟨b, 0, none⟩) P.length c ∧ b < W.heap.size ∧ (∃ cs, W.heap[b]? = some (.cells cs 9 (0, 0))) ∧ ∀ i p, P[i]? = some p → W.cell? ⟨b, i, none⟩ = some (.string (bs p))
theorem Txs.block {W W' : World} {b n c : Nat} {P : List (List UInt8)} (h : Txs W (.slice (some ⟨b, 0, none⟩) n c) P) (hb : W'.heap[b]? = W.heap[b]?) : Txs W' (.slice (some ⟨b, 0, none⟩) n c) P := by
  obtain ⟨b', c', e, h1, h2, h3⟩ := h
  injection e with e1 e2 e3
  injection e1 with e1
  injection e1 with e1 _ _
  subst e1 e2
  refine ⟨b, c', by rw [e3], ?_, by rw [hb]; exact h2, fun i p hp => (World.cell?_of_block (a := ⟨b, i, none⟩) hb).trans (h3 i p hp)⟩
  obtain ⟨cs, h2⟩ := h2
  rw [← hb] at h2
  exact (Array.getElem?_eq_some_iff.1 h2).1
theorem own_ne {W : World} {B b n : Nat} {t : TypeId} {v : Value} {xs : List Value} (h : W.ownsRow B 5 1 v n xs) {cs : Array Value} (hb : W.heap[b]? = some (.cells cs t (0, 0))) (ht : t ≠ 5) : v.ownBlock ≠ some b := fun e => by
  rcases h.2 with ⟨h2, _⟩ | ⟨k, cap, cur, e1, hB, hg, r⟩
  · rw [h2] at e; cases e
  · rw [e1] at e
    injection e with e
    subst e
    rw [hg] at hb
    injection hb with this
    injection this with _ this _
    exact ht this.symm
/-- Nothing but bytes and writers turns. -/
def Fr (W X : World) : Prop := ∀ (k : Nat) (cs : Array Value) (t : TypeId), W.heap[k]? = some (.cells cs t (0, 0)) → t ≠ 5 → t ≠ 123 → X.heap[k]? = W.heap[k]?
theorem Fr.refl (W : World) : Fr W W := fun _ _ _ _ _ _ => rfl
theorem Fr.trans {a b c : World} (h : Fr a b) (k : Fr b c) : Fr a c := fun i cs t h1 h2 h3 => by
  have h4 := h i cs t h1 h2 h3
  rw [k i cs t (h4.trans h1) h2 h3, h4]
theorem Fr.of_below {W X : World} (h : Below W.heap.size W X) : Fr W X := fun i cs t h1 _ _ => h.block i (Array.getElem?_eq_some_iff.1 h1).1
theorem Fr.grown {W X : World} {B n : Nat} {v : Value} {xs : List Value} (h : W.ownsRow B 5 1 v n xs) (hg : W.grownBy X v.ownBlock) : Fr W X := fun i cs t h1 h2 _ => hg.block i (Array.getElem?_eq_some_iff.1 h1).1 (fun e => own_ne h h1 h2 e.symm)
theorem Fr.set {W : World} {g : Nat} {cs : Array Value} (h : Rw W g 123 cs) (q : Nat) (u : Value) : Fr W (W.setCell ⟨g, q, none⟩ u) := fun i cs' t h1 _ h3 => Below.heap_setCell _ _ _ _ fun e => by
  have h4 := h.h
  have e' : i = g := e
  rw [← e', h1] at h4
  injection h4 with h4
  injection h4 with _ h4 _
  exact h3 h4
theorem Fr.blk {W X : World} (h : Fr W X) {k : Nat} {cs : Array Value} {t : TypeId} (hk : Blk W k cs t) (h5 : t ≠ 5) (h9 : t ≠ 123) : Blk X k cs t := ⟨(h k cs t hk.h h5 h9).trans hk.h⟩

set_option maxRecDepth 100000 in
set_option maxHeartbeats 4000000 in
theorem put97 {B g b n c : Nat} {W : World} {v : Value} {D : List UInt8} (P : List (List UInt8)) (h : Wr W B g v D) (hP : Txs W (.slice (some ⟨b, 0, none⟩) n c) P) (hlen : P.length = n) (hn : n ≤ 1000) (hsz : D.length + P.flatten.length ≤ 1000000000) :
    Calls Tryz.prog 97 #[.pointer (some ⟨g, 0, none⟩), .slice (some ⟨b, 0, none⟩) n c] W fun e w' => e = .returned (.tuple #[]) ∧ ∃ v', Wr w' B g v' (D ++ P.flatten) ∧ Below B W w' ∧ Fr W w' := by
  have HW : Hid (Wr W B g v D) := h
  have HP : Hid (Txs W (.slice (some ⟨b, 0, none⟩) n c) P) := hP
  have HN : Hid (P.length = n) := hlen
  have HS : Hid (D.length + P.flatten.length ≤ 1000000000) := hsz
  clear h hP hlen hsz
  go_enter Tryz.func97, Tryz.ntmps97
  go_wp2
  go_loopw [8] (fun i wr => ∃ (k : Nat) (vk : Value), k ≤ n ∧ i = .int .i64 (k : Int) ∧ Hid (Wr wr B g vk (D ++ (P.take k).flatten)) ∧ Hid (Txs wr (.slice (some ⟨b, 0, none⟩) n c) P) ∧ Hid (Below B W wr) ∧ Hid (Fr W wr)) (fun i _ => n - (intOf i).toNat)
  case atStart => exact ⟨0, v, Nat.zero_le _, rfl, by simpa using HW, HP, Below.refl _ _, Fr.refl _⟩
  case round =>
    obtain ⟨k, vk, hk, rfl, HWK, HPK, HB, HF⟩ := hrel
    by_cases hlt : k < n
    · have hlt' : (k : Int) < n := by omega
      obtain ⟨p, hp⟩ : ∃ p, P[k]? = some p := ⟨_, List.getElem?_eq_getElem (by rw [HN.out]; exact hlt)⟩
      have y0 : wr.cell? ⟨b, k, none⟩ = some (.string (bs p)) := by
        obtain ⟨b', c', e, h1, h2, h3⟩ := HPK.out
        injection e with e1 e2 e3
        injection e1 with e1
        injection e1 with e1 _ _
        rw [e1]
        exact h3 k p hp
      have htk : (P.take (k + 1)).flatten = (P.take k).flatten ++ p := by rw [List.take_add_one, hp]; simp
      have hfl : (P.take (k + 1)).flatten.length ≤ P.flatten.length := by
        have : P.flatten = (P.take (k + 1)).flatten ++ (P.drop (k + 1)).flatten := by rw [← List.flatten_append, List.take_append_drop]
        rw [this, List.length_append]; omega
      have HTK : Hid ((P.take (k + 1)).flatten = (P.take k).flatten ++ p) := htk
      obtain ⟨E, hE⟩ : ∃ E, D ++ (P.take k).flatten = E := ⟨_, rfl⟩
      have HE : Hid (D ++ (P.take k).flatten = E) := hE
      rw [hE] at HWK
      have hEl : E.length + p.length ≤ 1000000000 := by
        have := HS.out
        rw [htk, List.length_append] at hfl
        rw [← hE, List.length_append]
        omega
      obtain ⟨va, vc, rfl⟩ := own_shape HWK.out.own
      obtain ⟨m, hm⟩ : ∃ m, E.length = m := ⟨_, rfl⟩
      have HM : Hid (E.length = m) := hm
      rw [hm] at HWK hEl
      have hpl : (bs p).size = p.length := bs_size p
      obtain ⟨pl, hpl2⟩ : ∃ q, p.length = q := ⟨_, rfl⟩
      have HPL : Hid (p.length = pl) := hpl2
      rw [hpl2] at hpl hEl
      have z0 : wr.cell? ⟨g, 0, none⟩ = some (.slice va m vc) := HWK.out.box.cell 0 _ rfl
      have z1 : wr.cell? ⟨g, 1, none⟩ = some (.int .i64 9223372036854775807) := HWK.out.box.cell 1 _ rfl
      have hw1 : IntKind.i64.wrap (9223372036854775807 - (m : Int)) = 9223372036854775807 - (m : Int) := by rw [IntKind.wrap_i64]; omega
      have hgt : ¬ (9223372036854775807 - (m : Int)) < (pl : Int) := by omega
      have hw2 : IntKind.i64.wrap ((k : Int) + 1) = (k : Int) + 1 := by rw [IntKind.wrap_i64]; omega
      clear hp htk hfl hE hm hpl2
      go_upto_region 3 with (fail)
      go_quiet (fail)
      obtain ⟨wA, hwA⟩ : ∃ q, wr.drewN nq = q := ⟨_, rfl⟩
      rw [hwA]
      have hbA : Below wr.heap.size wr wA := by rw [← hwA]; exact ⟨rfl, rfl, rfl, Nat.le_refl _, fun _ _ => rfl⟩
      have HWA : Hid (Wr wA B g (.slice va m vc) E) := HWK.out.below hbA
      have HPA : Hid (Txs wA (.slice (some ⟨b, 0, none⟩) n c) P) := by
        obtain ⟨b', c', e, h1, _⟩ := HPK.out
        injection e with e1 e2 e3
        injection e1 with e1
        injection e1 with e1 _ _
        subst e1
        exact HPK.out.block (hbA.block _ h1)
      have HBg : Hid (B ≤ wA.heap.size) := Nat.le_trans HWA.out.ge (Nat.le_of_lt HWA.out.lt)
      have HBA : Hid (Below B W wA) := HB.out.trans (hbA.mono (Nat.le_trans HWK.out.ge (Nat.le_of_lt HWK.out.lt)))
      have HFA : Hid (Fr W wA) := HF.out.trans (Fr.of_below hbA)
      clear hwA hbA HWK HPK HB HF z0 z1 y0 hgt hw1
      have z0 : wA.cell? ⟨g, 0, none⟩ = some (.slice va m vc) := HWA.out.box.cell 0 _ rfl
      clear wr
      have HG : Hid (B ≤ g) := HWA.out.ge
      have hEl' : E.length + p.length ≤ 1000000000000 := by have h1 := HM.out; have h2 := HPL.out; omega
      go_wp2_with (at_builtin; refine wpList_app_s rfl (.tmp 31) (.tmp 32) rfl B _ E p rfl HWA.out.own rfl hEl' HBg.out ?_; intro v3 w3 hown3 hb3 hg3; refine Hid.out ?_)
      refine (show Hid _ from ?_)
      unfold Hid
      obtain ⟨va3, vc3, rfl⟩ := own_shape hown3
      have hgv : w3.heap[g]? = wA.heap[g]? := hg3.block g HWA.out.lt (fun e => HWA.out.ne e.symm)
      have HX3 : Hid (Rw w3 g 123 #[.slice va m vc, .int .i64 9223372036854775807]) := ⟨hgv.trans HWA.out.box.h⟩
      have HP3 : Hid (Txs w3 (.slice (some ⟨b, 0, none⟩) n c) P) := by
        obtain ⟨b', c', e, h1, ⟨cs, h2⟩, h3⟩ := HPA.out
        have e' := e
        injection e with e1 e2 e3
        injection e1 with e1
        injection e1 with e1 _ _
        subst e1
        exact HPA.out.block (hg3.block _ h1 (fun q => own_ne HWA.out.own h2 (by decide) q.symm))
      have HO3 : Hid (w3.ownsRow B 5 1 (.slice va3 (E ++ p).length vc3) (E ++ p).length (Lib.byteCells (E ++ p))) := hown3
      have HB3 : Hid (Below B W w3) := HBA.out.trans hb3
      have HF3 : Hid (Fr W w3) := HFA.out.trans (Fr.grown HWA.out.own hg3)
      obtain ⟨m3, hm3⟩ : ∃ q, (E ++ p).length = q := ⟨_, rfl⟩
      rw [hm3] at HO3
      have HM3 : Hid ((E ++ p).length = m3) := hm3
      rw [hm3]
      clear hown3 hb3 hg3 hgv hm3 HBA HWA HPA HFA z0
      have z3 : w3.cell? ⟨g, 0, none⟩ = some (.slice va m vc) := HX3.out.cell 0 _ rfl
      have zf := (⟨HX3.out.h⟩ : Blk w3 g _ _).frozen 0
      go_wp2
      refine ⟨?_, by simp [intOf]; omega⟩
      · refine ⟨k + 1, .slice va3 m3 vc3, by omega, by go_num, ?_, ?_, HB3.out.setCell HG.out _, HF3.out.trans (Fr.set HX3.out _ _)⟩
        · unfold Hid
          rw [HTK.out, ← List.append_assoc, HE.out]
          refine ⟨⟨row_set HX3.out.h 0 _⟩, ?_, HG.out, by simp [Value.oneCell']⟩
          rw [HM3.out]
          exact ownsRow_setCell_other HO3.out (own_ne HO3.out HX3.out.h (by decide)) _
        · obtain ⟨b', c', e, h1, ⟨cs, h2⟩, h3⟩ := HP3.out
          injection e with e1 e2 e3
          injection e1 with e1
          injection e1 with e1 _ _
          subst e1
          refine HP3.out.block (Below.heap_setCell _ _ _ _ fun q => ?_)
          have h4 := HX3.out.h
          have q' : b = g := q
          rw [← q', h2] at h4
          injection h4 with h4
          injection h4 with _ h4 _
          cases h4
    · have hk' : n = k := by omega
      have hlt' : ¬ (k : Int) < n := by omega
      have HTL : Hid (P.take k = P) := by unfold Hid; rw [← hk', ← HN.out]; exact List.take_length
      rw [HTL.out] at HWK
      go_wp2
      exact ⟨rfl, _, results_none rfl _ _ _, rfl, ⟨_, HWK⟩, HB, HF⟩
end Go.Proofs.YtdnhhmnllhlbbaaGreatDoor

namespace Go.Proofs.YtdnhhmnllhlbbaaGreatDoor
open Go.RowKit Go.Shelf
set_option linter.unusedVariables false
set_option linter.unusedSimpArgs false

/-- A truth as text. -/
def truT (x : Int) : List UInt8 := if x = 1 then [116, 114, 117, 101] else [102, 97, 108, 115, 101]

set_option maxRecDepth 100000 in
set_option maxHeartbeats 4000000 in
theorem truth98 (x : Int) (W : World) : Calls Tryz.prog 98 #[.int .i64 x] W fun e w' => e = .returned (.string (bs (truT x))) ∧ w' = W := by
  unfold truT
  by_cases h : x = 1
  · subst h
    go_enter Tryz.func98, Tryz.ntmps98
    go_wp2
    go_ret
    exact ⟨rfl, rfl⟩
  · rw [if_neg h]
    go_enter Tryz.func98, Tryz.ntmps98
    go_wp2
    go_ret
    exact ⟨rfl, rfl⟩
theorem below_growP {B : Nat} {W w : World} (h : Below B W w) (os : Array Obj) (hB : B ≤ w.heap.size) : Below B W (Sort.grow w os) :=
  ⟨h.os, h.tape, h.output, by show W.heap.size ≤ (w.heap ++ os).size; rw [Array.size_append]; have := h.size; omega, fun k hk => by
    rw [← h.block k hk]
    show (w.heap ++ os)[k]? = w.heap[k]?
    rw [Array.getElem?_append_left (by omega)]⟩
theorem fint68 (n : Int) (h0 : -9223372036854775808 ≤ n) (h1 : n ≤ 9223372036854775807) (W : World) (hT : Tens W) : Calls Tryz.prog 68 #[.int .i64 n, .int .i64 10] W fun e w' => e = .returned (.string (bs (Lib.itoa n))) ∧ Below W.heap.size W w' :=
  (Any.strconv_FormatInt_10 Tryz.laysFint n h0 h1 W hT).mono fun e w' h => by
    obtain ⟨he, k, os, rfl⟩ := h
    exact ⟨he, below_growP (⟨rfl, rfl, rfl, Nat.le_refl _, fun _ _ => rfl⟩ : Below W.heap.size W (W.drewN k)) os (Nat.le_refl _)⟩

set_option maxRecDepth 100000 in
set_option maxHeartbeats 4000000 in
theorem digits99 (n : Int) (h0 : -9223372036854775808 ≤ n) (h1 : n ≤ 9223372036854775807) (W : World) (hT : Tens W) : Calls Tryz.prog 99 #[.int .i64 n] W fun e w' => e = .returned (.string (bs (Lib.itoa n))) ∧ Below W.heap.size W w' := by
  have hF := fint68 n h0 h1 W hT
  go_enter Tryz.func99, Tryz.ntmps99
  go_wp2_with fail
  refine hF.mono ?_
  rintro e w' ⟨rfl, hb⟩
  clear hF
  go_wp2
  go_ret
  exact ⟨rfl, hb⟩

/-- An expression of a kind below four. -/
def exV (k n m : Int) : Value := .agg #[.int .i64 k, .int .i64 n, .int .i64 m, .string ⟨#[]⟩, .slice none 0 0]
theorem Txs.new (w : World) (P : List (List UInt8)) (cs : Array Value) (h : cs = (P.map fun p => Value.string (bs p)).toArray) : Txs (w.alloc (Obj.cells cs 9)) (.slice (some ⟨w.heap.size, 0, none⟩) P.length P.length) P := by
  have hb : (w.alloc (Obj.cells cs 9)).heap[w.heap.size]? = some (.cells cs 9 (0, 0)) := (Blk.new w cs 9).h
  refine ⟨w.heap.size, _, rfl, (Array.getElem?_eq_some_iff.1 hb).1, ⟨_, hb⟩, fun i p hp => ?_⟩
  rw [(⟨hb⟩ : Blk _ _ _ _).cell i, h]
  simp [hp]

set_option maxRecDepth 100000 in
set_option maxHeartbeats 4000000 in
theorem expr_1 {B g : Nat} {W : World} {v : Value} {D : List UInt8} (x : Int) (h : Wr W B g v D) (hsz : D.length ≤ 900000000) :
    Calls Tryz.prog 76 #[.pointer (some ⟨g, 0, none⟩), exV 1 x 0] W fun e w' => e = .returned (.tuple #[]) ∧ ∃ v', Wr w' B g v' (D ++ truT x) ∧ Below B W w' := by
  have HW : Hid (Wr W B g v D) := h
  clear h
  unfold exV
  go_enter Tryz.func76, Tryz.ntmps76
  go_wp2_with fail
  have HG0 : Hid (B ≤ W.heap.size) := Nat.le_trans HW.out.ge (Nat.le_of_lt HW.out.lt)
  obtain ⟨cx, hcx⟩ : ∃ q, Obj.cells #[Value.int .i64 1, .int .i64 x, .int .i64 0, .string ⟨#[]⟩, .slice none 0 0] 97 = q := ⟨_, rfl⟩
  rw [hcx]
  obtain ⟨w0, hw0⟩ : ∃ q, W.alloc cx = q := ⟨_, rfl⟩
  rw [hw0]
  have hb0 : Below W.heap.size W w0 := by rw [← hw0]; exact (Below.refl _ _).alloc (Nat.le_refl _) _
  have HW0 : Hid (Wr w0 B g v D) := HW.out.below hb0
  have HB0 : Hid (Below B W w0) := hb0.mono HG0.out
  clear hw0 hcx hb0
  refine (truth98 x _).mono ?_
  rintro e w' ⟨rfl, hw'⟩
  rw [hw']
  clear hw'
  go_wp2_with fail
  obtain ⟨w1, hw1⟩ : ∃ q, w0.alloc (Obj.cells #[Value.string (bs (truT x))] 9) = q := ⟨_, rfl⟩
  have HT1 : Hid (Txs w1 (.slice (some ⟨w0.heap.size, 0, none⟩) 1 1) [truT x]) := by rw [← hw1]; exact Txs.new w0 [truT x] _ rfl
  have HB1 : Hid (Below w0.heap.size w0 w1) := by rw [← hw1]; exact (Below.refl _ _).alloc (Nat.le_refl _) _
  rw [hw1]
  clear hw1
  have HG1 : Hid (B ≤ w0.heap.size) := Nat.le_trans HW0.out.ge (Nat.le_of_lt HW0.out.lt)
  have htl : (truT x).length ≤ 5 := by unfold truT; split <;> simp
  have hp := put97 (n := 1) (c := 1) [truT x] (HW0.out.below HB1.out) HT1.out rfl (by omega) (by simp; omega)
  refine hp.mono ?_
  rintro e w2 ⟨rfl, v2, hv2, hb2, hf2⟩
  clear hp
  go_wp2
  exact ⟨rfl, _, results_none rfl _ _ _, rfl, v2, by simpa using hv2, HB0.out.trans ((HB1.out.mono HG1.out).trans hb2)⟩

set_option maxRecDepth 100000 in
set_option maxHeartbeats 4000000 in
theorem expr_2 {B g : Nat} {W : World} {v : Value} {D : List UInt8} (n : Int) (h0 : -9223372036854775808 ≤ n) (h1 : n ≤ 9223372036854775807) (hT : Tens W) (h : Wr W B g v D) (hsz : D.length ≤ 900000000) :
    Calls Tryz.prog 76 #[.pointer (some ⟨g, 0, none⟩), exV 2 n 0] W fun e w' => e = .returned (.tuple #[]) ∧ ∃ v', Wr w' B g v' (D ++ Lib.itoa n) ∧ Below B W w' := by
  have HW : Hid (Wr W B g v D) := h
  have HT : Hid (Tens W) := hT
  clear h hT
  unfold exV
  go_enter Tryz.func76, Tryz.ntmps76
  go_upto_region 5 with (fail)
  have HG0 : Hid (B ≤ W.heap.size) := Nat.le_trans HW.out.ge (Nat.le_of_lt HW.out.lt)
  obtain ⟨A, hA⟩ : ∃ A, W.heap.size = A := ⟨_, rfl⟩
  rw [hA]
  obtain ⟨w0, hw0⟩ : ∃ q, W.alloc (Obj.cells #[Value.int .i64 2, .int .i64 n, .int .i64 0, .string ⟨#[]⟩, .slice none 0 0] 97) = q := ⟨_, rfl⟩
  rw [hw0]
  have hb0 : Below W.heap.size W w0 := by rw [← hw0]; exact (Below.refl _ _).alloc (Nat.le_refl _) _
  have HX0 : Hid (Blk w0 A #[Value.int .i64 2, .int .i64 n, .int .i64 0, .string ⟨#[]⟩, .slice none 0 0] 97) := by rw [← hw0, ← hA]; exact Blk.new _ _ _
  have HW0 : Hid (Wr w0 B g v D) := HW.out.below hb0
  have HT0 : Hid (Tens w0) := HT.out.self hb0
  have HB0 : Hid (Below B W w0) := hb0.mono HG0.out
  have HG1 : Hid (B ≤ w0.heap.size) := Nat.le_trans HW0.out.ge (Nat.le_of_lt HW0.out.lt)
  clear hw0 hb0 hA HW HT
  have x1 : w0.cell? ⟨A, 1, none⟩ = some (.int .i64 n) := HX0.out.cell 1
  have hF := digits99 n h0 h1 w0 HT0.out
  go_wp2_with fail
  refine hF.mono ?_
  rintro e w1 ⟨rfl, hb1⟩
  clear hF x1
  have HW1 : Hid (Wr w1 B g v D) := HW0.out.below hb1
  have HG2 : Hid (B ≤ w1.heap.size) := Nat.le_trans HW1.out.ge (Nat.le_of_lt HW1.out.lt)
  have HB1 : Hid (Below B W w1) := HB0.out.trans (hb1.mono HG1.out)
  clear hb1
  go_wp2_with fail
  obtain ⟨w2, hw2⟩ : ∃ q, w1.alloc (Obj.cells #[Value.string (bs (Lib.itoa n))] 9) = q := ⟨_, rfl⟩
  have HT2 : Hid (Txs w2 (.slice (some ⟨w1.heap.size, 0, none⟩) 1 1) [Lib.itoa n]) := by rw [← hw2]; exact Txs.new w1 [Lib.itoa n] _ rfl
  have HB2 : Hid (Below w1.heap.size w1 w2) := by rw [← hw2]; exact (Below.refl _ _).alloc (Nat.le_refl _) _
  rw [hw2]
  clear hw2
  have htl : (Lib.itoa n).length ≤ 21 := Lib.itoa_length_le n h0 h1
  have hp := put97 (n := 1) (c := 1) [Lib.itoa n] (HW1.out.below HB2.out) HT2.out rfl (by omega) (by simp; omega)
  refine hp.mono ?_
  rintro e w3 ⟨rfl, v2, hv2, hb2, hf2⟩
  clear hp
  go_wp2
  exact ⟨rfl, _, results_none rfl _ _ _, rfl, v2, by simpa using hv2, HB1.out.trans ((HB2.out.mono HG2.out).trans hb2)⟩

set_option maxRecDepth 100000 in
set_option maxHeartbeats 4000000 in
theorem expr_3 {B g : Nat} {W : World} {v : Value} {D : List UInt8} (n m : Int) (h0 : -9223372036854775808 ≤ n) (h1 : n ≤ 9223372036854775807) (m0 : -9223372036854775808 ≤ m) (m1 : m ≤ 9223372036854775807) (hT : Tens W) (h : Wr W B g v D) (hsz : D.length ≤ 900000000) :
    Calls Tryz.prog 76 #[.pointer (some ⟨g, 0, none⟩), exV 3 n m] W fun e w' => e = .returned (.tuple #[]) ∧ ∃ v', Wr w' B g v' (D ++ (Lib.itoa n ++ [46, 46] ++ Lib.itoa m)) ∧ Below B W w' := by
  have HW : Hid (Wr W B g v D) := h
  have HT : Hid (Tens W) := hT
  clear h hT
  unfold exV
  go_enter Tryz.func76, Tryz.ntmps76
  go_upto_region 7 with (fail)
  have HG0 : Hid (B ≤ W.heap.size) := Nat.le_trans HW.out.ge (Nat.le_of_lt HW.out.lt)
  obtain ⟨A, hA⟩ : ∃ A, W.heap.size = A := ⟨_, rfl⟩
  rw [hA]
  obtain ⟨w0, hw0⟩ : ∃ q, W.alloc (Obj.cells #[Value.int .i64 3, .int .i64 n, .int .i64 m, .string ⟨#[]⟩, .slice none 0 0] 97) = q := ⟨_, rfl⟩
  rw [hw0]
  have hb0 : Below W.heap.size W w0 := by rw [← hw0]; exact (Below.refl _ _).alloc (Nat.le_refl _) _
  have HX0 : Hid (Blk w0 A #[Value.int .i64 3, .int .i64 n, .int .i64 m, .string ⟨#[]⟩, .slice none 0 0] 97) := by rw [← hw0, ← hA]; exact Blk.new _ _ _
  have HW0 : Hid (Wr w0 B g v D) := HW.out.below hb0
  have HT0 : Hid (Tens w0) := HT.out.self hb0
  have HB0 : Hid (Below B W w0) := hb0.mono HG0.out
  have HG1 : Hid (B ≤ w0.heap.size) := Nat.le_trans HW0.out.ge (Nat.le_of_lt HW0.out.lt)
  clear hw0 hb0 hA HW HT
  have KF : Hid (∀ X (n : Int), -9223372036854775808 ≤ n → n ≤ 9223372036854775807 → Below w0.heap.size w0 X → Calls Tryz.prog 99 #[.int .i64 n] X fun e w' => e = .returned (.string (bs (Lib.itoa n))) ∧ Below X.heap.size X w') := fun X n h0 h1 hb => digits99 n h0 h1 X (HT0.out.self hb)
  have HP0 : Hid (Below w0.heap.size w0 w0.drew) := (Below.refl _ _).drew
  refine wp_region_held_drew (S := fun X : World => Blk X A #[Value.int .i64 3, .int .i64 n, .int .i64 m, .string ⟨#[]⟩, .slice none 0 0] 97) (by kernel_rfl) (HX0.out.below HP0.out) (fun hHeld => ?_)
  refine tkI 0 rfl hHeld ?_
  try simp only [Act.put, zS, eZ, eS]
  refine tkI 1 rfl hHeld ?_
  try simp only [Act.put, zS, eZ, eS]
  refine tkI 2 rfl hHeld ?_ (hy := by intro w hSw; have x1 := hSw.cell 1; have x2 := hSw.cell 2; go_simp <;> with_reducible rfl)
  try simp only [Act.put, zS, eZ, eS]
  refine tkI 4 rfl hHeld ?_
  try simp only [Act.put, zS, eZ, eS]
  refine tkI 5 rfl hHeld ?_ (hy := by intro w hSw; have x1 := hSw.cell 1; have x2 := hSw.cell 2; go_simp <;> with_reducible rfl)
  try simp only [Act.put, zS, eZ, eS]
  refine rdy 3 rfl fun K hK => ?_
  go_simp
  refine (KF.out _ n h0 h1 HP0.out).mono ?_
  rintro e w1 ⟨rfl, hb⟩
  have HP1 : Hid (Below w0.heap.size w0 w1) := HP0.out.trans (hb.mono HP0.out.size)
  clear hb
  clear hHeld; refine hK.out _ _ (HX0.out.below HP1.out) fun hHeld => ?_
  clear hK K
  try simp only [Act.put, zS, eZ, eS]
  refine rdy 6 rfl fun K hK => ?_
  go_simp
  refine (KF.out _ m m0 m1 HP1.out).mono ?_
  rintro e w2 ⟨rfl, hb⟩
  have HP2 : Hid (Below w0.heap.size w0 w2) := HP1.out.trans (hb.mono HP1.out.size)
  clear hb
  clear hHeld; refine hK.out _ _ (HX0.out.below HP2.out) fun hHeld => ?_
  clear hK K
  try simp only [Act.put, zS, eZ, eS]
  refine rdy 7 rfl fun K hK => ?_
  obtain ⟨b2, hbs⟩ : ∃ q, w2.heap.size = q := ⟨_, rfl⟩
  go_simp
  (try rw [hbs])
  obtain ⟨w3, hw3⟩ : ∃ q, w2.alloc (Obj.cells #[Value.string (bs (Lib.itoa n)), .string ⟨#[46, 46]⟩, .string (bs (Lib.itoa m))] 9) = q := ⟨_, rfl⟩
  have HT3 : Hid (Txs w3 (.slice (some ⟨b2, 0, none⟩) 3 3) [Lib.itoa n, [46, 46], Lib.itoa m]) := by rw [← hw3, ← hbs]; exact Txs.new w2 [Lib.itoa n, [46, 46], Lib.itoa m] _ rfl
  have HP3 : Hid (Below w0.heap.size w0 w3) := by rw [← hw3]; exact HP2.out.alloc HP2.out.size _
  rw [hw3]
  clear hw3 hbs
  clear hHeld; refine hK.out _ _ (HX0.out.below HP3.out) fun hHeld => ?_
  clear hK K
  try simp only [Act.put, zS, eZ, eS]
  refine rdy 8 rfl fun K hK => ?_
  have ln := Lib.itoa_length_le n h0 h1
  have lm := Lib.itoa_length_le m m0 m1
  have hp := put97 (n := 3) (c := 3) [Lib.itoa n, [46, 46], Lib.itoa m] (HW0.out.below HP3.out) HT3.out rfl (by omega) (by simp; omega)
  go_simp
  refine hp.mono ?_
  rintro e w4 ⟨rfl, v2, hv2, hb2, hf2⟩
  have HX4 : Hid (Blk w4 A #[Value.int .i64 3, .int .i64 n, .int .i64 m, .string ⟨#[]⟩, .slice none 0 0] 97) := (Fr.of_below HP3.out).trans hf2 |>.blk HX0.out (by decide) (by decide)
  have HV : Hid _ := hv2
  have HB4 : Hid (Below B W w4) := (HB0.out.trans (HP3.out.mono HG1.out)).trans hb2
  clear hp hv2 hb2 hf2 ln lm
  clear hHeld; refine hK.out _ _ (HX4.out) fun hHeld => ?_
  clear hK K
  try simp only [Act.put, zS, eZ, eS]
  refine wpAnyH_done (by kernel_rfl) ?_ _
  go_wp2
  exact ⟨rfl, _, results_none rfl _ _ _, rfl, v2, by have := HV.out; simpa using this, HB4.out⟩
end Go.Proofs.YtdnhhmnllhlbbaaGreatDoor

namespace Go.Proofs.YtdnhhmnllhlbbaaGreatDoor
open Go.RowKit Go.Shelf
set_option linter.unusedVariables false
set_option linter.unusedSimpArgs false

theorem itoa_pos (x : Int) : 0 < (Lib.itoa x).length := by
  obtain ⟨c, r, h, _⟩ := itoa_form x
  rw [h]; simp
/-- What an expression's text is. -/
structure Exs (k n m : Int) (T : List UInt8) : Prop where
  calls : ∀ {B g : Nat} {W : World} {v : Value} {D : List UInt8}, Tens W → Wr W B g v D → D.length ≤ 900000000 → Calls Tryz.prog 76 #[.pointer (some ⟨g, 0, none⟩), exV k n m] W fun e w' => e = .returned (.tuple #[]) ∧ ∃ v', Wr w' B g v' (D ++ T) ∧ Below B W w'
  len : T.length ≤ 1000
  pos : 0 < T.length
theorem exs_1 (x : Int) : Exs 1 x 0 (truT x) := ⟨fun _ h hD => expr_1 x h hD, by unfold truT; split <;> simp, by unfold truT; split <;> simp⟩
theorem exs_2 (n : Int) (h0 : -9223372036854775808 ≤ n) (h1 : n ≤ 9223372036854775807) : Exs 2 n 0 (Lib.itoa n) := ⟨fun hT h hD => expr_2 n h0 h1 hT h hD, Nat.le_trans (Lib.itoa_length_le n h0 h1) (by decide), itoa_pos n⟩
theorem exs_3 (n m : Int) (h0 : -9223372036854775808 ≤ n) (h1 : n ≤ 9223372036854775807) (m0 : -9223372036854775808 ≤ m) (m1 : m ≤ 9223372036854775807) : Exs 3 n m (Lib.itoa n ++ [46, 46] ++ Lib.itoa m) := ⟨fun hT h hD => expr_3 n m h0 h1 m0 m1 hT h hD, by have := Lib.itoa_length_le n h0 h1; have := Lib.itoa_length_le m m0 m1; simp; omega, by have := itoa_pos n; simp; omega⟩

set_option maxRecDepth 100000 in
set_option maxHeartbeats 4000000 in
theorem pexpr51 {k n m : Int} {T : List UInt8} {W : World} (h : Exs k n m T) (hT : Tens W) : Calls Tryz.prog 51 #[exV k n m] W fun e w' => e = .returned (.string (bs T)) ∧ Below W.heap.size W w' := by
  have HE : Hid (Exs k n m T) := h
  have HT : Hid (Tens W) := hT
  clear h hT
  obtain ⟨E, hE⟩ : ∃ E, exV k n m = E := ⟨_, rfl⟩
  have hE2 : ∃ a b c d e, E = .agg #[a, b, c, d, e] := ⟨_, _, _, _, _, hE.symm⟩
  obtain ⟨a, b, c, d, e, rfl⟩ := hE2
  have HEE : Hid _ := hE
  rw [hE]
  clear hE
  go_enter Tryz.func51, Tryz.ntmps51
  go_wp2_with fail
  obtain ⟨A, hA⟩ : ∃ A, W.heap.size + 1 = A := ⟨_, rfl⟩
  obtain ⟨w0, hw0⟩ : ∃ q, W.alloc (Obj.cells #[a, b, c, d, e] 97) = q := ⟨_, rfl⟩
  obtain ⟨w1, hw1⟩ : ∃ q, w0.alloc (Obj.cells #[Value.slice none 0 0, .int .i64 9223372036854775807] 123) = q := ⟨_, rfl⟩
  have hs0 : w0.heap.size = A := by rw [← hw0, ← hA, World.size_alloc]
  have hb1 : Below W.heap.size W w1 := by rw [← hw1, ← hw0]; exact ((Below.refl _ _).alloc (Nat.le_refl _) _).alloc (by rw [World.size_alloc]; omega) _
  have HW1 : Hid (Wr w1 W.heap.size A (.slice none 0 0) []) := ⟨⟨by rw [← hw1, ← hs0]; exact (Blk.new w0 _ _).h⟩, World.ownsRow_nil _ _ _ _, by omega, rfl⟩
  have HT1 : Hid (Tens w1) := HT.out.self hb1
  have HB1 : Hid (Below W.heap.size W w1) := hb1
  have hX := HE.out.calls HT1.out HW1.out (by simp)
  rw [HEE.out] at hX
  rw [hw0, hw1, hA]
  clear hw0 hw1 hs0 hb1 hA
  refine hX.mono ?_
  rintro e' w2 ⟨rfl, v2, hv2, hb2⟩
  clear hX
  rw [List.nil_append] at hv2
  obtain ⟨g2, cap2, rfl, hg2, hg2l, hcv⟩ := conv_back _ _ _ T HE.out.pos hv2.own
  have z0 : w2.cell? ⟨A, 0, none⟩ = some (.slice (some ⟨g2, 0, none⟩) T.length cap2) := hv2.box.cell 0 _ rfl
  have HCV := hcv w2 (Below.refl _ _)
  have HB2 : Hid (Below W.heap.size W w2) := HB1.out.trans hb2
  have hle := HE.out.len
  obtain ⟨l, hl⟩ : ∃ l, T.length = l := ⟨_, rfl⟩
  rw [hl] at z0 HCV hle
  clear hv2 hb2 hcv hg2 hg2l hl
  go_wp2_with fail
  go_ret
  exact ⟨rfl, HB2.out⟩

set_option maxRecDepth 100000 in
set_option maxHeartbeats 4000000 in
theorem digits52 (n : Int) (h0 : -9223372036854775808 ≤ n) (h1 : n ≤ 9223372036854775807) (W : World) (hT : Tens W) : Calls Tryz.prog 52 #[.int .i64 n] W fun e w' => e = .returned (.string (bs (Lib.itoa n))) ∧ Below W.heap.size W w' := by
  have hX : Calls Tryz.prog 51 #[.agg #[.int .i64 2, .int .i64 n, .int .i64 0, .string ⟨#[]⟩, .slice none 0 0]] W fun e w' => e = .returned (.string (bs (Lib.itoa n))) ∧ Below W.heap.size W w' := pexpr51 (exs_2 n h0 h1) hT
  go_enter Tryz.func52, Tryz.ntmps52
  go_wp2_with fail
  refine hX.mono ?_
  rintro e w2 ⟨rfl, hb2⟩
  clear hX
  go_wp2_with fail
  go_ret
  exact ⟨rfl, hb2⟩
/-- A span as text. -/
def spanT (n m : Int) : List UInt8 := Lib.itoa n ++ [46, 46] ++ Lib.itoa m

set_option maxRecDepth 100000 in
set_option maxHeartbeats 4000000 in
theorem span50 (n m : Int) (h0 : -9223372036854775808 ≤ n) (h1 : n ≤ 9223372036854775807) (m0 : -9223372036854775808 ≤ m) (m1 : m ≤ 9223372036854775807) (W : World) (hT : Tens W) : Calls Tryz.prog 50 #[.int .i64 n, .int .i64 m] W fun e w' => e = .returned (.string (bs (spanT n m))) ∧ Below W.heap.size W w' := by
  have hX : Calls Tryz.prog 51 #[.agg #[.int .i64 3, .int .i64 n, .int .i64 m, .string ⟨#[]⟩, .slice none 0 0]] W fun e w' => e = .returned (.string (bs (spanT n m))) ∧ Below W.heap.size W w' := pexpr51 (exs_3 n m h0 h1 m0 m1) hT
  go_enter Tryz.func50, Tryz.ntmps50
  go_wp2_with fail
  refine hX.mono ?_
  rintro e w2 ⟨rfl, hb2⟩
  clear hX
  go_wp2_with fail
  go_ret
  exact ⟨rfl, hb2⟩
end Go.Proofs.YtdnhhmnllhlbbaaGreatDoor
