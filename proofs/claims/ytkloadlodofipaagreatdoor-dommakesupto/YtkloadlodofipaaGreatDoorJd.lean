/-
  What is proved here: the walk of DomJoins.
-/
import Derived.Test.YtkloadlodofipaaGreatDoorJb
import Derived.Test.YtkloadlodofipaaGreatDoorJc
import Derived.Test.YtkloadlodofipaaGreatDoorYo
namespace Go.Proofs.YtkloadlodofipaaGreatDoor
open Go.RowKit Go.Shelf
set_option linter.unusedVariables false

/-- A call made a new row of the ranges L. -/
def Made (w : World) (L : List Rg) (e : Ending) (w' : World) : Prop := ∃ a n c, e = .returned (.slice a n c) ∧ w'.ownsRow w.heap.size 55 2 (.slice a n c) L.length (flat L) ∧ Below w.heap.size w w'
def MadeE (w : World) (L : List Rg) (ec : Int) (e : Ending) (w' : World) : Prop := ∃ a n c, e = .returned (.tuple #[.slice a n c, .int .i64 ec]) ∧ w'.ownsRow w.heap.size 55 2 (.slice a n c) L.length (flat L) ∧ Below w.heap.size w w'
theorem made_of {w : World} {L : List Rg} {e : Ending} {w' : World} (h : ∃ s', e = .returned s' ∧ w'.ownsRow w.heap.size 55 2 s' L.length (flat L) ∧ Below w.heap.size w w') : Made w L e w' := by
  obtain ⟨s', rfl, hr, hb⟩ := h
  obtain ⟨a, c, rfl, _, _⟩ := own_shape hr
  exact ⟨a, _, c, rfl, hr, hb⟩
def enL (l : List Rg) : List Rg := if (nf l).length ≤ 4096 then nf l else []
def enC (l : List Rg) : Int := if (nf l).length ≤ 4096 then 0 else 4
theorem made_norm {l : List Rg} {w : World} {e : Ending} {w' : World} (hnb : ¬ bad l) (h : NormEnd l w e w') : MadeE w (enL l) (enC l) e w' := by
  obtain ⟨s, c, rfl, hb, hc⟩ := h
  unfold enL enC
  rcases hc with ⟨h, _⟩ | ⟨_, rfl, hl, hr, _⟩ | ⟨_, rfl, hl, rfl⟩
  · exact absurd h hnb
  · rw [if_pos hl, if_pos hl]
    obtain ⟨a, c, rfl, _, _⟩ := own_shape hr
    exact ⟨a, _, c, rfl, hr, hb⟩
  · rw [if_neg (by omega), if_neg (by omega)]
    exact ⟨none, 0, 0, rfl, World.ownsRow_nil _ _ _ _, hb⟩
def leL (a b : List Rg) : List Rg := if (ov (tk a) (notL (tk b))).length ≤ 4096 then ov (tk a) (notL (tk b)) else []
def leC (a b : List Rg) : Int := if (ov (tk a) (notL (tk b))).length ≤ 4096 then 0 else 4
theorem made_less {la lb : List Rg} {w : World} {e : Ending} {w' : World} (h : LessEnd la lb w e w') : MadeE w (leL la lb) (leC la lb) e w' := by
  obtain ⟨s, c, rfl, hb, hc⟩ := h
  unfold leL leC
  rcases hc with ⟨rfl, hl, hr, _⟩ | ⟨rfl, hl, rfl⟩
  · rw [if_pos hl, if_pos hl]
    obtain ⟨a, c, rfl, _, _⟩ := own_shape hr
    exact ⟨a, _, c, rfl, hr, hb⟩
  · rw [if_neg (by omega), if_neg (by omega)]
    exact ⟨none, 0, 0, rfl, World.ownsRow_nil _ _ _ _, hb⟩
/-- A row of its own: between two places of the heap. -/
structure Rw (B : Nat) (w : World) (lo hi : Nat) (s : Value) (L : List Rg) : Prop where
  row : w.ownsRow lo 55 2 s L.length (flat L)
  bl : B ≤ lo
  lt : ∀ k, s.ownBlock = some k → k < hi
theorem Rw.new {B : Nat} {w w' : World} {s : Value} {L : List Rg} (h : w'.ownsRow w.heap.size 55 2 s L.length (flat L)) (hb : B ≤ w.heap.size) : Rw B w' w.heap.size w'.heap.size s L := ⟨h, hb, fun k e => (World.ownsRow.lt h k e).2⟩
theorem Rw.below {B : Nat} {w w' : World} {lo hi : Nat} {s : Value} {L : List Rg} (h : Rw B w lo hi s L) (hb : Below w.heap.size w w') : Rw B w' lo hi s L := ⟨own_keepB h.row hb, h.bl, h.lt⟩
theorem Rw.sr {B : Nat} {w : World} {lo hi : Nat} {s : Value} {L : List Rg} (h : Rw B w lo hi s L) : Sr w s L := own_srl h.row
theorem Rw.spoil {B : Nat} {w w' : World} {lo hi lo' hi' : Nat} {s u : Value} {L M : List Rg} (h : Rw B w lo hi s L) (hu : Rw B w lo' hi' u M) (hg : w.grownBy w' u.ownBlock) (hl : hi' ≤ lo) : Rw B w' lo hi s L := by
  refine ⟨World.ownsRow.kept h.row hg ?_, h.bl, h.lt⟩
  cases e : s.ownBlock with
  | none => exact .inl rfl
  | some k =>
    refine .inr fun e2 => ?_
    have := hu.lt k e2.symm
    have := (World.ownsRow.lt h.row k e).1
    omega
theorem Rw.spoiled {B : Nat} {W w w' : World} {lo hi : Nat} {s : Value} {L : List Rg} (h : Rw B w lo hi s L) (hg : w.grownBy w' s.ownBlock) (hB : Below B W w) (hs : B ≤ w.heap.size) : Below B W w' :=
  hB.grown hg hs (fun k e => Nat.le_trans h.bl (World.ownsRow.lt h.row k e).1)
/-- What was lent. -/
structure Lnt (w : World) (g n c : Nat) (l : List Rg) : Prop where
  row : w.ownsRow 0 55 2 (.slice (some ⟨g, 0, none⟩) (l.length + 1) c) (l.length + 1) (flat l ++ [.int .i64 77, .int .i64 7])
  len : n = l.length
  cap : l.length + 1 ≤ c
  max : c ≤ 9223372036854775807
theorem Lnt.sr {w : World} {g n c : Nat} {l : List Rg} (h : Lnt w g n c l) : Sr w (.slice (some ⟨g, 0, none⟩) n c) l := by rw [h.len]; exact lent_sr h.row
theorem Lnt.below {w w' : World} {g n c : Nat} {l : List Rg} (h : Lnt w g n c l) (hb : Below w.heap.size w w') : Lnt w' g n c l := ⟨own_keepB h.row hb, h.len, h.cap, h.max⟩
theorem lent_at (s : Value) (n : Nat) (l : List Rg) (w : World) (h : Sr w s l) (hn : n = l.length) (hr : l.length * 16 ≤ 140737488351232) :
    Calls Tryz.prog 9 #[s] w fun e w' => ∃ g c, e = .returned (.slice (some ⟨g, 0, none⟩) n c) ∧ Lnt w' g n c l ∧ Below w.heap.size w w' := by
  subst hn
  refine (lentR_any s l w h hr).mono ?_
  rintro e w' ⟨g, c, rfl, h1, h2, h3, h4⟩
  exact ⟨g, c, rfl, ⟨own_base h3 (Nat.zero_le _), rfl, h1, h2⟩, h4⟩
theorem kept_at (g n c : Nat) (s2 : Value) (l : List Rg) (w : World) (h : Lnt w g n c l) (h2 : Sr w s2 l) (hr : l.length * 16 ≤ 140737488351232) :
    Calls Tryz.prog 21 #[.slice (some ⟨g, 0, none⟩) n c, s2] w fun e w' => e = .returned (.bool true) ∧ Below w.heap.size w w' := by
  rw [h.len]
  exact keptR_any g c s2 l w h.row h.cap h.max h2 hr
theorem alike_at (s1 s2 : Value) (l : List Rg) (w : World) (h1 : Sr w s1 l) (h2 : Sr w s2 l) (hr : l.length ≤ 10000) :
    Calls Tryz.prog 16 #[s1, s2] w fun e w' => e = .returned (.bool true) ∧ Below w.heap.size w w' := by
  refine (alikeR_same s1 s2 l w h1 h2 (by omega)).mono ?_
  rintro e w' ⟨rfl, nq, rfl⟩
  exact ⟨rfl, below_drewN (Below.refl _ _) _⟩
theorem both_le (la lb : List Rg) : (bothR la lb).length ≤ 10000 := by unfold bothR; split; omega; have := tk_len la; omega
theorem en_le (l : List Rg) : (enL l).length ≤ 10000 := by unfold enL; split; omega; simp
theorem le_le (a b : List Rg) : (leL a b).length ≤ 10000 := by unfold leL; split; omega; simp
theorem ct_le (l : List Rg) (x y : Int) : (cutL (tk l) x y).length ≤ 10000 := by have := cutL_le (tk l) x y; have := tk_len l; omega
theorem wo_le (l : List Rg) (v : Int) : (woR l v).length ≤ 10000 := by unfold woR; split; omega; have := tk_len l; omega
theorem nt_le (l : List Rg) : (notR l).length ≤ 10000 := by unfold notR; split; omega; simp
set_option maxRecDepth 100000 in
set_option maxHeartbeats 8000000 in
theorem joins_walk (s1 s2 : Value) (la lb : List Rg) (x y : Int) (W : World) (h1 : Sr W s1 la) (h2 : Sr W s2 lb) (hf1 : FitsR la) (hf2 : FitsR lb) (hx : Fits x) (hl1 : la.length * 16 ≤ 140737488351232) (hl2 : lb.length * 16 ≤ 140737488351232) (hM : MaxL W) (hT : Tens W.heap.size W) :
    Calls Tryz.prog 5 #[s1, s2, .int .i64 x, .int .i64 y] W fun e w' => e = .returned (.bool true) ∧ Below W.heap.size W w' := by
  have hM0 := hM.1
  have HM : Hid (MaxL W) := hM
  have HT : Hid (Tens W.heap.size W) := hT
  have HF1 : Hid (FitsR la) := hf1
  have HF2 : Hid (FitsR lb) := hf2
  have HFX : Hid (Fits x) := hx
  have HL1 : Hid (la.length * 16 ≤ 140737488351232) := hl1
  have HL2 : Hid (lb.length * 16 ≤ 140737488351232) := hl2
  obtain ⟨n1, hn1⟩ : ∃ n, la.length = n := ⟨_, rfl⟩
  obtain ⟨n2, hn2⟩ : ∃ n, lb.length = n := ⟨_, rfl⟩
  have HN1 : Hid (n1 = la.length) := hn1.symm
  have HN2 : Hid (n2 = lb.length) := hn2.symm
  obtain ⟨a1, m1, c1, rfl⟩ := sr_form h1
  obtain ⟨a2, m2, c2, rfl⟩ := sr_form h2
  have HS1 : Hid (Sr W (.slice a1 m1 c1) la) := h1
  have HS2 : Hid (Sr W (.slice a2 m2 c2) lb) := h2
  have HNB : Hid (¬ bad (tk la ++ tk lb)) := not_bad (tk_right la) (tk_right lb)
  have hB : Below W.heap.size W W := Below.refl _ _
  obtain ⟨EC, hEC⟩ : ∃ EC, enC (tk la ++ tk lb) = EC := ⟨_, rfl⟩
  obtain ⟨LC, hLC⟩ : ∃ LC, leC la lb = LC := ⟨_, rfl⟩
  have HEC : Hid (enC (tk la ++ tk lb) = EC) := hEC
  have HLC : Hid (leC la lb = LC) := hLC
  clear hM hT hf1 hf2 hx hl1 hl2 hn1 hn2 h1 h2 hEC hLC
  go_enter Tryz.func5, Tryz.ntmps5
  go_wp2_with fail
  have hcall := lent_at _ n1 la W HS1.out HN1.out HL1.out
  refine hcall.mono ?_
  clear hcall
  rintro e w1 hq
  obtain ⟨xg, xc, rfl, hr, hb⟩ := hq
  have Hx : Hid (Lnt w1 xg n1 xc la) := hr
  clear hr
  replace HS1 : Hid (Sr w1 (.slice a1 m1 c1) la) := HS1.out.below hb
  replace HS2 : Hid (Sr w1 (.slice a2 m2 c2) lb) := HS2.out.below hb
  replace hB : Below W.heap.size W w1 := hB.trans (hb.mono hB.size)
  have hz1 := hb.size
  clear hb
  go_wp2_with fail
  have hcall := lent_at _ n2 lb w1 HS2.out HN2.out HL2.out
  refine hcall.mono ?_
  clear hcall
  rintro e w2 hq
  obtain ⟨yg, yc, rfl, hr, hb⟩ := hq
  have Hy : Hid (Lnt w2 yg n2 yc lb) := hr
  clear hr
  replace HS1 : Hid (Sr w2 (.slice a1 m1 c1) la) := HS1.out.below hb
  replace HS2 : Hid (Sr w2 (.slice a2 m2 c2) lb) := HS2.out.below hb
  replace Hx : Hid (Lnt w2 xg n1 xc la) := Hx.out.below hb
  replace hB : Below W.heap.size W w2 := hB.trans (hb.mono hB.size)
  have hz2 := hb.size
  clear hb
  have HBW2 : Hid (Below W.heap.size W w2) := hB
  have hB2 : Below w2.heap.size w2 w2 := Below.refl _ _
  go_wp2_with fail
  have hcall := (domboth_any _ _ la lb w2 (Hx.out.sr.below hB2) (Hy.out.sr.below hB2) HF1.out HF2.out).mono (fun e w' h => made_of h)
  refine hcall.mono ?_
  clear hcall
  rintro e w3 hq
  obtain ⟨cca, ccn, ccc, rfl, hr, hb⟩ := hq
  have Hcc : Hid (Rw w2.heap.size w3 w2.heap.size w3.heap.size (.slice cca ccn ccc) (bothR la lb)) := Rw.new hr hB2.size
  clear hr
  replace hB : Below W.heap.size W w3 := hB.trans (hb.mono hB.size)
  replace hB2 : Below w2.heap.size w2 w3 := hB2.trans (hb.mono hB2.size)
  have hz3 := hb.size
  clear hb
  go_wp2_with fail
  have hcall := (domeither_any _ _ la lb w3 (Hx.out.sr.below hB2) (Hy.out.sr.below hB2) HF1.out HF2.out).mono (fun e w' h => made_norm HNB.out h)
  rw [HEC.out] at hcall
  refine hcall.mono ?_
  clear hcall
  rintro e w4 hq
  obtain ⟨dda, ddn, ddc, rfl, hr, hb⟩ := hq
  have Hdd : Hid (Rw w2.heap.size w4 w3.heap.size w4.heap.size (.slice dda ddn ddc) (enL (tk la ++ tk lb))) := Rw.new hr hB2.size
  clear hr
  replace Hcc : Hid (Rw w2.heap.size w4 w2.heap.size w3.heap.size (.slice cca ccn ccc) (bothR la lb)) := Hcc.out.below hb
  replace hB : Below W.heap.size W w4 := hB.trans (hb.mono hB.size)
  replace hB2 : Below w2.heap.size w2 w4 := hB2.trans (hb.mono hB2.size)
  have hz4 := hb.size
  clear hb
  go_wp2_with fail
  have hcall := (refeither_any _ _ la lb w4 (HS1.out.below hB2) (HS2.out.below hB2)).mono (fun e w' h => made_norm HNB.out h)
  rw [HEC.out] at hcall
  refine hcall.mono ?_
  clear hcall
  rintro e w5 hq
  obtain ⟨ffa, ffn, ffc, rfl, hr, hb⟩ := hq
  have Hff : Hid (Rw w2.heap.size w5 w4.heap.size w5.heap.size (.slice ffa ffn ffc) (enL (tk la ++ tk lb))) := Rw.new hr hB2.size
  clear hr
  replace Hcc : Hid (Rw w2.heap.size w5 w2.heap.size w3.heap.size (.slice cca ccn ccc) (bothR la lb)) := Hcc.out.below hb
  replace Hdd : Hid (Rw w2.heap.size w5 w3.heap.size w4.heap.size (.slice dda ddn ddc) (enL (tk la ++ tk lb))) := Hdd.out.below hb
  replace hB : Below W.heap.size W w5 := hB.trans (hb.mono hB.size)
  replace hB2 : Below w2.heap.size w2 w5 := hB2.trans (hb.mono hB2.size)
  have hz5 := hb.size
  clear hb
  go_wp2_with fail
  have hcall := (domless_any _ _ la lb w5 (Hx.out.sr.below hB2) (Hy.out.sr.below hB2) HF1.out HF2.out).mono (fun e w' h => made_less h)
  rw [HLC.out] at hcall
  refine hcall.mono ?_
  clear hcall
  rintro e w6 hq
  obtain ⟨hha, hhn, hhc, rfl, hr, hb⟩ := hq
  have Hhh : Hid (Rw w2.heap.size w6 w5.heap.size w6.heap.size (.slice hha hhn hhc) (leL la lb)) := Rw.new hr hB2.size
  clear hr
  replace Hcc : Hid (Rw w2.heap.size w6 w2.heap.size w3.heap.size (.slice cca ccn ccc) (bothR la lb)) := Hcc.out.below hb
  replace Hdd : Hid (Rw w2.heap.size w6 w3.heap.size w4.heap.size (.slice dda ddn ddc) (enL (tk la ++ tk lb))) := Hdd.out.below hb
  replace Hff : Hid (Rw w2.heap.size w6 w4.heap.size w5.heap.size (.slice ffa ffn ffc) (enL (tk la ++ tk lb))) := Hff.out.below hb
  replace hB : Below W.heap.size W w6 := hB.trans (hb.mono hB.size)
  replace hB2 : Below w2.heap.size w2 w6 := hB2.trans (hb.mono hB2.size)
  have hz6 := hb.size
  clear hb
  go_wp2_with fail
  have hcall := (refless_tk _ _ la lb w6 (HS1.out.below hB2) (HS2.out.below hB2)).mono (fun e w' h => made_less h)
  rw [HLC.out] at hcall
  refine hcall.mono ?_
  clear hcall
  rintro e w7 hq
  obtain ⟨jja, jjn, jjc, rfl, hr, hb⟩ := hq
  have Hjj : Hid (Rw w2.heap.size w7 w6.heap.size w7.heap.size (.slice jja jjn jjc) (leL la lb)) := Rw.new hr hB2.size
  clear hr
  replace Hcc : Hid (Rw w2.heap.size w7 w2.heap.size w3.heap.size (.slice cca ccn ccc) (bothR la lb)) := Hcc.out.below hb
  replace Hdd : Hid (Rw w2.heap.size w7 w3.heap.size w4.heap.size (.slice dda ddn ddc) (enL (tk la ++ tk lb))) := Hdd.out.below hb
  replace Hff : Hid (Rw w2.heap.size w7 w4.heap.size w5.heap.size (.slice ffa ffn ffc) (enL (tk la ++ tk lb))) := Hff.out.below hb
  replace Hhh : Hid (Rw w2.heap.size w7 w5.heap.size w6.heap.size (.slice hha hhn hhc) (leL la lb)) := Hhh.out.below hb
  replace hB : Below W.heap.size W w7 := hB.trans (hb.mono hB.size)
  replace hB2 : Below w2.heap.size w2 w7 := hB2.trans (hb.mono hB2.size)
  have hz7 := hb.size
  clear hb
  go_wp2_with fail
  have hcall := (domcut_any _ la x y w7 (Hx.out.sr.below hB2) HF1.out).mono (fun e w' h => made_of h)
  refine hcall.mono ?_
  clear hcall
  rintro e w8 hq
  obtain ⟨lla, lln, llc, rfl, hr, hb⟩ := hq
  have Hll : Hid (Rw w2.heap.size w8 w7.heap.size w8.heap.size (.slice lla lln llc) (cutL (tk la) x y)) := Rw.new hr hB2.size
  clear hr
  replace Hcc : Hid (Rw w2.heap.size w8 w2.heap.size w3.heap.size (.slice cca ccn ccc) (bothR la lb)) := Hcc.out.below hb
  replace Hdd : Hid (Rw w2.heap.size w8 w3.heap.size w4.heap.size (.slice dda ddn ddc) (enL (tk la ++ tk lb))) := Hdd.out.below hb
  replace Hff : Hid (Rw w2.heap.size w8 w4.heap.size w5.heap.size (.slice ffa ffn ffc) (enL (tk la ++ tk lb))) := Hff.out.below hb
  replace Hhh : Hid (Rw w2.heap.size w8 w5.heap.size w6.heap.size (.slice hha hhn hhc) (leL la lb)) := Hhh.out.below hb
  replace Hjj : Hid (Rw w2.heap.size w8 w6.heap.size w7.heap.size (.slice jja jjn jjc) (leL la lb)) := Hjj.out.below hb
  replace hB : Below W.heap.size W w8 := hB.trans (hb.mono hB.size)
  replace hB2 : Below w2.heap.size w2 w8 := hB2.trans (hb.mono hB2.size)
  have hz8 := hb.size
  clear hb
  go_wp2_with fail
  have hcall := (domwithout_any _ la x w8 (Hx.out.sr.below hB2) HF1.out HFX.out).mono (fun e w' h => made_of h)
  refine hcall.mono ?_
  clear hcall
  rintro e w9 hq
  obtain ⟨mma, mmn, mmc, rfl, hr, hb⟩ := hq
  have Hmm : Hid (Rw w2.heap.size w9 w8.heap.size w9.heap.size (.slice mma mmn mmc) (woR la x)) := Rw.new hr hB2.size
  clear hr
  replace Hcc : Hid (Rw w2.heap.size w9 w2.heap.size w3.heap.size (.slice cca ccn ccc) (bothR la lb)) := Hcc.out.below hb
  replace Hdd : Hid (Rw w2.heap.size w9 w3.heap.size w4.heap.size (.slice dda ddn ddc) (enL (tk la ++ tk lb))) := Hdd.out.below hb
  replace Hff : Hid (Rw w2.heap.size w9 w4.heap.size w5.heap.size (.slice ffa ffn ffc) (enL (tk la ++ tk lb))) := Hff.out.below hb
  replace Hhh : Hid (Rw w2.heap.size w9 w5.heap.size w6.heap.size (.slice hha hhn hhc) (leL la lb)) := Hhh.out.below hb
  replace Hjj : Hid (Rw w2.heap.size w9 w6.heap.size w7.heap.size (.slice jja jjn jjc) (leL la lb)) := Hjj.out.below hb
  replace Hll : Hid (Rw w2.heap.size w9 w7.heap.size w8.heap.size (.slice lla lln llc) (cutL (tk la) x y)) := Hll.out.below hb
  replace hB : Below W.heap.size W w9 := hB.trans (hb.mono hB.size)
  replace hB2 : Below w2.heap.size w2 w9 := hB2.trans (hb.mono hB2.size)
  have hz9 := hb.size
  clear hb
  go_wp2_with fail
  have hcall := (domnot_any _ la w9 (Hx.out.sr.below hB2) HF1.out).mono (fun e w' h => made_of h)
  refine hcall.mono ?_
  clear hcall
  rintro e w10 hq
  obtain ⟨nna, nnn, nnc, rfl, hr, hb⟩ := hq
  have Hnn : Hid (Rw w2.heap.size w10 w9.heap.size w10.heap.size (.slice nna nnn nnc) (notR la)) := Rw.new hr hB2.size
  clear hr
  replace Hcc : Hid (Rw w2.heap.size w10 w2.heap.size w3.heap.size (.slice cca ccn ccc) (bothR la lb)) := Hcc.out.below hb
  replace Hdd : Hid (Rw w2.heap.size w10 w3.heap.size w4.heap.size (.slice dda ddn ddc) (enL (tk la ++ tk lb))) := Hdd.out.below hb
  replace Hff : Hid (Rw w2.heap.size w10 w4.heap.size w5.heap.size (.slice ffa ffn ffc) (enL (tk la ++ tk lb))) := Hff.out.below hb
  replace Hhh : Hid (Rw w2.heap.size w10 w5.heap.size w6.heap.size (.slice hha hhn hhc) (leL la lb)) := Hhh.out.below hb
  replace Hjj : Hid (Rw w2.heap.size w10 w6.heap.size w7.heap.size (.slice jja jjn jjc) (leL la lb)) := Hjj.out.below hb
  replace Hll : Hid (Rw w2.heap.size w10 w7.heap.size w8.heap.size (.slice lla lln llc) (cutL (tk la) x y)) := Hll.out.below hb
  replace Hmm : Hid (Rw w2.heap.size w10 w8.heap.size w9.heap.size (.slice mma mmn mmc) (woR la x)) := Hmm.out.below hb
  replace hB : Below W.heap.size W w10 := hB.trans (hb.mono hB.size)
  replace hB2 : Below w2.heap.size w2 w10 := hB2.trans (hb.mono hB2.size)
  have hz10 := hb.size
  clear hb
  go_wp2_with fail
  have hcall := (refboth_tk _ _ la lb w10 (HS1.out.below hB2) (HS2.out.below hB2)).mono (fun e w' h => made_of h)
  refine hcall.mono ?_
  clear hcall
  rintro e w11 hq
  obtain ⟨t1a, t1n, t1c, rfl, hr, hb⟩ := hq
  have Ht1 : Hid (Rw w2.heap.size w11 w10.heap.size w11.heap.size (.slice t1a t1n t1c) (bothR la lb)) := Rw.new hr hB2.size
  clear hr
  replace Hcc : Hid (Rw w2.heap.size w11 w2.heap.size w3.heap.size (.slice cca ccn ccc) (bothR la lb)) := Hcc.out.below hb
  replace Hdd : Hid (Rw w2.heap.size w11 w3.heap.size w4.heap.size (.slice dda ddn ddc) (enL (tk la ++ tk lb))) := Hdd.out.below hb
  replace Hff : Hid (Rw w2.heap.size w11 w4.heap.size w5.heap.size (.slice ffa ffn ffc) (enL (tk la ++ tk lb))) := Hff.out.below hb
  replace Hhh : Hid (Rw w2.heap.size w11 w5.heap.size w6.heap.size (.slice hha hhn hhc) (leL la lb)) := Hhh.out.below hb
  replace Hjj : Hid (Rw w2.heap.size w11 w6.heap.size w7.heap.size (.slice jja jjn jjc) (leL la lb)) := Hjj.out.below hb
  replace Hll : Hid (Rw w2.heap.size w11 w7.heap.size w8.heap.size (.slice lla lln llc) (cutL (tk la) x y)) := Hll.out.below hb
  replace Hmm : Hid (Rw w2.heap.size w11 w8.heap.size w9.heap.size (.slice mma mmn mmc) (woR la x)) := Hmm.out.below hb
  replace Hnn : Hid (Rw w2.heap.size w11 w9.heap.size w10.heap.size (.slice nna nnn nnc) (notR la)) := Hnn.out.below hb
  replace hB : Below W.heap.size W w11 := hB.trans (hb.mono hB.size)
  replace hB2 : Below w2.heap.size w2 w11 := hB2.trans (hb.mono hB2.size)
  have hz11 := hb.size
  clear hb
  go_wp2_with fail
  have hcall := alike_at _ _ (bothR la lb) w11 Hcc.out.sr Ht1.out.sr (both_le la lb)
  refine hcall.mono ?_
  clear hcall
  rintro e w12 hq
  obtain ⟨rfl, hb⟩ := hq
  replace Hcc : Hid (Rw w2.heap.size w12 w2.heap.size w3.heap.size (.slice cca ccn ccc) (bothR la lb)) := Hcc.out.below hb
  replace Hdd : Hid (Rw w2.heap.size w12 w3.heap.size w4.heap.size (.slice dda ddn ddc) (enL (tk la ++ tk lb))) := Hdd.out.below hb
  replace Hff : Hid (Rw w2.heap.size w12 w4.heap.size w5.heap.size (.slice ffa ffn ffc) (enL (tk la ++ tk lb))) := Hff.out.below hb
  replace Hhh : Hid (Rw w2.heap.size w12 w5.heap.size w6.heap.size (.slice hha hhn hhc) (leL la lb)) := Hhh.out.below hb
  replace Hjj : Hid (Rw w2.heap.size w12 w6.heap.size w7.heap.size (.slice jja jjn jjc) (leL la lb)) := Hjj.out.below hb
  replace Hll : Hid (Rw w2.heap.size w12 w7.heap.size w8.heap.size (.slice lla lln llc) (cutL (tk la) x y)) := Hll.out.below hb
  replace Hmm : Hid (Rw w2.heap.size w12 w8.heap.size w9.heap.size (.slice mma mmn mmc) (woR la x)) := Hmm.out.below hb
  replace Hnn : Hid (Rw w2.heap.size w12 w9.heap.size w10.heap.size (.slice nna nnn nnc) (notR la)) := Hnn.out.below hb
  replace Ht1 : Hid (Rw w2.heap.size w12 w10.heap.size w11.heap.size (.slice t1a t1n t1c) (bothR la lb)) := Ht1.out.below hb
  replace hB : Below W.heap.size W w12 := hB.trans (hb.mono hB.size)
  replace hB2 : Below w2.heap.size w2 w12 := hB2.trans (hb.mono hB2.size)
  have hz12 := hb.size
  clear hb
  clear Ht1
  go_wp2_with fail
  have hcall := alike_at _ _ (enL (tk la ++ tk lb)) w12 Hdd.out.sr Hff.out.sr (en_le _)
  refine hcall.mono ?_
  clear hcall
  rintro e w13 hq
  obtain ⟨rfl, hb⟩ := hq
  replace Hcc : Hid (Rw w2.heap.size w13 w2.heap.size w3.heap.size (.slice cca ccn ccc) (bothR la lb)) := Hcc.out.below hb
  replace Hdd : Hid (Rw w2.heap.size w13 w3.heap.size w4.heap.size (.slice dda ddn ddc) (enL (tk la ++ tk lb))) := Hdd.out.below hb
  replace Hff : Hid (Rw w2.heap.size w13 w4.heap.size w5.heap.size (.slice ffa ffn ffc) (enL (tk la ++ tk lb))) := Hff.out.below hb
  replace Hhh : Hid (Rw w2.heap.size w13 w5.heap.size w6.heap.size (.slice hha hhn hhc) (leL la lb)) := Hhh.out.below hb
  replace Hjj : Hid (Rw w2.heap.size w13 w6.heap.size w7.heap.size (.slice jja jjn jjc) (leL la lb)) := Hjj.out.below hb
  replace Hll : Hid (Rw w2.heap.size w13 w7.heap.size w8.heap.size (.slice lla lln llc) (cutL (tk la) x y)) := Hll.out.below hb
  replace Hmm : Hid (Rw w2.heap.size w13 w8.heap.size w9.heap.size (.slice mma mmn mmc) (woR la x)) := Hmm.out.below hb
  replace Hnn : Hid (Rw w2.heap.size w13 w9.heap.size w10.heap.size (.slice nna nnn nnc) (notR la)) := Hnn.out.below hb
  replace hB : Below W.heap.size W w13 := hB.trans (hb.mono hB.size)
  replace hB2 : Below w2.heap.size w2 w13 := hB2.trans (hb.mono hB2.size)
  have hz13 := hb.size
  clear hb
  clear Hff
  go_wp2_with fail
  have hcall := alike_at _ _ (leL la lb) w13 Hhh.out.sr Hjj.out.sr (le_le _ _)
  refine hcall.mono ?_
  clear hcall
  rintro e w14 hq
  obtain ⟨rfl, hb⟩ := hq
  replace Hcc : Hid (Rw w2.heap.size w14 w2.heap.size w3.heap.size (.slice cca ccn ccc) (bothR la lb)) := Hcc.out.below hb
  replace Hdd : Hid (Rw w2.heap.size w14 w3.heap.size w4.heap.size (.slice dda ddn ddc) (enL (tk la ++ tk lb))) := Hdd.out.below hb
  replace Hhh : Hid (Rw w2.heap.size w14 w5.heap.size w6.heap.size (.slice hha hhn hhc) (leL la lb)) := Hhh.out.below hb
  replace Hjj : Hid (Rw w2.heap.size w14 w6.heap.size w7.heap.size (.slice jja jjn jjc) (leL la lb)) := Hjj.out.below hb
  replace Hll : Hid (Rw w2.heap.size w14 w7.heap.size w8.heap.size (.slice lla lln llc) (cutL (tk la) x y)) := Hll.out.below hb
  replace Hmm : Hid (Rw w2.heap.size w14 w8.heap.size w9.heap.size (.slice mma mmn mmc) (woR la x)) := Hmm.out.below hb
  replace Hnn : Hid (Rw w2.heap.size w14 w9.heap.size w10.heap.size (.slice nna nnn nnc) (notR la)) := Hnn.out.below hb
  replace hB : Below W.heap.size W w14 := hB.trans (hb.mono hB.size)
  replace hB2 : Below w2.heap.size w2 w14 := hB2.trans (hb.mono hB2.size)
  have hz14 := hb.size
  clear hb
  clear Hjj
  go_wp2_with fail
  have hcall := (refcut_tk _ la x y w14 (HS1.out.below hB2)).mono (fun e w' h => made_of (h.imp fun s h => ⟨h.1, h.2.1, h.2.2.2⟩))
  refine hcall.mono ?_
  clear hcall
  rintro e w15 hq
  obtain ⟨t2a, t2n, t2c, rfl, hr, hb⟩ := hq
  have Ht2 : Hid (Rw w2.heap.size w15 w14.heap.size w15.heap.size (.slice t2a t2n t2c) (cutL (tk la) x y)) := Rw.new hr hB2.size
  clear hr
  replace Hcc : Hid (Rw w2.heap.size w15 w2.heap.size w3.heap.size (.slice cca ccn ccc) (bothR la lb)) := Hcc.out.below hb
  replace Hdd : Hid (Rw w2.heap.size w15 w3.heap.size w4.heap.size (.slice dda ddn ddc) (enL (tk la ++ tk lb))) := Hdd.out.below hb
  replace Hhh : Hid (Rw w2.heap.size w15 w5.heap.size w6.heap.size (.slice hha hhn hhc) (leL la lb)) := Hhh.out.below hb
  replace Hll : Hid (Rw w2.heap.size w15 w7.heap.size w8.heap.size (.slice lla lln llc) (cutL (tk la) x y)) := Hll.out.below hb
  replace Hmm : Hid (Rw w2.heap.size w15 w8.heap.size w9.heap.size (.slice mma mmn mmc) (woR la x)) := Hmm.out.below hb
  replace Hnn : Hid (Rw w2.heap.size w15 w9.heap.size w10.heap.size (.slice nna nnn nnc) (notR la)) := Hnn.out.below hb
  replace hB : Below W.heap.size W w15 := hB.trans (hb.mono hB.size)
  replace hB2 : Below w2.heap.size w2 w15 := hB2.trans (hb.mono hB2.size)
  have hz15 := hb.size
  clear hb
  go_wp2_with fail
  have hcall := alike_at _ _ (cutL (tk la) x y) w15 Hll.out.sr Ht2.out.sr (ct_le _ _ _)
  refine hcall.mono ?_
  clear hcall
  rintro e w16 hq
  obtain ⟨rfl, hb⟩ := hq
  replace Hcc : Hid (Rw w2.heap.size w16 w2.heap.size w3.heap.size (.slice cca ccn ccc) (bothR la lb)) := Hcc.out.below hb
  replace Hdd : Hid (Rw w2.heap.size w16 w3.heap.size w4.heap.size (.slice dda ddn ddc) (enL (tk la ++ tk lb))) := Hdd.out.below hb
  replace Hhh : Hid (Rw w2.heap.size w16 w5.heap.size w6.heap.size (.slice hha hhn hhc) (leL la lb)) := Hhh.out.below hb
  replace Hll : Hid (Rw w2.heap.size w16 w7.heap.size w8.heap.size (.slice lla lln llc) (cutL (tk la) x y)) := Hll.out.below hb
  replace Hmm : Hid (Rw w2.heap.size w16 w8.heap.size w9.heap.size (.slice mma mmn mmc) (woR la x)) := Hmm.out.below hb
  replace Hnn : Hid (Rw w2.heap.size w16 w9.heap.size w10.heap.size (.slice nna nnn nnc) (notR la)) := Hnn.out.below hb
  replace Ht2 : Hid (Rw w2.heap.size w16 w14.heap.size w15.heap.size (.slice t2a t2n t2c) (cutL (tk la) x y)) := Ht2.out.below hb
  replace hB : Below W.heap.size W w16 := hB.trans (hb.mono hB.size)
  replace hB2 : Below w2.heap.size w2 w16 := hB2.trans (hb.mono hB2.size)
  have hz16 := hb.size
  clear hb
  clear Ht2
  go_wp2_with fail
  have hcall := (refwithout_any _ la x w16 (HS1.out.below hB2)).mono (fun e w' h => made_of h)
  refine hcall.mono ?_
  clear hcall
  rintro e w17 hq
  obtain ⟨t3a, t3n, t3c, rfl, hr, hb⟩ := hq
  have Ht3 : Hid (Rw w2.heap.size w17 w16.heap.size w17.heap.size (.slice t3a t3n t3c) (woR la x)) := Rw.new hr hB2.size
  clear hr
  replace Hcc : Hid (Rw w2.heap.size w17 w2.heap.size w3.heap.size (.slice cca ccn ccc) (bothR la lb)) := Hcc.out.below hb
  replace Hdd : Hid (Rw w2.heap.size w17 w3.heap.size w4.heap.size (.slice dda ddn ddc) (enL (tk la ++ tk lb))) := Hdd.out.below hb
  replace Hhh : Hid (Rw w2.heap.size w17 w5.heap.size w6.heap.size (.slice hha hhn hhc) (leL la lb)) := Hhh.out.below hb
  replace Hll : Hid (Rw w2.heap.size w17 w7.heap.size w8.heap.size (.slice lla lln llc) (cutL (tk la) x y)) := Hll.out.below hb
  replace Hmm : Hid (Rw w2.heap.size w17 w8.heap.size w9.heap.size (.slice mma mmn mmc) (woR la x)) := Hmm.out.below hb
  replace Hnn : Hid (Rw w2.heap.size w17 w9.heap.size w10.heap.size (.slice nna nnn nnc) (notR la)) := Hnn.out.below hb
  replace hB : Below W.heap.size W w17 := hB.trans (hb.mono hB.size)
  replace hB2 : Below w2.heap.size w2 w17 := hB2.trans (hb.mono hB2.size)
  have hz17 := hb.size
  clear hb
  go_wp2_with fail
  have hcall := alike_at _ _ (woR la x) w17 Hmm.out.sr Ht3.out.sr (wo_le _ _)
  refine hcall.mono ?_
  clear hcall
  rintro e w18 hq
  obtain ⟨rfl, hb⟩ := hq
  replace Hcc : Hid (Rw w2.heap.size w18 w2.heap.size w3.heap.size (.slice cca ccn ccc) (bothR la lb)) := Hcc.out.below hb
  replace Hdd : Hid (Rw w2.heap.size w18 w3.heap.size w4.heap.size (.slice dda ddn ddc) (enL (tk la ++ tk lb))) := Hdd.out.below hb
  replace Hhh : Hid (Rw w2.heap.size w18 w5.heap.size w6.heap.size (.slice hha hhn hhc) (leL la lb)) := Hhh.out.below hb
  replace Hll : Hid (Rw w2.heap.size w18 w7.heap.size w8.heap.size (.slice lla lln llc) (cutL (tk la) x y)) := Hll.out.below hb
  replace Hmm : Hid (Rw w2.heap.size w18 w8.heap.size w9.heap.size (.slice mma mmn mmc) (woR la x)) := Hmm.out.below hb
  replace Hnn : Hid (Rw w2.heap.size w18 w9.heap.size w10.heap.size (.slice nna nnn nnc) (notR la)) := Hnn.out.below hb
  replace Ht3 : Hid (Rw w2.heap.size w18 w16.heap.size w17.heap.size (.slice t3a t3n t3c) (woR la x)) := Ht3.out.below hb
  replace hB : Below W.heap.size W w18 := hB.trans (hb.mono hB.size)
  replace hB2 : Below w2.heap.size w2 w18 := hB2.trans (hb.mono hB2.size)
  have hz18 := hb.size
  clear hb
  clear Ht3
  go_wp2_with fail
  have hcall := (refnot_tk _ la w18 (HS1.out.below hB2)).mono (fun e w' h => made_of h)
  refine hcall.mono ?_
  clear hcall
  rintro e w19 hq
  obtain ⟨t4a, t4n, t4c, rfl, hr, hb⟩ := hq
  have Ht4 : Hid (Rw w2.heap.size w19 w18.heap.size w19.heap.size (.slice t4a t4n t4c) (notR la)) := Rw.new hr hB2.size
  clear hr
  replace Hcc : Hid (Rw w2.heap.size w19 w2.heap.size w3.heap.size (.slice cca ccn ccc) (bothR la lb)) := Hcc.out.below hb
  replace Hdd : Hid (Rw w2.heap.size w19 w3.heap.size w4.heap.size (.slice dda ddn ddc) (enL (tk la ++ tk lb))) := Hdd.out.below hb
  replace Hhh : Hid (Rw w2.heap.size w19 w5.heap.size w6.heap.size (.slice hha hhn hhc) (leL la lb)) := Hhh.out.below hb
  replace Hll : Hid (Rw w2.heap.size w19 w7.heap.size w8.heap.size (.slice lla lln llc) (cutL (tk la) x y)) := Hll.out.below hb
  replace Hmm : Hid (Rw w2.heap.size w19 w8.heap.size w9.heap.size (.slice mma mmn mmc) (woR la x)) := Hmm.out.below hb
  replace Hnn : Hid (Rw w2.heap.size w19 w9.heap.size w10.heap.size (.slice nna nnn nnc) (notR la)) := Hnn.out.below hb
  replace hB : Below W.heap.size W w19 := hB.trans (hb.mono hB.size)
  replace hB2 : Below w2.heap.size w2 w19 := hB2.trans (hb.mono hB2.size)
  have hz19 := hb.size
  clear hb
  go_wp2_with fail
  have hcall := alike_at _ _ (notR la) w19 Hnn.out.sr Ht4.out.sr (nt_le _)
  refine hcall.mono ?_
  clear hcall
  rintro e w20 hq
  obtain ⟨rfl, hb⟩ := hq
  replace Hcc : Hid (Rw w2.heap.size w20 w2.heap.size w3.heap.size (.slice cca ccn ccc) (bothR la lb)) := Hcc.out.below hb
  replace Hdd : Hid (Rw w2.heap.size w20 w3.heap.size w4.heap.size (.slice dda ddn ddc) (enL (tk la ++ tk lb))) := Hdd.out.below hb
  replace Hhh : Hid (Rw w2.heap.size w20 w5.heap.size w6.heap.size (.slice hha hhn hhc) (leL la lb)) := Hhh.out.below hb
  replace Hll : Hid (Rw w2.heap.size w20 w7.heap.size w8.heap.size (.slice lla lln llc) (cutL (tk la) x y)) := Hll.out.below hb
  replace Hmm : Hid (Rw w2.heap.size w20 w8.heap.size w9.heap.size (.slice mma mmn mmc) (woR la x)) := Hmm.out.below hb
  replace Hnn : Hid (Rw w2.heap.size w20 w9.heap.size w10.heap.size (.slice nna nnn nnc) (notR la)) := Hnn.out.below hb
  replace Ht4 : Hid (Rw w2.heap.size w20 w18.heap.size w19.heap.size (.slice t4a t4n t4c) (notR la)) := Ht4.out.below hb
  replace hB : Below W.heap.size W w20 := hB.trans (hb.mono hB.size)
  replace hB2 : Below w2.heap.size w2 w20 := hB2.trans (hb.mono hB2.size)
  have hz20 := hb.size
  clear hb
  clear Ht4
  go_wp2_with fail
  have hcall := spoil_any _ w20 _ _ _ Hcc.out.row (Nat.le_trans (both_le la lb) (by decide)) (by have := hB2.size; omega)
  refine hcall.mono ?_
  clear hcall
  rintro e w21 ⟨rfl, hg⟩
  replace Hdd : Hid (Rw w2.heap.size w21 w3.heap.size w4.heap.size (.slice dda ddn ddc) (enL (tk la ++ tk lb))) := Hdd.out.spoil Hcc.out hg (by omega)
  replace Hhh : Hid (Rw w2.heap.size w21 w5.heap.size w6.heap.size (.slice hha hhn hhc) (leL la lb)) := Hhh.out.spoil Hcc.out hg (by omega)
  replace Hll : Hid (Rw w2.heap.size w21 w7.heap.size w8.heap.size (.slice lla lln llc) (cutL (tk la) x y)) := Hll.out.spoil Hcc.out hg (by omega)
  replace Hmm : Hid (Rw w2.heap.size w21 w8.heap.size w9.heap.size (.slice mma mmn mmc) (woR la x)) := Hmm.out.spoil Hcc.out hg (by omega)
  replace Hnn : Hid (Rw w2.heap.size w21 w9.heap.size w10.heap.size (.slice nna nnn nnc) (notR la)) := Hnn.out.spoil Hcc.out hg (by omega)
  replace hB2 : Below w2.heap.size w2 w21 := Hcc.out.spoiled hg hB2 hB2.size
  have hz21 := hg.size
  clear hg Hcc hB
  have hB : Below W.heap.size W w21 := HBW2.out.trans (hB2.mono HBW2.out.size)
  go_wp2_with fail
  have hcall := spoil_any _ w21 _ _ _ Hdd.out.row (Nat.le_trans (en_le _) (by decide)) (by have := hB2.size; omega)
  refine hcall.mono ?_
  clear hcall
  rintro e w22 ⟨rfl, hg⟩
  replace Hhh : Hid (Rw w2.heap.size w22 w5.heap.size w6.heap.size (.slice hha hhn hhc) (leL la lb)) := Hhh.out.spoil Hdd.out hg (by omega)
  replace Hll : Hid (Rw w2.heap.size w22 w7.heap.size w8.heap.size (.slice lla lln llc) (cutL (tk la) x y)) := Hll.out.spoil Hdd.out hg (by omega)
  replace Hmm : Hid (Rw w2.heap.size w22 w8.heap.size w9.heap.size (.slice mma mmn mmc) (woR la x)) := Hmm.out.spoil Hdd.out hg (by omega)
  replace Hnn : Hid (Rw w2.heap.size w22 w9.heap.size w10.heap.size (.slice nna nnn nnc) (notR la)) := Hnn.out.spoil Hdd.out hg (by omega)
  replace hB2 : Below w2.heap.size w2 w22 := Hdd.out.spoiled hg hB2 hB2.size
  have hz22 := hg.size
  clear hg Hdd hB
  have hB : Below W.heap.size W w22 := HBW2.out.trans (hB2.mono HBW2.out.size)
  go_wp2_with fail
  have hcall := spoil_any _ w22 _ _ _ Hhh.out.row (Nat.le_trans (le_le _ _) (by decide)) (by have := hB2.size; omega)
  refine hcall.mono ?_
  clear hcall
  rintro e w23 ⟨rfl, hg⟩
  replace Hll : Hid (Rw w2.heap.size w23 w7.heap.size w8.heap.size (.slice lla lln llc) (cutL (tk la) x y)) := Hll.out.spoil Hhh.out hg (by omega)
  replace Hmm : Hid (Rw w2.heap.size w23 w8.heap.size w9.heap.size (.slice mma mmn mmc) (woR la x)) := Hmm.out.spoil Hhh.out hg (by omega)
  replace Hnn : Hid (Rw w2.heap.size w23 w9.heap.size w10.heap.size (.slice nna nnn nnc) (notR la)) := Hnn.out.spoil Hhh.out hg (by omega)
  replace hB2 : Below w2.heap.size w2 w23 := Hhh.out.spoiled hg hB2 hB2.size
  have hz23 := hg.size
  clear hg Hhh hB
  have hB : Below W.heap.size W w23 := HBW2.out.trans (hB2.mono HBW2.out.size)
  go_wp2_with fail
  have hcall := spoil_any _ w23 _ _ _ Hll.out.row (Nat.le_trans (ct_le _ _ _) (by decide)) (by have := hB2.size; omega)
  refine hcall.mono ?_
  clear hcall
  rintro e w24 ⟨rfl, hg⟩
  replace Hmm : Hid (Rw w2.heap.size w24 w8.heap.size w9.heap.size (.slice mma mmn mmc) (woR la x)) := Hmm.out.spoil Hll.out hg (by omega)
  replace Hnn : Hid (Rw w2.heap.size w24 w9.heap.size w10.heap.size (.slice nna nnn nnc) (notR la)) := Hnn.out.spoil Hll.out hg (by omega)
  replace hB2 : Below w2.heap.size w2 w24 := Hll.out.spoiled hg hB2 hB2.size
  have hz24 := hg.size
  clear hg Hll hB
  have hB : Below W.heap.size W w24 := HBW2.out.trans (hB2.mono HBW2.out.size)
  go_wp2_with fail
  have hcall := spoil_any _ w24 _ _ _ Hmm.out.row (Nat.le_trans (wo_le _ _) (by decide)) (by have := hB2.size; omega)
  refine hcall.mono ?_
  clear hcall
  rintro e w25 ⟨rfl, hg⟩
  replace Hnn : Hid (Rw w2.heap.size w25 w9.heap.size w10.heap.size (.slice nna nnn nnc) (notR la)) := Hnn.out.spoil Hmm.out hg (by omega)
  replace hB2 : Below w2.heap.size w2 w25 := Hmm.out.spoiled hg hB2 hB2.size
  have hz25 := hg.size
  clear hg Hmm hB
  have hB : Below W.heap.size W w25 := HBW2.out.trans (hB2.mono HBW2.out.size)
  go_wp2_with fail
  have hcall := spoil_any _ w25 _ _ _ Hnn.out.row (Nat.le_trans (nt_le _) (by decide)) (by have := hB2.size; omega)
  refine hcall.mono ?_
  clear hcall
  rintro e w26 ⟨rfl, hg⟩
  replace hB2 : Below w2.heap.size w2 w26 := Hnn.out.spoiled hg hB2 hB2.size
  have hz26 := hg.size
  clear hg Hnn hB
  have hB : Below W.heap.size W w26 := HBW2.out.trans (hB2.mono HBW2.out.size)
  go_wp2_with fail
  have hcall := domsame_any _ _ la lb w26 (Hx.out.sr.below hB2) (Hy.out.sr.below hB2) HF1.out HF2.out
  refine hcall.mono ?_
  clear hcall
  rintro e w27 hq
  obtain ⟨tb, rfl, htb, hb⟩ := hq
  have Htb : Hid _ := htb
  clear htb
  replace hB : Below W.heap.size W w27 := hB.trans (hb.mono hB.size)
  replace hB2 : Below w2.heap.size w2 w27 := hB2.trans (hb.mono hB2.size)
  have hz27 := hb.size
  clear hb
  go_wp2_with fail
  have hcall := refsame_any _ _ la lb w27 (HS1.out.below hB2) (HS2.out.below hB2)
  refine hcall.mono ?_
  clear hcall
  rintro e w28 hq
  obtain ⟨tc, rfl, htc, hb⟩ := hq
  obtain rfl : tc = tb := Bool.eq_iff_iff.2 (htc.trans Htb.out.symm)
  clear htc Htb
  replace hB : Below W.heap.size W w28 := hB.trans (hb.mono hB.size)
  replace hB2 : Below w2.heap.size w2 w28 := hB2.trans (hb.mono hB2.size)
  have hz28 := hb.size
  clear hb
  go_wp2_with fail
  have hcall := domwithin_any _ _ la lb w28 (Hx.out.sr.below hB2) (Hy.out.sr.below hB2) HF1.out HF2.out
  refine hcall.mono ?_
  clear hcall
  rintro e w29 hq
  obtain ⟨td, rfl, htd, hb⟩ := hq
  have Htd : Hid _ := htd
  clear htd
  replace hB : Below W.heap.size W w29 := hB.trans (hb.mono hB.size)
  replace hB2 : Below w2.heap.size w2 w29 := hB2.trans (hb.mono hB2.size)
  have hz29 := hb.size
  clear hb
  go_wp2_with fail
  have hcall := refwithin_any _ _ la lb w29 (HS1.out.below hB2) (HS2.out.below hB2)
  refine hcall.mono ?_
  clear hcall
  rintro e w30 hq
  obtain ⟨te, rfl, hte, hb⟩ := hq
  obtain rfl : te = td := Bool.eq_iff_iff.2 (hte.trans Htd.out.symm)
  clear hte Htd
  replace hB : Below W.heap.size W w30 := hB.trans (hb.mono hB.size)
  replace hB2 : Below w2.heap.size w2 w30 := hB2.trans (hb.mono hB2.size)
  have hz30 := hb.size
  clear hb
  go_wp2_with fail
  have hcall := kept_at _ _ _ _ la w30 (Hx.out.below hB2) (HS1.out.below hB2) HL1.out
  refine hcall.mono ?_
  clear hcall
  rintro e w31 hq
  obtain ⟨rfl, hb⟩ := hq
  replace hB : Below W.heap.size W w31 := hB.trans (hb.mono hB.size)
  replace hB2 : Below w2.heap.size w2 w31 := hB2.trans (hb.mono hB2.size)
  have hz31 := hb.size
  clear hb
  go_wp2_with fail
  have hcall := kept_at _ _ _ _ lb w31 (Hy.out.below hB2) (HS2.out.below hB2) HL2.out
  refine hcall.mono ?_
  clear hcall
  rintro e w32 hq
  obtain ⟨rfl, hb⟩ := hq
  replace hB : Below W.heap.size W w32 := hB.trans (hb.mono hB.size)
  replace hB2 : Below w2.heap.size w2 w32 := hB2.trans (hb.mono hB2.size)
  have hz32 := hb.size
  clear hb
  go_wp2_with fail
  have hcall := known22 _ (HM.out.below hB hM0) (Tens.here HT.out hB)
  refine hcall.mono ?_
  clear hcall
  rintro e w33 hq
  obtain ⟨rfl, hb⟩ := hq
  replace hB : Below W.heap.size W w33 := hB.trans (hb.mono hB.size)
  replace hB2 : Below w2.heap.size w2 w33 := hB2.trans (hb.mono hB2.size)
  have hz33 := hb.size
  clear hb
  go_wp2
  go_ret
  exact ⟨rfl, hB⟩
end Go.Proofs.YtkloadlodofipaaGreatDoor
