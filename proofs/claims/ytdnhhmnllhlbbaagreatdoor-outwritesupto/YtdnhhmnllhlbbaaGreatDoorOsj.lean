/-
  What is proved here: Value of package out; what a reading refuses.
  What is proved here: need of a reader: goes on behind a text that must stand here.
  What is proved here: Which bytes numbers and sets are made of.
-/
import Derived.Test.YtdnhhmnllhlbbaaGreatDoorOr
namespace Go.Proofs.YtdnhhmnllhlbbaaGreatDoor
open Go.RowKit Go.Shelf
set_option linter.unusedVariables false
set_option linter.unusedSimpArgs false

theorem si_nm {w : World} {s : Value} {l : List Int} (h : Si 0 w s l) : Nm (fun _ => False) w s l := by
  obtain ⟨a, c, e, h⟩ := h
  exact ⟨a, c, e, fun h0 => by obtain ⟨b, off, e1, _, e2, e3⟩ := h h0; exact ⟨b, off, e1, e2, id, e3⟩⟩
/-- A row of one value that is laid. -/
theorem SvX.one {w : World} {v : Vl} {sv : Value} (h : Si 0 w sv v.s) : SvX (fun _ => False) (w.alloc (Obj.cells #[.bool v.set, .int .i64 v.n, sv] 36)) (.slice (some ⟨w.heap.size, 0, none⟩) 1 1) [v] := by
  have hb : Blk (w.alloc (Obj.cells #[.bool v.set, .int .i64 v.n, sv] 36)) w.heap.size #[.bool v.set, .int .i64 v.n, sv] 36 := Blk.new _ _ _
  refine ⟨_, _, rfl, fun _ => ⟨_, _, rfl, hb.lt, id, fun i v' hv => ?_⟩⟩
  have hi : i = 0 := by have := (List.getElem?_eq_some_iff.1 hv).1; simp at this; exact this
  subst hi
  simp at hv
  subst hv
  exact ⟨sv, si_nm (h.below ((Below.refl _ _).alloc (Nat.le_refl _) _)), hb.cell 0, hb.cell 1, hb.cell 2⟩
/-- What Value answers. -/
def valE (v : Vl) (k : Int) (e : Ending) : Prop := e = .returned (.tuple #[.string (bs (if isVal v.set v.n v.s k then valT k v else [])), .int .i64 (if isVal v.set v.n v.s k then 0 else 1)])

set_option maxRecDepth 100000 in
set_option maxHeartbeats 4000000 in
theorem value17 {W : World} {sv : Value} (v : Vl) (k : Int) (h : Si 0 W sv v.s) (hz : v.s.length ≤ 17592186043904) (hT : Tens W) :
    Calls Tryz.prog 17 #[.agg #[.bool v.set, .int .i64 v.n, sv], .int .i64 k] W fun e w' => valE v k e ∧ Below W.heap.size W w' := by
  obtain ⟨a1, c1, rfl, h1'⟩ := h
  have HS : Hid (Si 0 W (.slice a1 v.s.length c1) v.s) := ⟨_, _, rfl, h1'⟩
  have HT : Hid (Tens W) := hT
  clear h1' hT
  obtain ⟨m, hm⟩ : ∃ m, v.s.length = m := ⟨_, rfl⟩
  rw [hm] at HS ⊢
  obtain ⟨A, hA⟩ : ∃ A, W.heap.size = A := ⟨_, rfl⟩
  obtain ⟨w0, hw0⟩ : ∃ q, W.alloc (Obj.cells #[.bool v.set, .int .i64 v.n, .slice a1 m c1] 36) = q := ⟨_, rfl⟩
  have hb0 : Below W.heap.size W w0 := by rw [← hw0]; exact (Below.refl _ _).alloc (Nat.le_refl _) _
  have HX0 : Hid (Blk w0 A #[.bool v.set, .int .i64 v.n, .slice a1 m c1] 36) := by rw [← hw0, ← hA]; exact Blk.new _ _ _
  have HB0 : Hid (Below W.heap.size W w0) := hb0
  have kv := val31 (B := 0) (W := w0) (sv := .slice a1 m c1) (l := v.s) v.set v.n k (HS.out.below hb0) hz
  have x0 := HX0.out.cell 0
  have x1 := HX0.out.cell 1
  have x2 := HX0.out.cell 2
  obtain ⟨r, hr⟩ : ∃ r, isVal v.set v.n v.s k = r := ⟨_, rfl⟩
  have HR : Hid (isVal v.set v.n v.s k = r) := hr
  have HM : Hid (v.s.length = m) := hm
  rw [hr] at kv
  clear hb0 hr hm
  go_enter Tryz.func17, Tryz.ntmps17
  go_wp2_with fail
  refine kv.mono ?_
  rintro e w1 ⟨rfl, hb1⟩
  have HX1 : Hid (Blk w1 A #[.bool v.set, .int .i64 v.n, .slice a1 m c1] 36) := HX0.out.below hb1
  have HB1 : Hid (Below W.heap.size W w1) := HB0.out.trans (hb1.mono HB0.out.size)
  clear kv x0 x1 x2 hw0 hb1 HX0 HB0
  cases r with
  | false =>
    go_wp2
    go_ret2
    exact ⟨by unfold valE; rw [HR.out]; rfl, HB1.out⟩
  | true =>
    have x0 := HX1.out.cell 0
    have x1 := HX1.out.cell 1
    have x2 := HX1.out.cell 2
    have hs1 : Si 0 w1 (.slice a1 m c1) v.s := HS.out.below HB1.out
    have hone := SvX.one (v := v) hs1
    have HB2 : Hid (Below W.heap.size W (w1.alloc (Obj.cells #[.bool v.set, .int .i64 v.n, .slice a1 m c1] 36))) := HB1.out.alloc HB1.out.size _
    have kt := texts26 (kind := k) hone (by simp) (by intro y hy; simp at hy; subst hy; exact HR.out) (HT.out.self HB2.out)
    have HVT : Hid (valsT k [v] = valT k v) := rfl
    clear hone hs1
    go_wp2_with fail
    refine kt.mono ?_
    rintro e w2 ⟨rfl, hb2⟩
    have HB3 : Hid (Below W.heap.size W w2) := HB2.out.trans (hb2.mono HB2.out.size)
    clear kt x0 x1 x2 hb2
    go_wp2_with fail
    go_ret2
    exact ⟨by unfold valE; rw [HR.out]; rfl, HB3.out⟩
/-- What a reading refuses. -/
def refT (s : List UInt8) (l : List Ou) : Int := if RightN l ≠ 0 then RightN l else if 1048576 < s.length then 3 else 0

set_option maxRecDepth 100000 in
set_option maxHeartbeats 4000000 in
theorem refused45 {W : World} {os : Value} {l : List Ou} (s : List UInt8) (h : Sou W os l) (hn : l.length ≤ 1000000000) (hz : ∀ o ∈ l, OuZ o) (hs : s.length ≤ 140737488355328) :
    Calls Tryz.prog 45 #[.string (bs s), os] W fun e w' => e = .returned (.int .i64 (refT s l)) ∧ Below W.heap.size W w' := by
  have kr := right13 h hn hz
  obtain ⟨a, c, rfl, _⟩ := h
  obtain ⟨n, hnn⟩ : ∃ n, l.length = n := ⟨_, rfl⟩
  obtain ⟨r, hr⟩ : ∃ r, RightN l = r := ⟨_, rfl⟩
  have HR : Hid (RightN l = r) := hr
  obtain ⟨m, hm⟩ : ∃ m, s.length = m := ⟨_, rfl⟩
  have HM : Hid (s.length = m) := hm
  have hbs : (bs s).size = m := by rw [bs_size, hm]
  rw [hnn, hr] at kr
  rw [hnn]
  rw [hm] at hs
  clear hnn hr hm
  by_cases h0 : r = 0
  · have HE : Hid (refT s l = if 1048576 < m then 3 else 0) := by unfold Hid refT; rw [HR.out, HM.out, if_neg (by simpa using h0)]
    subst h0
    by_cases h1 : 1048576 < m
    · have h1' : (1048576 : Int) < (m : Int) := by omega
      rw [if_pos h1] at HE
      go_enter Tryz.func45, Tryz.ntmps45
      go_wp2_with fail
      refine kr.mono ?_
      rintro e w1 ⟨rfl, hb1⟩
      clear kr
      go_wp2
      go_ret
      exact ⟨by rw [HE.out]; rfl, hb1⟩
    · have h1' : ¬ (1048576 : Int) < (m : Int) := by omega
      rw [if_neg h1] at HE
      go_enter Tryz.func45, Tryz.ntmps45
      go_wp2_with fail
      refine kr.mono ?_
      rintro e w1 ⟨rfl, hb1⟩
      clear kr
      go_wp2
      go_ret
      exact ⟨by rw [HE.out]; rfl, hb1⟩
  · have HE : Hid (refT s l = r) := by unfold Hid refT; rw [HR.out, if_pos h0]
    have h0' : (r == 0) = false := by simpa using h0
    go_enter Tryz.func45, Tryz.ntmps45
    go_wp2_with fail
    refine kr.mono ?_
    rintro e w1 ⟨rfl, hb1⟩
    clear kr
    go_wp2
    go_ret
    exact ⟨by rw [HE.out]; rfl, hb1⟩
end Go.Proofs.YtdnhhmnllhlbbaaGreatDoor

namespace Go.Proofs.YtdnhhmnllhlbbaaGreatDoor
open Go.RowKit Go.Shelf
set_option linter.unusedVariables false
set_option linter.unusedSimpArgs false

/-- How far two texts are the same. -/
def lcp : List UInt8 → List UInt8 → Nat
  | a :: r, b :: q => if a = b then lcp r q + 1 else 0
  | _, _ => 0
theorem lcp_of {s t : List UInt8} {k : Nat} (h : ∀ i, i < k → ∃ c, s[i]? = some c ∧ t[i]? = some c) (h2 : ∀ c, s[k]? = some c → t[k]? = some c → False) : lcp s t = k := by
  induction k generalizing s t with
  | zero =>
    cases s with
    | nil => rfl
    | cons a r =>
      cases t with
      | nil => rfl
      | cons b q =>
        by_cases e : a = b
        · subst e; exact (h2 a rfl rfl).elim
        · simp [lcp, e]
  | succ k ih =>
    obtain ⟨c, h3, h4⟩ := h 0 (by omega)
    cases s with
    | nil => simp at h3
    | cons a r =>
      cases t with
      | nil => simp at h4
      | cons b q =>
        simp at h3 h4
        subst h3 h4
        simp only [lcp, if_true]
        rw [ih (fun i hi => by simpa using h (i + 1) (by omega)) (fun c => by simpa using h2 c)]
theorem Kept.drew1 {X : Nat → Prop} {W w : World} (h : Kept X W w) : Kept X W w.drew := ⟨h.os, h.tape, h.output, h.size, h.block⟩
/-- What need answers. -/
def NeedE (s t : List UInt8) (p g : Nat) (W : World) (e : Ending) (w : World) : Prop :=
  Blk w g #[.string (bs s), .int .i64 ((p + lcp (s.drop p) t : Nat) : Int)] 115 ∧ Kept (fun b => b = g) W w ∧
  ((lcp (s.drop p) t = t.length ∧ e = .returned (.tuple #[])) ∨ (lcp (s.drop p) t < t.length ∧ e = .panicked [{ v := .iface 113 (.agg #[.int .i64 ((p + lcp (s.drop p) t : Nat) : Int)]), recovered := false }]))

set_option maxRecDepth 100000 in
set_option maxHeartbeats 4000000 in
theorem need72 {W : World} {g p : Nat} (s t : List UInt8) (hX : Blk W g #[.string (bs s), .int .i64 (p : Int)] 115) (hp : p ≤ s.length) (hs : s.length ≤ 1000000000000) (ht : t.length ≤ 1000000000000) :
    Calls Tryz.prog 72 #[.pointer (some ⟨g, 0, none⟩), .string (bs t)] W fun e w' => NeedE s t p g W e w' := by
  have HX : Hid (Blk W g #[.string (bs s), .int .i64 (p : Int)] 115) := hX
  clear hX
  obtain ⟨n, hn⟩ : ∃ n, t.length = n := ⟨_, rfl⟩
  have HN : Hid (t.length = n) := hn
  have hbt : (bs t).size = n := by rw [bs_size, hn]
  obtain ⟨m, hm⟩ : ∃ m, s.length = m := ⟨_, rfl⟩
  have HM : Hid (s.length = m) := hm
  have hbs : (bs s).size = m := by rw [bs_size, hm]
  rw [hn] at ht
  rw [hm] at hs hp
  clear hn hm
  go_enter Tryz.func72, Tryz.ntmps72
  go_wp2
  go_loopw [7] (fun i wr => ∃ (k : Nat), k ≤ n ∧ p + k ≤ m ∧ i = .int .i64 (k : Int) ∧ Hid (Blk wr g #[.string (bs s), .int .i64 ((p + k : Nat) : Int)] 115) ∧ Hid (Kept (fun b => b = g) W wr) ∧ Hid (∀ i, i < k → ∃ c, (s.drop p)[i]? = some c ∧ t[i]? = some c)) (fun i _ => n - (intOf i).toNat)
  case atStart => exact ⟨0, Nat.zero_le _, hp, rfl, HX, Kept.refl _ _, fun i h => by omega⟩
  case round =>
    obtain ⟨k, hk, hpk, rfl, HB, HK, HI⟩ := hrel
    by_cases hlt : k < n
    · have hlt' : (k : Int) < n := by omega
      obtain ⟨c, hc⟩ : ∃ c, t[k]? = some c := ⟨_, List.getElem?_eq_getElem (by rw [HN.out]; exact hlt)⟩
      obtain ⟨q, hq⟩ : ∃ q, p + k = q := ⟨_, rfl⟩
      have HQ : Hid (p + k = q) := hq
      rw [hq] at HB hpk
      clear hq
      obtain ⟨hkl, hcg⟩ := bs_get t k c hc
      by_cases hqm : q = m
      · have hqm' : ((q : Int) == (m : Int)) = true := by simp; omega
        go_upto_region 3 with (fail)
        refine wp_region_held_drew (S := fun X : World => Blk X g #[.string (bs s), .int .i64 (q : Int)] 115) (by kernel_rfl) (HB.out.below ((Below.refl _ _).drew)) (fun hHeld => ?_)
        refine tkI 0 rfl hHeld ?_
        try simp only [Act.put, zS, eZ, eS]
        refine tkI 1 rfl hHeld ?_
        try simp only [Act.put, zS, eZ, eS]
        refine tkI 2 rfl hHeld ?_
        try simp only [Act.put, zS, eZ, eS]
        refine tkI 3 rfl hHeld ?_ (hy := by intro w hSw; have x0 := hSw.cell 0; have x1 := hSw.cell 1; go_simp <;> with_reducible rfl)
        try simp only [Act.put, zS, eZ, eS]
        refine tkI 4 rfl hHeld ?_
        try simp only [Act.put, zS, eZ, eS]
        refine tkI 5 rfl hHeld ?_
        try simp only [Act.put, zS, eZ, eS]
        refine tkI 6 rfl hHeld ?_
        try simp only [Act.put, zS, eZ, eS]
        refine tkI 7 rfl hHeld ?_ (hy := by intro w hSw; have x0 := hSw.cell 0; have x1 := hSw.cell 1; go_simp <;> with_reducible rfl)
        try simp only [Act.put, zS, eZ, eS]
        refine tkI 8 rfl hHeld ?_
        try simp only [Act.put, zS, eZ, eS]
        refine tkI 9 rfl hHeld ?_
        try simp only [Act.put, zS, eZ, eS]
        refine tkI 10 rfl hHeld ?_
        try simp only [Act.put, zS, eZ, eS]
        refine tkU 11 rfl hHeld ?_
        try simp only [Act.put, zS, eZ, eS]
        refine tkU 12 rfl hHeld ?_
        try simp only [Act.put, zS, eZ, eS]
        refine tkU 13 rfl hHeld ?_
        try simp only [Act.put, zS, eZ, eS]
        refine tkU 14 rfl hHeld ?_
        try simp only [Act.put, zS, eZ, eS]
        refine tkU 15 rfl hHeld ?_
        try simp only [Act.put, zS, eZ, eS]
        refine tkU 16 rfl hHeld ?_
        try simp only [Act.put, zS, eZ, eS]
        refine tkU 17 rfl hHeld ?_
        try simp only [Act.put, zS, eZ, eS]
        refine tkU 18 rfl hHeld ?_
        try simp only [Act.put, zS, eZ, eS]
        refine tkU 19 rfl hHeld ?_
        try simp only [Act.put, zS, eZ, eS]
        refine tkU 20 rfl hHeld ?_
        try simp only [Act.put, zS, eZ, eS]
        refine tkU 21 rfl hHeld ?_
        try simp only [Act.put, zS, eZ, eS]
        refine tkU 22 rfl hHeld ?_
        try simp only [Act.put, zS, eZ, eS]
        refine tkU 23 rfl hHeld ?_
        try simp only [Act.put, zS, eZ, eS]
        refine tkI 24 rfl hHeld ?_
        try simp only [Act.put, zS, eZ, eS]
        refine wpAnyH_done (by kernel_rfl) ?_ _
        have HBD : Hid (Blk wr.drew g #[.string (bs s), .int .i64 (q : Int)] 115) := HB.out.below ((Below.refl _ _).drew)
        have z1 := HBD.out.cell 1
        have HLC : Hid (lcp (s.drop p) t = k) := lcp_of HI.out (fun c1 e1 _ => by rw [List.getElem?_drop, HQ.out, List.getElem?_eq_none (by rw [HM.out]; omega)] at e1; cases e1)
        clear hHeld
        go_wp2
        exact ⟨rfl, by rw [HLC.out, HQ.out]; exact HBD.out, HK.out.drew1, .inr ⟨by rw [HLC.out, HN.out]; exact hlt, by rw [HLC.out, HQ.out, hqm]⟩⟩
      · have hqm' : ((q : Int) == (m : Int)) = false := by simp; omega
        obtain ⟨d, hd⟩ : ∃ d, s[q]? = some d := ⟨_, List.getElem?_eq_getElem (by rw [HM.out]; omega)⟩
        obtain ⟨hql, hdg⟩ := bs_get s q d hd
        have hqlt : q < m := by omega
        by_cases hdc : d = c
        · subst hdc
          go_upto_region 3 with (fail)
          refine wp_region_held_drew (S := fun X : World => Blk X g #[.string (bs s), .int .i64 (q : Int)] 115) (by kernel_rfl) (HB.out.below ((Below.refl _ _).drew)) (fun hHeld => ?_)
          refine tkI 0 rfl hHeld ?_
          try simp only [Act.put, zS, eZ, eS]
          refine tkI 1 rfl hHeld ?_
          try simp only [Act.put, zS, eZ, eS]
          refine tkI 2 rfl hHeld ?_
          try simp only [Act.put, zS, eZ, eS]
          refine tkI 3 rfl hHeld ?_ (hy := by intro w hSw; have x0 := hSw.cell 0; have x1 := hSw.cell 1; go_simp <;> with_reducible rfl)
          try simp only [Act.put, zS, eZ, eS]
          refine tkI 4 rfl hHeld ?_
          try simp only [Act.put, zS, eZ, eS]
          refine tkI 5 rfl hHeld ?_
          try simp only [Act.put, zS, eZ, eS]
          refine tkI 6 rfl hHeld ?_
          try simp only [Act.put, zS, eZ, eS]
          refine tkI 7 rfl hHeld ?_ (hy := by intro w hSw; have x0 := hSw.cell 0; have x1 := hSw.cell 1; go_simp <;> with_reducible rfl)
          try simp only [Act.put, zS, eZ, eS]
          refine tkI 8 rfl hHeld ?_
          try simp only [Act.put, zS, eZ, eS]
          refine tkI 9 rfl hHeld ?_
          try simp only [Act.put, zS, eZ, eS]
          refine tkI 10 rfl hHeld ?_
          try simp only [Act.put, zS, eZ, eS]
          refine tkI 11 rfl hHeld ?_
          try simp only [Act.put, zS, eZ, eS]
          refine tkI 12 rfl hHeld ?_
          try simp only [Act.put, zS, eZ, eS]
          refine tkI 13 rfl hHeld ?_
          try simp only [Act.put, zS, eZ, eS]
          refine tkI 14 rfl hHeld ?_ (hy := by intro w hSw; have x0 := hSw.cell 0; have x1 := hSw.cell 1; go_simp <;> with_reducible rfl)
          try simp only [Act.put, zS, eZ, eS]
          refine tkI 15 rfl hHeld ?_
          try simp only [Act.put, zS, eZ, eS]
          refine tkI 16 rfl hHeld ?_
          try simp only [Act.put, zS, eZ, eS]
          refine tkI 17 rfl hHeld ?_
          try simp only [Act.put, zS, eZ, eS]
          refine tkI 18 rfl hHeld ?_ (hy := by intro w hSw; have x0 := hSw.cell 0; have x1 := hSw.cell 1; go_simp <;> with_reducible rfl)
          try simp only [Act.put, zS, eZ, eS]
          refine tkI 19 rfl hHeld ?_
          try simp only [Act.put, zS, eZ, eS]
          refine tkI 20 rfl hHeld ?_
          try simp only [Act.put, zS, eZ, eS]
          refine tkI 21 rfl hHeld ?_
          try simp only [Act.put, zS, eZ, eS]
          refine tkI 22 rfl hHeld ?_
          try simp only [Act.put, zS, eZ, eS]
          refine tkI 23 rfl hHeld ?_
          try simp only [Act.put, zS, eZ, eS]
          refine tkI 24 rfl hHeld ?_
          try simp only [Act.put, zS, eZ, eS]
          refine wpAnyH_done (by kernel_rfl) ?_ _
          have HBD : Hid (Blk wr.drew g #[.string (bs s), .int .i64 (q : Int)] 115) := HB.out.below ((Below.refl _ _).drew)
          have z1 := HBD.out.cell 1
          have zf := HBD.out.frozen 1
          clear hHeld
          go_wp2
          have he : ((p + (k + 1) : Nat) : Int) = (q : Int) + 1 := by have := HQ.out; omega
          refine ⟨⟨k + 1, by omega, by have := HQ.out; omega, by go_num, ?_, ?_, ?_⟩, by simp [intOf]; omega⟩
          · unfold Hid; rw [he]; exact HBD.out.set 1 _
          · exact HK.out.drew1.setCell rfl _ _
          · intro i hi
            by_cases hik : i = k
            · subst hik; exact ⟨_, by rw [List.getElem?_drop, HQ.out]; exact hd, hc⟩
            · exact HI.out i (by omega)
        · have hdc' : (((d.toNat : Int)) == (c.toNat : Int)) = false := by
            simp only [beq_eq_false_iff_ne, ne_eq, Int.natCast_inj]
            exact fun e => hdc (UInt8.toNat_inj.1 e)
          go_upto_region 3 with (fail)
          refine wp_region_held_drew (S := fun X : World => Blk X g #[.string (bs s), .int .i64 (q : Int)] 115) (by kernel_rfl) (HB.out.below ((Below.refl _ _).drew)) (fun hHeld => ?_)
          refine tkI 0 rfl hHeld ?_
          try simp only [Act.put, zS, eZ, eS]
          refine tkI 1 rfl hHeld ?_
          try simp only [Act.put, zS, eZ, eS]
          refine tkI 2 rfl hHeld ?_
          try simp only [Act.put, zS, eZ, eS]
          refine tkI 3 rfl hHeld ?_ (hy := by intro w hSw; have x0 := hSw.cell 0; have x1 := hSw.cell 1; go_simp <;> with_reducible rfl)
          try simp only [Act.put, zS, eZ, eS]
          refine tkI 4 rfl hHeld ?_
          try simp only [Act.put, zS, eZ, eS]
          refine tkI 5 rfl hHeld ?_
          try simp only [Act.put, zS, eZ, eS]
          refine tkI 6 rfl hHeld ?_
          try simp only [Act.put, zS, eZ, eS]
          refine tkI 7 rfl hHeld ?_ (hy := by intro w hSw; have x0 := hSw.cell 0; have x1 := hSw.cell 1; go_simp <;> with_reducible rfl)
          try simp only [Act.put, zS, eZ, eS]
          refine tkI 8 rfl hHeld ?_
          try simp only [Act.put, zS, eZ, eS]
          refine tkI 9 rfl hHeld ?_
          try simp only [Act.put, zS, eZ, eS]
          refine tkI 10 rfl hHeld ?_
          try simp only [Act.put, zS, eZ, eS]
          refine tkI 11 rfl hHeld ?_
          try simp only [Act.put, zS, eZ, eS]
          refine tkI 12 rfl hHeld ?_
          try simp only [Act.put, zS, eZ, eS]
          refine tkI 13 rfl hHeld ?_
          try simp only [Act.put, zS, eZ, eS]
          refine tkI 14 rfl hHeld ?_ (hy := by intro w hSw; have x0 := hSw.cell 0; have x1 := hSw.cell 1; go_simp <;> with_reducible rfl)
          try simp only [Act.put, zS, eZ, eS]
          refine tkI 15 rfl hHeld ?_
          try simp only [Act.put, zS, eZ, eS]
          refine tkI 16 rfl hHeld ?_
          try simp only [Act.put, zS, eZ, eS]
          refine tkI 17 rfl hHeld ?_
          try simp only [Act.put, zS, eZ, eS]
          refine tkI 18 rfl hHeld ?_ (hy := by intro w hSw; have x0 := hSw.cell 0; have x1 := hSw.cell 1; go_simp <;> with_reducible rfl)
          try simp only [Act.put, zS, eZ, eS]
          refine tkI 19 rfl hHeld ?_
          try simp only [Act.put, zS, eZ, eS]
          refine tkI 20 rfl hHeld ?_
          try simp only [Act.put, zS, eZ, eS]
          refine tkI 21 rfl hHeld ?_
          try simp only [Act.put, zS, eZ, eS]
          refine tkI 22 rfl hHeld ?_
          try simp only [Act.put, zS, eZ, eS]
          refine tkI 23 rfl hHeld ?_
          try simp only [Act.put, zS, eZ, eS]
          refine tkI 24 rfl hHeld ?_
          try simp only [Act.put, zS, eZ, eS]
          refine wpAnyH_done (by kernel_rfl) ?_ _
          have HBD : Hid (Blk wr.drew g #[.string (bs s), .int .i64 (q : Int)] 115) := HB.out.below ((Below.refl _ _).drew)
          have z1 := HBD.out.cell 1
          have HLC : Hid (lcp (s.drop p) t = k) := lcp_of HI.out (fun c1 e1 e2 => hdc (by rw [List.getElem?_drop, HQ.out, hd] at e1; rw [hc] at e2; injection e1 with e1; injection e2 with e2; rw [e1, e2]))
          clear hHeld
          go_wp2
          exact ⟨rfl, by rw [HLC.out, HQ.out]; exact HBD.out, HK.out.drew1, .inr ⟨by rw [HLC.out, HN.out]; exact hlt, by rw [HLC.out, HQ.out]⟩⟩
    · have hk9 : n = k := by omega
      have hlt' : ¬ (k : Int) < (n : Int) := by omega
      have HLC : Hid (lcp (s.drop p) t = k) := lcp_of HI.out (fun c1 _ e2 => by rw [List.getElem?_eq_none (by rw [HN.out]; omega)] at e2; cases e2)
      have HNK : Hid (t.length = k) := by rw [← hk9]; exact HN
      clear HI
      go_wp2
      exact ⟨rfl, _, results_none rfl _ _ _, by rw [HLC.out]; exact HB.out, HK.out, .inl ⟨by rw [HLC.out, HNK.out], rfl⟩⟩
end Go.Proofs.YtdnhhmnllhlbbaaGreatDoor

namespace Go.Proofs.YtdnhhmnllhlbbaaGreatDoor
open Go.RowKit Go.Shelf
set_option linter.unusedVariables false
set_option linter.unusedSimpArgs false

def numB (c : UInt8) : Bool := decide (48 ≤ c.toNat) && decide (c.toNat ≤ 57) || decide (c.toNat = 45)

set_option maxRecDepth 100000 in
set_option maxHeartbeats 4000000 in
theorem num140 (c : UInt8) (W : World) : Calls Tryz.prog 140 #[.int .u8 c.toNat] W fun e w' => e = .returned (.bool (numB c)) ∧ w' = W := by
  obtain ⟨n, hn⟩ : ∃ n, c.toNat = n := ⟨_, rfl⟩
  unfold numB
  rw [hn]
  clear hn
  go_enter Tryz.func140, Tryz.ntmps140
  go_wp2
  all_goals (go_ret; refine ⟨?_, rfl⟩; show Ending.returned (Value.bool _) = _; congr 2; rw [Bool.eq_iff_iff]; simp; try omega)
end Go.Proofs.YtdnhhmnllhlbbaaGreatDoor
