/-
  What is proved here: wrongTerm, rightShape, lex.Word and wrong of package out; outputs in memory.
-/
import Derived.Test.YtdnhhmnllhlbbaaGreatDoorCEcj
import Derived.OrdersHeld
import Derived.Deep.RegionHeld
namespace Go.Proofs.YtdnhhmnllhlbbaaGreatDoor
open Go.RowKit Go.Shelf
set_option linter.unusedVariables false
set_option linter.unusedSimpArgs false

/-- Is a term neither a variable nor a constant that can be? -/
def wtB (t : Tm) (k : Int) : Bool := decide (t.v < -1) || (decide (t.v = -1) && !isVal t.set t.n t.s k)

set_option maxRecDepth 100000 in
set_option maxHeartbeats 4000000 in
theorem wt85 {B : Nat} {W : World} {sv : Value} {g : Nat} (t : Tm) (k : Int) (h : Si B W sv t.s) (hz : t.s.length ≤ 17592186043904) (hg : W.cell? ⟨g, 0, none⟩ = some (.int .i64 k)) (hgl : g < W.heap.size) :
    Calls Tryz.prog 85 #[.agg #[.int .i64 t.v, .bool t.set, .int .i64 t.n, sv], .pointer (some ⟨g, 0, none⟩)] W fun e w' => e = .returned (.bool (wtB t k)) ∧ Below W.heap.size W w' := by
  obtain ⟨v, s, n, l⟩ := t
  simp only at h hz ⊢
  obtain ⟨W0, hW0⟩ : ∃ Q, W.alloc (Obj.cells #[.int .i64 v, .bool s, .int .i64 n, sv] 67) = Q := ⟨_, rfl⟩
  have hb0 : Below W.heap.size W W0 := by rw [← hW0]; exact (Below.refl _ W).alloc (Nat.le_refl _) _
  have HBX : Hid (Blk W0 W.heap.size #[.int .i64 v, .bool s, .int .i64 n, sv] 67) := by rw [← hW0]; exact Blk.new _ _ _
  have kv := val31 s n k (h.below hb0) hz
  have yg : W0.cell? ⟨g, 0, none⟩ = some (.int .i64 k) := (hb0.cell (p := ⟨g, 0, none⟩) hgl).trans hg
  have HW0 : Hid _ := hW0
  obtain ⟨q, hq⟩ : ∃ q, isVal s n l k = q := ⟨_, rfl⟩
  have HE : Hid (wtB ⟨v, s, n, l⟩ k = (decide (v < -1) || (decide (v = -1) && !q))) := by rw [Hid, ← hq]; rfl
  obtain ⟨r, hr⟩ : ∃ r, wtB ⟨v, s, n, l⟩ k = r := ⟨_, rfl⟩
  rw [hr] at HE ⊢
  rw [hq] at kv
  have z0 := HBX.out.cell 0
  have z1 := HBX.out.cell 1
  have z2 := HBX.out.cell 2
  have z3 := HBX.out.cell 3
  simp at z0 z1 z2 z3
  clear hW0 h hz hg hq hr
  by_cases h1 : v < -1
  · have HE2 : Hid (r = true) := by rw [Hid, HE.out]; simp [h1]
    go_enter Tryz.func85, Tryz.ntmps85
    go_upto_region 1 with (fail)
    rw [HW0.out]
    go_wp2
    go_ret
    exact ⟨by rw [HE2.out]; rfl, hb0⟩
  · by_cases h2 : v = -1
    · subst h2
      have HE2 : Hid (r = !q) := by rw [Hid, HE.out]; simp
      go_enter Tryz.func85, Tryz.ntmps85
      go_upto_region 1 with (fail)
      rw [HW0.out]
      go_wp2_with fail
      refine kv.mono ?_
      rintro e w1 ⟨rfl, hb1⟩
      cases q
      all_goals
        go_wp2
        go_ret
        exact ⟨by rw [HE2.out]; rfl, hb0.trans (hb1.mono hb0.size)⟩
    · have h2' : (v == -1) = false := by simpa using h2
      have HE2 : Hid (r = false) := by rw [Hid, HE.out]; simp [h1, h2]
      go_enter Tryz.func85, Tryz.ntmps85
      go_upto_region 1 with (fail)
      rw [HW0.out]
      go_wp2
      go_ret
      exact ⟨by rw [HE2.out]; rfl, hb0⟩

set_option maxRecDepth 100000 in
set_option maxHeartbeats 4000000 in
theorem wt64 (k : Int) (W : World) : Calls Tryz.prog 64 #[.int .i64 k] W fun e w' => ∃ g, e = .returned (.func (.func 85) #[] #[.pointer (some ⟨g, 0, none⟩)]) ∧ w'.cell? ⟨g, 0, none⟩ = some (.int .i64 k) ∧ g < w'.heap.size ∧ Below W.heap.size W w' := by
  go_enter Tryz.func64, Tryz.ntmps64
  go_wp2
  go_ret
  exact ⟨W.heap.size, rfl, by simp, by simp, (Below.refl _ W).alloc (Nat.le_refl _) _⟩
/-- A word. -/
def wordB (l : List UInt8) : Bool := match l with
  | [] => false
  | c :: _ => letB c && decide (spn wrdB l = l.length)

set_option maxRecDepth 100000 in
set_option maxHeartbeats 4000000 in
theorem word60 (l : List UInt8) (hl : l.length ≤ 140737488355328) (W : World) : Calls Tryz.prog 60 #[.string (bs l)] W fun e w' => e = .returned (.bool (wordB l)) ∧ w' = W := by
  go_enter Tryz.func60, Tryz.ntmps60
  cases l with
  | nil =>
    have h0 := bs_e0
    go_wp2
    go_ret
    exact ⟨rfl, rfl⟩
  | cons c r =>
    obtain ⟨hx0, hx⟩ := bs_get (c :: r) 0 c rfl
    have h0 := bs_ne (c :: r) (by simp)
    have h1 := bs_nee (c :: r) (by simp)
    have hsz := bs_size (c :: r)
    have kw := wordEnd_any (c :: r) 0 (Nat.zero_le _) hl
    have HD : Hid ((c :: r).drop 0 = c :: r) := rfl
    cases hc : letB c with
    | false =>
      have kl := letter_any c
      rw [hc] at kl
      have HE : Hid (wordB (c :: r) = false) := by simp [Hid, wordB, hc]
      clear hc kw
      go_wp2_with fail
      refine (kl _).mono ?_
      rintro e w' ⟨rfl, rfl⟩
      go_wp2
      go_ret
      exact ⟨by rw [HE.out]; rfl, rfl⟩
    | true =>
      have kl := letter_any c
      rw [hc] at kl
      have HE : Hid (wordB (c :: r) = decide (spn wrdB (c :: r) = (c :: r).length)) := by simp [Hid, wordB, hc]
      clear hc
      obtain ⟨s, hs⟩ : ∃ s, spn wrdB (c :: r) = s := ⟨_, rfl⟩
      obtain ⟨m, hm⟩ : ∃ s, (c :: r).length = s := ⟨_, rfl⟩
      have kw2 : ∀ W, Calls Tryz.prog 80 #[.string (bs (c :: r)), .int .i64 0] W fun e w' => e = .returned (.int .i64 (s : Int)) ∧ w' = W := fun W => by
        have := wordEnd_any (c :: r) 0 (Nat.zero_le _) hl W
        rw [Nat.zero_add, List.drop_zero, hs] at this
        exact this
      have hsz2 : (bs (c :: r)).size = m := by rw [hsz, hm]
      rw [hs, hm] at HE
      clear hsz hs hm kw HD
      by_cases hsm : s = m
      · have HE2 : Hid (wordB (c :: r) = true) := by rw [Hid, HE.out]; simp [hsm]
        have hq : ((s : Int) == (m : Int)) = true := by simp [hsm]
        clear hsm
        go_wp2_with fail
        refine (kl _).mono ?_
        rintro e w' ⟨rfl, rfl⟩
        go_wp2_with fail
        refine (kw2 _).mono ?_
        rintro e w' ⟨rfl, rfl⟩
        go_wp2
        go_ret
        exact ⟨by rw [HE2.out]; rfl, rfl⟩
      · have HE2 : Hid (wordB (c :: r) = false) := by rw [Hid, HE.out]; simp [hsm]
        have hq : ((s : Int) == (m : Int)) = false := by simp <;> omega
        clear hsm
        go_wp2_with fail
        refine (kl _).mono ?_
        rintro e w' ⟨rfl, rfl⟩
        go_wp2_with fail
        refine (kw2 _).mono ?_
        rintro e w' ⟨rfl, rfl⟩
        go_wp2
        go_ret
        exact ⟨by rw [HE2.out]; rfl, rfl⟩
/-- An output. -/
structure Ou where
  nm : List UInt8
  dims : List (Int × Int)
  l : List Tm
  kind : Int
  one : Bool
/-- Has an output as many terms as it says? -/
def shB (o : Ou) : Bool := if o.one then decide (o.l.length = 1) && decide (o.dims.length = 0) else decide (1 ≤ o.dims.length) && (decide (o.dims.length ≤ 16) && (!anyB (fun k => match o.dims[k]? with
  | some x => !bndB x.1 || !bndB x.2
  | none => false) o.dims.length && decide (prodM o.dims ((o.l.length : Int) + 1) 1 = (o.l.length : Int))))
theorem rgs_el {W : World} {a : Option Addr} {n c : Nat} {l : List (Int × Int)} (h : Rgs W (.slice a n c) l) (hlen : l.length = n) : ElR W a n (fun k => match l[k]? with
  | some x => !bndB x.1 || !bndB x.2
  | none => false) := by
  intro k hk
  obtain ⟨⟨lo, hi⟩, hg⟩ : ∃ g, l[k]? = some g := ⟨_, List.getElem?_eq_getElem (by rw [hlen]; exact hk)⟩
  obtain ⟨b, off, e, hb, d0, d1⟩ := h.at hg
  refine ⟨b, off, _, _, e, hb, d0, d1, fun X _ => ?_⟩
  simp only [hg]
  exact ends82 lo hi X

set_option maxRecDepth 100000 in
set_option maxHeartbeats 4000000 in
theorem shape62 {W : World} {dv lv : Value} (o : Ou) (hd : Rgs W dv o.dims) (hl : St 0 W lv o.l) (hz : o.l.length ≤ 2000000) :
    Calls Tryz.prog 62 #[.agg #[.string (bs o.nm), dv, lv, .int .i64 o.kind, .bool o.one]] W fun e w' => e = .returned (.bool (shB o)) ∧ Below W.heap.size W w' := by
  obtain ⟨nm, dims, l, kind, one⟩ := o
  simp only at hd hl hz ⊢
  obtain ⟨da, dc, rfl, hd'⟩ := hd
  obtain ⟨la, lc, rfl, hl'⟩ := hl
  have HD : Hid (Rgs W (.slice da dims.length dc) dims) := ⟨_, _, rfl, hd'⟩
  obtain ⟨W0, hW0⟩ : ∃ Q, W.alloc (Obj.cells #[.string (bs nm), .slice da dims.length dc, .slice la l.length lc, .int .i64 kind, .bool one] 53) = Q := ⟨_, rfl⟩
  have hb0 : Below W.heap.size W W0 := by rw [← hW0]; exact (Below.refl _ W).alloc (Nat.le_refl _) _
  have HBX : Hid (Blk W0 W.heap.size #[.string (bs nm), .slice da dims.length dc, .slice la l.length lc, .int .i64 kind, .bool one] 53) := by rw [← hW0]; exact Blk.new _ _ _
  obtain ⟨p, hp⟩ : ∃ p : Nat → Bool, (fun k => match dims[k]? with
    | some x => !bndB x.1 || !bndB x.2
    | none => false) = p := ⟨_, rfl⟩
  obtain ⟨r, hr⟩ : ∃ r, shB ⟨nm, dims, l, kind, one⟩ = r := ⟨_, rfl⟩
  have HE : Hid (r = if one then decide (l.length = 1) && decide (dims.length = 0) else decide (1 ≤ dims.length) && (decide (dims.length ≤ 16) && (!anyB p dims.length && decide (prodM dims ((l.length : Int) + 1) 1 = (l.length : Int))))) := by
    rw [Hid, ← hr, ← hp]; rfl
  rw [hr]
  have KH : Hid (∀ X, Below W0.heap.size W0 X → dims.length ≤ 16 → Calls Tryz.prog 81 #[.slice da dims.length dc, .func (.func 82) #[] #[]] X fun e w' => e = .returned (.bool (anyB p dims.length)) ∧ Below X.heap.size X w') := fun X hX h16 => by
    have := rgs_el (HD.out.below (hb0.trans (hX.mono hb0.size))) rfl
    rw [hp] at this
    exact hasR this (by omega)
  have HBN : Hid (anyB p dims.length = false → ∀ x ∈ dims, -1000000 ≤ x.1 ∧ x.1 ≤ 1000000 ∧ -1000000 ≤ x.2 ∧ x.2 ≤ 1000000) := fun h x hx => by
    obtain ⟨i, hi⟩ := List.getElem?_of_mem hx
    have hlt := (List.getElem?_eq_some_iff.1 hi).1
    rw [anyB, List.any_eq_false] at h
    have := h i (List.mem_range.2 hlt)
    rw [← hp] at this
    simp only [hi] at this
    unfold bndB at this
    simp at this
    omega
  have KP : Hid (∀ X, Below W0.heap.size W0 X → dims.length ≤ 16 → anyB p dims.length = false → Calls Tryz.prog 83 #[.slice da dims.length dc, .int .i64 ((l.length : Int) + 1)] X fun e w' => e = .returned (.int .i64 (prodM dims ((l.length : Int) + 1) 1)) ∧ Below X.heap.size X w') := fun X hX h16 h => prod83 (HD.out.below (hb0.trans (hX.mono hb0.size))) rfl (by omega) (HBN.out h) _ (by omega) (by omega)
  have HW0 : Hid _ := hW0
  have HB00 : Hid (Below W.heap.size W W0) := hb0
  have HCL : Hid (∀ X, Below W0.heap.size W0 X → X.cell? ⟨W.heap.size, 0, none⟩ = some (.string (bs nm)) ∧ X.cell? ⟨W.heap.size, 1, none⟩ = some (.slice da dims.length dc) ∧ X.cell? ⟨W.heap.size, 2, none⟩ = some (.slice la l.length lc) ∧ X.cell? ⟨W.heap.size, 3, none⟩ = some (.int .i64 kind) ∧ X.cell? ⟨W.heap.size, 4, none⟩ = some (.bool one)) := fun X hX => by
    have := HBX.out.below hX
    exact ⟨this.cell 0, this.cell 1, this.cell 2, this.cell 3, this.cell 4⟩
  obtain ⟨z0, z1, z2, z3, z4⟩ := HCL.out W0 (Below.refl _ _)
  obtain ⟨n, hn⟩ : ∃ n, dims.length = n := ⟨_, rfl⟩
  obtain ⟨m, hm⟩ : ∃ n, l.length = n := ⟨_, rfl⟩
  obtain ⟨s, hs⟩ : ∃ s, anyB p dims.length = s := ⟨_, rfl⟩
  obtain ⟨y, hy⟩ : ∃ s, prodM dims ((l.length : Int) + 1) 1 = s := ⟨_, rfl⟩
  rw [hs, hy] at HE
  rw [hs] at KH KP
  rw [hy] at KP
  rw [hn, hm] at HE HW0 HBX HCL KP
  rw [hn] at KH z1
  rw [hm] at hz z2
  rw [hn, hm]
  have HP0 : Hid (Below W0.heap.size W0 W0.drew) := (Below.refl _ _).drew
  clear hd' hl' hW0 hp hr hb0 hn hm hs hy HD HBN
  cases one with
  | true =>
    rw [if_pos rfl] at HE
    by_cases h1 : m = 1
    · subst h1
      by_cases h0 : n = 0
      · subst h0
        go_enter Tryz.func62, Tryz.ntmps62
        go_upto_region 1 with (fail)
        rw [HW0.out]
        go_wp2
        go_ret
        exact ⟨by rw [HE.out]; rfl, HB00.out⟩
      · have h0' : ((n : Int) == 0) = false := by simp <;> omega
        have HE2 : Hid (r = false) := by rw [Hid, HE.out]; simp [h0]
        go_enter Tryz.func62, Tryz.ntmps62
        go_upto_region 1 with (fail)
        rw [HW0.out]
        go_wp2
        go_ret
        exact ⟨by rw [HE2.out]; rfl, HB00.out⟩
    · have h1' : ((m : Int) == 1) = false := by simp <;> omega
      have HE2 : Hid (r = false) := by rw [Hid, HE.out]; simp [h1]
      go_enter Tryz.func62, Tryz.ntmps62
      go_upto_region 1 with (fail)
      rw [HW0.out]
      go_wp2
      go_ret
      exact ⟨by rw [HE2.out]; rfl, HB00.out⟩
  | false =>
    rw [if_neg (by decide)] at HE
    by_cases h1 : 1 ≤ n
    · have h1' : (1 : Int) ≤ n := by omega
      by_cases h16 : n ≤ 16
      · have h16' : (n : Int) ≤ 16 := by omega
        have KH : Hid _ := fun X hX => KH.out X hX h16
        cases s with
        | true =>
          have HE2 : Hid (r = false) := by rw [Hid, HE.out]; simp
          go_enter Tryz.func62, Tryz.ntmps62
          go_upto_region 1 with (fail)
          rw [HW0.out]
          go_upto_region 3 with (fail)
          clear z0 z1 z2 z3 z4
          refine wp_region_held_drew (S := fun X : World => Below W0.heap.size W0 X) (by kernel_rfl) (HP0.out) (fun hHeld => ?_)
          refine tkI 0 rfl hHeld ?_
          try simp only [Act.put, zS, eZ, eS]
          refine tkI 1 rfl hHeld ?_ (hy := by intro w hSw; obtain ⟨y0, y1, y2, y3, y4⟩ := HCL.out _ hSw; go_simp <;> with_reducible rfl)
          try simp only [Act.put, zS, eZ, eS]
          refine tkI 2 rfl hHeld ?_
          try simp only [Act.put, zS, eZ, eS]
          refine tkI 3 rfl hHeld ?_
          try simp only [Act.put, zS, eZ, eS]
          refine tkI 4 rfl hHeld ?_
          try simp only [Act.put, zS, eZ, eS]
          refine tkI 5 rfl hHeld ?_
          try simp only [Act.put, zS, eZ, eS]
          refine tkI 6 rfl hHeld ?_ (hy := by intro w hSw; obtain ⟨y0, y1, y2, y3, y4⟩ := HCL.out _ hSw; go_simp <;> with_reducible rfl)
          try simp only [Act.put, zS, eZ, eS]
          refine tkI 7 rfl hHeld ?_
          try simp only [Act.put, zS, eZ, eS]
          refine tkI 8 rfl hHeld ?_
          try simp only [Act.put, zS, eZ, eS]
          refine tkI 9 rfl hHeld ?_
          try simp only [Act.put, zS, eZ, eS]
          refine tkI 10 rfl hHeld ?_
          try simp only [Act.put, zS, eZ, eS]
          refine tkI 11 rfl hHeld ?_
          try simp only [Act.put, zS, eZ, eS]
          refine tkI 12 rfl hHeld ?_ (hy := by intro w hSw; obtain ⟨y0, y1, y2, y3, y4⟩ := HCL.out _ hSw; go_simp <;> with_reducible rfl)
          try simp only [Act.put, zS, eZ, eS]
          refine rdy 13 rfl fun K hK => ?_
          go_simp
          refine (KH.out _ HP0.out).mono ?_
          rintro e w1 ⟨rfl, hb⟩
          have HP1 : Hid (Below W0.heap.size W0 w1) := HP0.out.trans (hb.mono HP0.out.size)
          clear hb
          clear hHeld; refine hK.out _ _ (HP1.out) fun hHeld => ?_
          clear hK K
          try simp only [Act.put, zS, eZ, eS]
          refine tkI 14 rfl hHeld ?_
          try simp only [Act.put, zS, eZ, eS]
          refine tkI 15 rfl hHeld ?_
          try simp only [Act.put, zS, eZ, eS]
          refine tkI 16 rfl hHeld ?_
          try simp only [Act.put, zS, eZ, eS]
          refine tkU 17 rfl hHeld ?_
          try simp only [Act.put, zS, eZ, eS]
          refine tkU 18 rfl hHeld ?_
          try simp only [Act.put, zS, eZ, eS]
          refine tkU 19 rfl hHeld ?_
          try simp only [Act.put, zS, eZ, eS]
          refine tkU 20 rfl hHeld ?_
          try simp only [Act.put, zS, eZ, eS]
          refine tkU 21 rfl hHeld ?_
          try simp only [Act.put, zS, eZ, eS]
          refine tkU 22 rfl hHeld ?_
          try simp only [Act.put, zS, eZ, eS]
          refine tkU 23 rfl hHeld ?_
          try simp only [Act.put, zS, eZ, eS]
          refine tkU 24 rfl hHeld ?_
          try simp only [Act.put, zS, eZ, eS]
          refine tkU 25 rfl hHeld ?_
          try simp only [Act.put, zS, eZ, eS]
          refine tkU 26 rfl hHeld ?_
          try simp only [Act.put, zS, eZ, eS]
          refine tkU 27 rfl hHeld ?_
          try simp only [Act.put, zS, eZ, eS]
          refine tkI 28 rfl hHeld ?_
          try simp only [Act.put, zS, eZ, eS]
          refine tkI 29 rfl hHeld ?_
          try simp only [Act.put, zS, eZ, eS]
          refine wpAnyH_done (by kernel_rfl) ?_ _
          go_wp2
          go_ret
          exact ⟨by rw [HE2.out]; rfl, HB00.out.trans (HP1.out.mono HB00.out.size)⟩
        | false =>
          have KP : Hid _ := fun X hX => KP.out X hX h16 rfl
          have hwm : IntKind.i64.wrap ((m : Int) + 1) = (m : Int) + 1 := by rw [IntKind.wrap_i64]; omega
          by_cases hy : y = (m : Int)
          · have hy' : (y == (m : Int)) = true := by simp [hy]
            have HE2 : Hid (r = true) := by rw [Hid, HE.out]; simp [h1, h16, hy]
            clear hy
            go_enter Tryz.func62, Tryz.ntmps62
            go_upto_region 1 with (fail)
            rw [HW0.out]
            go_upto_region 3 with (fail)
            clear z0 z1 z2 z3 z4
            refine wp_region_held_drew (S := fun X : World => Below W0.heap.size W0 X) (by kernel_rfl) (HP0.out) (fun hHeld => ?_)
            refine tkI 0 rfl hHeld ?_
            try simp only [Act.put, zS, eZ, eS]
            refine tkI 1 rfl hHeld ?_ (hy := by intro w hSw; obtain ⟨y0, y1, y2, y3, y4⟩ := HCL.out _ hSw; go_simp <;> with_reducible rfl)
            try simp only [Act.put, zS, eZ, eS]
            refine tkI 2 rfl hHeld ?_
            try simp only [Act.put, zS, eZ, eS]
            refine tkI 3 rfl hHeld ?_
            try simp only [Act.put, zS, eZ, eS]
            refine tkI 4 rfl hHeld ?_
            try simp only [Act.put, zS, eZ, eS]
            refine tkI 5 rfl hHeld ?_
            try simp only [Act.put, zS, eZ, eS]
            refine tkI 6 rfl hHeld ?_ (hy := by intro w hSw; obtain ⟨y0, y1, y2, y3, y4⟩ := HCL.out _ hSw; go_simp <;> with_reducible rfl)
            try simp only [Act.put, zS, eZ, eS]
            refine tkI 7 rfl hHeld ?_
            try simp only [Act.put, zS, eZ, eS]
            refine tkI 8 rfl hHeld ?_
            try simp only [Act.put, zS, eZ, eS]
            refine tkI 9 rfl hHeld ?_
            try simp only [Act.put, zS, eZ, eS]
            refine tkI 10 rfl hHeld ?_
            try simp only [Act.put, zS, eZ, eS]
            refine tkI 11 rfl hHeld ?_
            try simp only [Act.put, zS, eZ, eS]
            refine tkI 12 rfl hHeld ?_ (hy := by intro w hSw; obtain ⟨y0, y1, y2, y3, y4⟩ := HCL.out _ hSw; go_simp <;> with_reducible rfl)
            try simp only [Act.put, zS, eZ, eS]
            refine rdy 13 rfl fun K hK => ?_
            go_simp
            refine (KH.out _ HP0.out).mono ?_
            rintro e w1 ⟨rfl, hb⟩
            have HP1 : Hid (Below W0.heap.size W0 w1) := HP0.out.trans (hb.mono HP0.out.size)
            clear hb
            clear hHeld; refine hK.out _ _ (HP1.out) fun hHeld => ?_
            clear hK K
            try simp only [Act.put, zS, eZ, eS]
            refine tkI 14 rfl hHeld ?_
            try simp only [Act.put, zS, eZ, eS]
            refine tkI 15 rfl hHeld ?_
            try simp only [Act.put, zS, eZ, eS]
            refine tkI 16 rfl hHeld ?_
            try simp only [Act.put, zS, eZ, eS]
            refine tkI 17 rfl hHeld ?_
            try simp only [Act.put, zS, eZ, eS]
            refine tkI 18 rfl hHeld ?_ (hy := by intro w hSw; obtain ⟨y0, y1, y2, y3, y4⟩ := HCL.out _ hSw; go_simp <;> with_reducible rfl)
            try simp only [Act.put, zS, eZ, eS]
            refine tkI 19 rfl hHeld ?_
            try simp only [Act.put, zS, eZ, eS]
            refine tkI 20 rfl hHeld ?_ (hy := by intro w hSw; obtain ⟨y0, y1, y2, y3, y4⟩ := HCL.out _ hSw; go_simp <;> with_reducible rfl)
            try simp only [Act.put, zS, eZ, eS]
            refine tkI 21 rfl hHeld ?_
            try simp only [Act.put, zS, eZ, eS]
            refine tkI 22 rfl hHeld ?_
            try simp only [Act.put, zS, eZ, eS]
            refine tkI 24 rfl hHeld ?_
            try simp only [Act.put, zS, eZ, eS]
            refine tkI 25 rfl hHeld ?_ (hy := by intro w hSw; obtain ⟨y0, y1, y2, y3, y4⟩ := HCL.out _ hSw; go_simp <;> with_reducible rfl)
            try simp only [Act.put, zS, eZ, eS]
            refine tkI 26 rfl hHeld ?_
            try simp only [Act.put, zS, eZ, eS]
            refine rdy 23 rfl fun K hK => ?_
            go_simp
            refine (KP.out _ HP1.out).mono ?_
            rintro e w2 ⟨rfl, hb⟩
            have HP2 : Hid (Below W0.heap.size W0 w2) := HP1.out.trans (hb.mono HP1.out.size)
            clear hb
            clear hHeld; refine hK.out _ _ (HP2.out) fun hHeld => ?_
            clear hK K
            try simp only [Act.put, zS, eZ, eS]
            refine tkI 27 rfl hHeld ?_
            try simp only [Act.put, zS, eZ, eS]
            refine tkI 28 rfl hHeld ?_
            try simp only [Act.put, zS, eZ, eS]
            refine tkI 29 rfl hHeld ?_
            try simp only [Act.put, zS, eZ, eS]
            refine wpAnyH_done (by kernel_rfl) ?_ _
            go_wp2
            go_ret
            exact ⟨by rw [HE2.out]; rfl, HB00.out.trans (HP2.out.mono HB00.out.size)⟩
          · have hy' : (y == (m : Int)) = false := by simp <;> omega
            have HE2 : Hid (r = false) := by rw [Hid, HE.out]; simp [hy]
            clear hy
            go_enter Tryz.func62, Tryz.ntmps62
            go_upto_region 1 with (fail)
            rw [HW0.out]
            go_upto_region 3 with (fail)
            clear z0 z1 z2 z3 z4
            refine wp_region_held_drew (S := fun X : World => Below W0.heap.size W0 X) (by kernel_rfl) (HP0.out) (fun hHeld => ?_)
            refine tkI 0 rfl hHeld ?_
            try simp only [Act.put, zS, eZ, eS]
            refine tkI 1 rfl hHeld ?_ (hy := by intro w hSw; obtain ⟨y0, y1, y2, y3, y4⟩ := HCL.out _ hSw; go_simp <;> with_reducible rfl)
            try simp only [Act.put, zS, eZ, eS]
            refine tkI 2 rfl hHeld ?_
            try simp only [Act.put, zS, eZ, eS]
            refine tkI 3 rfl hHeld ?_
            try simp only [Act.put, zS, eZ, eS]
            refine tkI 4 rfl hHeld ?_
            try simp only [Act.put, zS, eZ, eS]
            refine tkI 5 rfl hHeld ?_
            try simp only [Act.put, zS, eZ, eS]
            refine tkI 6 rfl hHeld ?_ (hy := by intro w hSw; obtain ⟨y0, y1, y2, y3, y4⟩ := HCL.out _ hSw; go_simp <;> with_reducible rfl)
            try simp only [Act.put, zS, eZ, eS]
            refine tkI 7 rfl hHeld ?_
            try simp only [Act.put, zS, eZ, eS]
            refine tkI 8 rfl hHeld ?_
            try simp only [Act.put, zS, eZ, eS]
            refine tkI 9 rfl hHeld ?_
            try simp only [Act.put, zS, eZ, eS]
            refine tkI 10 rfl hHeld ?_
            try simp only [Act.put, zS, eZ, eS]
            refine tkI 11 rfl hHeld ?_
            try simp only [Act.put, zS, eZ, eS]
            refine tkI 12 rfl hHeld ?_ (hy := by intro w hSw; obtain ⟨y0, y1, y2, y3, y4⟩ := HCL.out _ hSw; go_simp <;> with_reducible rfl)
            try simp only [Act.put, zS, eZ, eS]
            refine rdy 13 rfl fun K hK => ?_
            go_simp
            refine (KH.out _ HP0.out).mono ?_
            rintro e w1 ⟨rfl, hb⟩
            have HP1 : Hid (Below W0.heap.size W0 w1) := HP0.out.trans (hb.mono HP0.out.size)
            clear hb
            clear hHeld; refine hK.out _ _ (HP1.out) fun hHeld => ?_
            clear hK K
            try simp only [Act.put, zS, eZ, eS]
            refine tkI 14 rfl hHeld ?_
            try simp only [Act.put, zS, eZ, eS]
            refine tkI 15 rfl hHeld ?_
            try simp only [Act.put, zS, eZ, eS]
            refine tkI 16 rfl hHeld ?_
            try simp only [Act.put, zS, eZ, eS]
            refine tkI 17 rfl hHeld ?_
            try simp only [Act.put, zS, eZ, eS]
            refine tkI 18 rfl hHeld ?_ (hy := by intro w hSw; obtain ⟨y0, y1, y2, y3, y4⟩ := HCL.out _ hSw; go_simp <;> with_reducible rfl)
            try simp only [Act.put, zS, eZ, eS]
            refine tkI 19 rfl hHeld ?_
            try simp only [Act.put, zS, eZ, eS]
            refine tkI 20 rfl hHeld ?_ (hy := by intro w hSw; obtain ⟨y0, y1, y2, y3, y4⟩ := HCL.out _ hSw; go_simp <;> with_reducible rfl)
            try simp only [Act.put, zS, eZ, eS]
            refine tkI 21 rfl hHeld ?_
            try simp only [Act.put, zS, eZ, eS]
            refine tkI 22 rfl hHeld ?_
            try simp only [Act.put, zS, eZ, eS]
            refine tkI 24 rfl hHeld ?_
            try simp only [Act.put, zS, eZ, eS]
            refine tkI 25 rfl hHeld ?_ (hy := by intro w hSw; obtain ⟨y0, y1, y2, y3, y4⟩ := HCL.out _ hSw; go_simp <;> with_reducible rfl)
            try simp only [Act.put, zS, eZ, eS]
            refine tkI 26 rfl hHeld ?_
            try simp only [Act.put, zS, eZ, eS]
            refine rdy 23 rfl fun K hK => ?_
            go_simp
            refine (KP.out _ HP1.out).mono ?_
            rintro e w2 ⟨rfl, hb⟩
            have HP2 : Hid (Below W0.heap.size W0 w2) := HP1.out.trans (hb.mono HP1.out.size)
            clear hb
            clear hHeld; refine hK.out _ _ (HP2.out) fun hHeld => ?_
            clear hK K
            try simp only [Act.put, zS, eZ, eS]
            refine tkI 27 rfl hHeld ?_
            try simp only [Act.put, zS, eZ, eS]
            refine tkI 28 rfl hHeld ?_
            try simp only [Act.put, zS, eZ, eS]
            refine tkI 29 rfl hHeld ?_
            try simp only [Act.put, zS, eZ, eS]
            refine wpAnyH_done (by kernel_rfl) ?_ _
            go_wp2
            go_ret
            exact ⟨by rw [HE2.out]; rfl, HB00.out.trans (HP2.out.mono HB00.out.size)⟩
      · have h16' : ¬ (n : Int) ≤ 16 := by omega
        have HE2 : Hid (r = false) := by rw [Hid, HE.out]; simp [h16]
        go_enter Tryz.func62, Tryz.ntmps62
        go_upto_region 1 with (fail)
        rw [HW0.out]
        go_upto_region 3 with (fail)
        clear z0 z1 z2 z3 z4
        refine wp_region_held_drew (S := fun X : World => Below W0.heap.size W0 X) (by kernel_rfl) (HP0.out) (fun hHeld => ?_)
        refine tkI 0 rfl hHeld ?_
        try simp only [Act.put, zS, eZ, eS]
        refine tkI 1 rfl hHeld ?_ (hy := by intro w hSw; obtain ⟨y0, y1, y2, y3, y4⟩ := HCL.out _ hSw; go_simp <;> with_reducible rfl)
        try simp only [Act.put, zS, eZ, eS]
        refine tkI 2 rfl hHeld ?_
        try simp only [Act.put, zS, eZ, eS]
        refine tkI 3 rfl hHeld ?_
        try simp only [Act.put, zS, eZ, eS]
        refine tkI 4 rfl hHeld ?_
        try simp only [Act.put, zS, eZ, eS]
        refine tkI 5 rfl hHeld ?_
        try simp only [Act.put, zS, eZ, eS]
        refine tkI 6 rfl hHeld ?_ (hy := by intro w hSw; obtain ⟨y0, y1, y2, y3, y4⟩ := HCL.out _ hSw; go_simp <;> with_reducible rfl)
        try simp only [Act.put, zS, eZ, eS]
        refine tkI 7 rfl hHeld ?_
        try simp only [Act.put, zS, eZ, eS]
        refine tkI 8 rfl hHeld ?_
        try simp only [Act.put, zS, eZ, eS]
        refine tkI 9 rfl hHeld ?_
        try simp only [Act.put, zS, eZ, eS]
        refine tkI 10 rfl hHeld ?_
        try simp only [Act.put, zS, eZ, eS]
        refine tkU 11 rfl hHeld ?_
        try simp only [Act.put, zS, eZ, eS]
        refine tkU 12 rfl hHeld ?_
        try simp only [Act.put, zS, eZ, eS]
        refine tkU 13 rfl hHeld ?_
        try simp only [Act.put, zS, eZ, eS]
        refine tkU 14 rfl hHeld ?_
        try simp only [Act.put, zS, eZ, eS]
        refine tkI 15 rfl hHeld ?_
        try simp only [Act.put, zS, eZ, eS]
        refine tkI 16 rfl hHeld ?_
        try simp only [Act.put, zS, eZ, eS]
        refine tkU 17 rfl hHeld ?_
        try simp only [Act.put, zS, eZ, eS]
        refine tkU 18 rfl hHeld ?_
        try simp only [Act.put, zS, eZ, eS]
        refine tkU 19 rfl hHeld ?_
        try simp only [Act.put, zS, eZ, eS]
        refine tkU 20 rfl hHeld ?_
        try simp only [Act.put, zS, eZ, eS]
        refine tkU 21 rfl hHeld ?_
        try simp only [Act.put, zS, eZ, eS]
        refine tkU 22 rfl hHeld ?_
        try simp only [Act.put, zS, eZ, eS]
        refine tkU 23 rfl hHeld ?_
        try simp only [Act.put, zS, eZ, eS]
        refine tkU 24 rfl hHeld ?_
        try simp only [Act.put, zS, eZ, eS]
        refine tkU 25 rfl hHeld ?_
        try simp only [Act.put, zS, eZ, eS]
        refine tkU 26 rfl hHeld ?_
        try simp only [Act.put, zS, eZ, eS]
        refine tkU 27 rfl hHeld ?_
        try simp only [Act.put, zS, eZ, eS]
        refine tkI 28 rfl hHeld ?_
        try simp only [Act.put, zS, eZ, eS]
        refine tkI 29 rfl hHeld ?_
        try simp only [Act.put, zS, eZ, eS]
        refine wpAnyH_done (by kernel_rfl) ?_ _
        go_wp2
        go_ret
        exact ⟨by rw [HE2.out]; rfl, HB00.out.trans (HP0.out.mono HB00.out.size)⟩
    · have h1' : ¬ (1 : Int) ≤ n := by omega
      have HE2 : Hid (r = false) := by rw [Hid, HE.out]; simp [h1]
      go_enter Tryz.func62, Tryz.ntmps62
      go_upto_region 1 with (fail)
      rw [HW0.out]
      go_upto_region 3 with (fail)
      clear z0 z1 z2 z3 z4
      refine wp_region_held_drew (S := fun X : World => Below W0.heap.size W0 X) (by kernel_rfl) (HP0.out) (fun hHeld => ?_)
      refine tkI 0 rfl hHeld ?_
      try simp only [Act.put, zS, eZ, eS]
      refine tkI 1 rfl hHeld ?_ (hy := by intro w hSw; obtain ⟨y0, y1, y2, y3, y4⟩ := HCL.out _ hSw; go_simp <;> with_reducible rfl)
      try simp only [Act.put, zS, eZ, eS]
      refine tkI 2 rfl hHeld ?_
      try simp only [Act.put, zS, eZ, eS]
      refine tkI 3 rfl hHeld ?_
      try simp only [Act.put, zS, eZ, eS]
      refine tkI 4 rfl hHeld ?_
      try simp only [Act.put, zS, eZ, eS]
      refine tkU 5 rfl hHeld ?_
      try simp only [Act.put, zS, eZ, eS]
      refine tkU 6 rfl hHeld ?_
      try simp only [Act.put, zS, eZ, eS]
      refine tkU 7 rfl hHeld ?_
      try simp only [Act.put, zS, eZ, eS]
      refine tkU 8 rfl hHeld ?_
      try simp only [Act.put, zS, eZ, eS]
      refine tkI 9 rfl hHeld ?_
      try simp only [Act.put, zS, eZ, eS]
      refine tkI 10 rfl hHeld ?_
      try simp only [Act.put, zS, eZ, eS]
      refine tkU 11 rfl hHeld ?_
      try simp only [Act.put, zS, eZ, eS]
      refine tkU 12 rfl hHeld ?_
      try simp only [Act.put, zS, eZ, eS]
      refine tkU 13 rfl hHeld ?_
      try simp only [Act.put, zS, eZ, eS]
      refine tkU 14 rfl hHeld ?_
      try simp only [Act.put, zS, eZ, eS]
      refine tkI 15 rfl hHeld ?_
      try simp only [Act.put, zS, eZ, eS]
      refine tkI 16 rfl hHeld ?_
      try simp only [Act.put, zS, eZ, eS]
      refine tkU 17 rfl hHeld ?_
      try simp only [Act.put, zS, eZ, eS]
      refine tkU 18 rfl hHeld ?_
      try simp only [Act.put, zS, eZ, eS]
      refine tkU 19 rfl hHeld ?_
      try simp only [Act.put, zS, eZ, eS]
      refine tkU 20 rfl hHeld ?_
      try simp only [Act.put, zS, eZ, eS]
      refine tkU 21 rfl hHeld ?_
      try simp only [Act.put, zS, eZ, eS]
      refine tkU 22 rfl hHeld ?_
      try simp only [Act.put, zS, eZ, eS]
      refine tkU 23 rfl hHeld ?_
      try simp only [Act.put, zS, eZ, eS]
      refine tkU 24 rfl hHeld ?_
      try simp only [Act.put, zS, eZ, eS]
      refine tkU 25 rfl hHeld ?_
      try simp only [Act.put, zS, eZ, eS]
      refine tkU 26 rfl hHeld ?_
      try simp only [Act.put, zS, eZ, eS]
      refine tkU 27 rfl hHeld ?_
      try simp only [Act.put, zS, eZ, eS]
      refine tkI 28 rfl hHeld ?_
      try simp only [Act.put, zS, eZ, eS]
      refine tkI 29 rfl hHeld ?_
      try simp only [Act.put, zS, eZ, eS]
      refine wpAnyH_done (by kernel_rfl) ?_ _
      go_wp2
      go_ret
      exact ⟨by rw [HE2.out]; rfl, HB00.out.trans (HP0.out.mono HB00.out.size)⟩
end Go.Proofs.YtdnhhmnllhlbbaaGreatDoor
