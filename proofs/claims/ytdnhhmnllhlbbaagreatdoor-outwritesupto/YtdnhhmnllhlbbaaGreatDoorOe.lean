/-
  What is proved here: wrong, nameTwice and Right of package out; outputs in memory.
-/
import Derived.Test.YtdnhhmnllhlbbaaGreatDoorOd
import Derived.Maps.OwnSet
import Derived.Carry
import Derived.StringKeys
namespace Go.Proofs.YtdnhhmnllhlbbaaGreatDoor
open Go.RowKit Go.Shelf
set_option linter.unusedVariables false
set_option linter.unusedSimpArgs false

theorem st_at {W : World} {a : Option Addr} {n c : Nat} {l : List Tm} (h : St 0 W (.slice a n c) l) {i : Nat} {t : Tm} (ht : l[i]? = some t) : ∃ b off sv, a = some ⟨b, off, none⟩ ∧ b < W.heap.size ∧ Si 0 W sv t.s ∧ W.cell? ⟨b, off + i * 4, none⟩ = some (.int .i64 t.v) ∧ W.cell? ⟨b, off + i * 4 + 1, none⟩ = some (.bool t.set) ∧ W.cell? ⟨b, off + i * 4 + 2, none⟩ = some (.int .i64 t.n) ∧ W.cell? ⟨b, off + i * 4 + 3, none⟩ = some sv := by
  obtain ⟨a', c', e, h⟩ := h
  injection e with e1 e2 e3
  have hlt := (List.getElem?_eq_some_iff.1 ht).1
  obtain ⟨b, off, svl, f1, _, f2, f3, f4⟩ := h (Nat.lt_of_le_of_lt (Nat.zero_le _) hlt)
  obtain ⟨sv, hsv⟩ : ∃ sv, svl[i]? = some sv := ⟨_, List.getElem?_eq_getElem (by rw [f3]; exact hlt)⟩
  obtain ⟨g1, g2⟩ := f4 i t sv ht hsv
  exact ⟨b, off, sv, e1.trans f1, f2, g1, g2 0 _ rfl, g2 1 _ rfl, g2 2 _ rfl, g2 3 _ rfl⟩
/-- The terms that can not be. -/
def wtA (l : List Tm) (k : Int) (i : Nat) : Bool := match l[i]? with
  | some t => wtB t k
  | none => false
theorem st_el {W : World} {a : Option Addr} {n c g : Nat} {l : List Tm} {k : Int} (h : St 0 W (.slice a n c) l) (hlen : l.length = n) (hz : ∀ t ∈ l, t.s.length ≤ 17592186043904) (hg : W.cell? ⟨g, 0, none⟩ = some (.int .i64 k)) (hgl : g < W.heap.size) : ElT W a n (some ⟨g, 0, none⟩) (wtA l k) := by
  intro i hi
  obtain ⟨t, ht⟩ : ∃ g, l[i]? = some g := ⟨_, List.getElem?_eq_getElem (by rw [hlen]; exact hi)⟩
  obtain ⟨b, off, sv, e, hb, hs, d0, d1, d2, d3⟩ := st_at h ht
  refine ⟨b, off, _, _, _, _, e, hb, d0, d1, d2, d3, fun X hX => ?_⟩
  unfold wtA
  simp only [ht]
  exact wt85 t k (hs.below hX) (hz t (List.mem_of_getElem? ht)) ((hX.cell (p := ⟨g, 0, none⟩) hgl).trans hg) (Nat.lt_of_lt_of_le hgl hX.size)
/-- Can an output not be? -/
def wrB (o : Ou) : Bool := !wordB o.nm || (!kindB o.kind || (!shB o || anyB (wtA o.l o.kind) o.l.length))
/-- What an output's parts are held to. -/
structure OuZ (o : Ou) : Prop where
  nm : o.nm.length ≤ 140737488355328
  l : o.l.length ≤ 2000000
  t : ∀ t ∈ o.l, t.s.length ≤ 17592186043904

set_option maxRecDepth 100000 in
set_option maxHeartbeats 4000000 in
theorem wrong37 {W : World} {dv lv : Value} (o : Ou) (hd : Rgs W dv o.dims) (hl : St 0 W lv o.l) (hz : OuZ o) :
    Calls Tryz.prog 37 #[.agg #[.string (bs o.nm), dv, lv, .int .i64 o.kind, .bool o.one]] W fun e w' => e = .returned (.bool (wrB o)) ∧ Below W.heap.size W w' := by
  have hR : wrB o = (!wordB o.nm || (!kindB o.kind || (!shB o || anyB (wtA o.l o.kind) o.l.length))) := rfl
  obtain ⟨W0, hW0⟩ : ∃ Q, W.alloc (Obj.cells #[.string (bs o.nm), dv, lv, .int .i64 o.kind, .bool o.one] 53) = Q := ⟨_, rfl⟩
  have hb0 : Below W.heap.size W W0 := by rw [← hW0]; exact (Below.refl _ W).alloc (Nat.le_refl _) _
  have HBX : Hid (Blk W0 W.heap.size #[.string (bs o.nm), dv, lv, .int .i64 o.kind, .bool o.one] 53) := by rw [← hW0]; exact Blk.new _ _ _
  have HCL : Hid (∀ X, Below W0.heap.size W0 X → X.cell? ⟨W.heap.size, 0, none⟩ = some (.string (bs o.nm)) ∧ X.cell? ⟨W.heap.size, 1, none⟩ = some dv ∧ X.cell? ⟨W.heap.size, 2, none⟩ = some lv ∧ X.cell? ⟨W.heap.size, 3, none⟩ = some (.int .i64 o.kind) ∧ X.cell? ⟨W.heap.size, 4, none⟩ = some (.bool o.one)) := fun X hX => by
    have := HBX.out.below hX
    exact ⟨this.cell 0, this.cell 1, this.cell 2, this.cell 3, this.cell 4⟩
  have KW : Hid (∀ X, Calls Tryz.prog 60 #[.string (bs o.nm)] X fun e w' => e = .returned (.bool (wordB o.nm)) ∧ w' = X) := fun X => word60 _ hz.nm X
  have KK : Hid (∀ X, Calls Tryz.prog 61 #[.int .i64 o.kind] X fun e w' => e = .returned (.bool (kindB o.kind)) ∧ w' = X) := fun X => kind61 _ X
  have KS : Hid (∀ X, Below W0.heap.size W0 X → Calls Tryz.prog 62 #[.agg #[.string (bs o.nm), dv, lv, .int .i64 o.kind, .bool o.one]] X fun e w' => e = .returned (.bool (shB o)) ∧ Below X.heap.size X w') := fun X hX => shape62 o (hd.below (hb0.trans (hX.mono hb0.size))) (hl.below (hb0.trans (hX.mono hb0.size))) hz.l
  obtain ⟨la, lc, e9, _⟩ := id hl
  have KT : Hid (∀ X g, Below W0.heap.size W0 X → X.cell? ⟨g, 0, none⟩ = some (.int .i64 o.kind) → g < X.heap.size → Calls Tryz.prog 63 #[lv, .func (.func 85) #[] #[.pointer (some ⟨g, 0, none⟩)]] X fun e w' => e = .returned (.bool (anyB (wtA o.l o.kind) o.l.length)) ∧ Below X.heap.size X w') := fun X g hX hg hgl => by
    have h2 := hl.below (hb0.trans (hX.mono hb0.size))
    subst e9
    exact hasT (st_el h2 rfl hz.t hg hgl) (by have := hz.l; omega)
  have HW0 : Hid _ := hW0
  have HB00 : Hid (Below W.heap.size W W0) := hb0
  have HP0 : Hid (Below W0.heap.size W0 W0.drew) := (Below.refl _ _).drew
  obtain ⟨ow, how⟩ : ∃ q, wordB o.nm = q := ⟨_, rfl⟩
  obtain ⟨ok, hok⟩ : ∃ q, kindB o.kind = q := ⟨_, rfl⟩
  obtain ⟨os, hos⟩ : ∃ q, shB o = q := ⟨_, rfl⟩
  obtain ⟨oa, hoa⟩ : ∃ q, anyB (wtA o.l o.kind) o.l.length = q := ⟨_, rfl⟩
  obtain ⟨r, hr⟩ : ∃ q, wrB o = q := ⟨_, rfl⟩
  rw [hr, how, hok, hos, hoa] at hR
  rw [how] at KW
  rw [hok] at KK
  rw [hos] at KS
  rw [hoa] at KT
  rw [hr]
  have HR : Hid (r = (!ow || (!ok || (!os || oa)))) := hR
  clear hW0 hb0 hd hl hz how hok hos hoa hr hR e9 HBX
  obtain ⟨nm, dims, l, kind, one⟩ := o
  simp only at KW KK KS KT HW0 HCL ⊢
  cases ow with
  | false =>
    have HE : Hid (r = true) := by rw [Hid, HR.out]; simp
    clear HR
    go_enter Tryz.func37, Tryz.ntmps37
    go_upto_region 1 with (fail)
    rw [HW0.out]
    refine wp_region_held_drew (S := fun X : World => Below W0.heap.size W0 X) (by kernel_rfl) (HP0.out) (fun hHeld => ?_)
    refine tkI 0 rfl hHeld ?_
    try simp only [Act.put, zS, eZ, eS]
    refine tkI 1 rfl hHeld ?_ (hy := by intro w hSw; obtain ⟨y0, y1, y2, y3, y4⟩ := HCL.out _ hSw; go_simp <;> with_reducible rfl)
    try simp only [Act.put, zS, eZ, eS]
    refine rdy 2 rfl fun K hK => ?_
    go_simp
    refine (KW.out _).mono ?_
    rintro e w1 ⟨rfl, hw1⟩
    have HP1 : Hid (Below W0.heap.size W0 w1) := by rw [hw1]; exact HP0.out
    clear hw1
    clear hHeld; refine hK.out _ _ (HP1.out) fun hHeld => ?_
    clear hK K
    try simp only [Act.put, zS, eZ, eS]
    refine tkI 3 rfl hHeld ?_
    try simp only [Act.put, zS, eZ, eS]
    refine tkI 4 rfl hHeld ?_
    try simp only [Act.put, zS, eZ, eS]
    refine tkU 5 rfl hHeld ?_
    try simp only [Act.put, zS, eZ, eS]
    refine tkU 6 rfl hHeld ?_
    try simp only [Act.put, zS, eZ, eS]
    refine tkU 7 rfl hHeld ?_
    try simp only [Act.put, zS, eZ, eS]
    refine tkU 8 rfl hHeld ?_
    try simp only [Act.put, zS, eZ, eS]
    refine tkI 9 rfl hHeld ?_
    try simp only [Act.put, zS, eZ, eS]
    refine tkI 10 rfl hHeld ?_
    try simp only [Act.put, zS, eZ, eS]
    refine tkU 11 rfl hHeld ?_
    try simp only [Act.put, zS, eZ, eS]
    refine tkU 12 rfl hHeld ?_
    try simp only [Act.put, zS, eZ, eS]
    refine tkU 13 rfl hHeld ?_
    try simp only [Act.put, zS, eZ, eS]
    refine tkI 14 rfl hHeld ?_
    try simp only [Act.put, zS, eZ, eS]
    refine tkI 15 rfl hHeld ?_
    try simp only [Act.put, zS, eZ, eS]
    refine tkU 16 rfl hHeld ?_
    try simp only [Act.put, zS, eZ, eS]
    refine tkU 17 rfl hHeld ?_
    try simp only [Act.put, zS, eZ, eS]
    refine tkU 18 rfl hHeld ?_
    try simp only [Act.put, zS, eZ, eS]
    refine tkU 19 rfl hHeld ?_
    try simp only [Act.put, zS, eZ, eS]
    refine tkU 20 rfl hHeld ?_
    try simp only [Act.put, zS, eZ, eS]
    refine tkU 21 rfl hHeld ?_
    try simp only [Act.put, zS, eZ, eS]
    refine tkI 22 rfl hHeld ?_
    try simp only [Act.put, zS, eZ, eS]
    refine tkI 23 rfl hHeld ?_
    try simp only [Act.put, zS, eZ, eS]
    refine wpAnyH_done (by kernel_rfl) ?_ _
    go_wp2
    go_ret
    exact ⟨by rw [HE.out]; rfl, HB00.out.trans (HP1.out.mono HB00.out.size)⟩
  | true =>
    cases ok with
    | false =>
      have HE : Hid (r = true) := by rw [Hid, HR.out]; simp
      clear HR
      go_enter Tryz.func37, Tryz.ntmps37
      go_upto_region 1 with (fail)
      rw [HW0.out]
      refine wp_region_held_drew (S := fun X : World => Below W0.heap.size W0 X) (by kernel_rfl) (HP0.out) (fun hHeld => ?_)
      refine tkI 0 rfl hHeld ?_
      try simp only [Act.put, zS, eZ, eS]
      refine tkI 1 rfl hHeld ?_ (hy := by intro w hSw; obtain ⟨y0, y1, y2, y3, y4⟩ := HCL.out _ hSw; go_simp <;> with_reducible rfl)
      try simp only [Act.put, zS, eZ, eS]
      refine rdy 2 rfl fun K hK => ?_
      go_simp
      refine (KW.out _).mono ?_
      rintro e w1 ⟨rfl, hw1⟩
      have HP1 : Hid (Below W0.heap.size W0 w1) := by rw [hw1]; exact HP0.out
      clear hw1
      clear hHeld; refine hK.out _ _ (HP1.out) fun hHeld => ?_
      clear hK K
      try simp only [Act.put, zS, eZ, eS]
      refine tkI 3 rfl hHeld ?_
      try simp only [Act.put, zS, eZ, eS]
      refine tkI 4 rfl hHeld ?_
      try simp only [Act.put, zS, eZ, eS]
      refine tkI 5 rfl hHeld ?_
      try simp only [Act.put, zS, eZ, eS]
      refine tkI 6 rfl hHeld ?_ (hy := by intro w hSw; obtain ⟨y0, y1, y2, y3, y4⟩ := HCL.out _ hSw; go_simp <;> with_reducible rfl)
      try simp only [Act.put, zS, eZ, eS]
      refine rdy 7 rfl fun K hK => ?_
      go_simp
      refine (KK.out _).mono ?_
      rintro e w2 ⟨rfl, hw2⟩
      have HP2 : Hid (Below W0.heap.size W0 w2) := by rw [hw2]; exact HP1.out
      clear hw2
      clear hHeld; refine hK.out _ _ (HP2.out) fun hHeld => ?_
      clear hK K
      try simp only [Act.put, zS, eZ, eS]
      refine tkI 8 rfl hHeld ?_
      try simp only [Act.put, zS, eZ, eS]
      refine tkI 9 rfl hHeld ?_
      try simp only [Act.put, zS, eZ, eS]
      refine tkI 10 rfl hHeld ?_
      try simp only [Act.put, zS, eZ, eS]
      refine tkU 11 rfl hHeld ?_
      try simp only [Act.put, zS, eZ, eS]
      refine tkU 12 rfl hHeld ?_
      try simp only [Act.put, zS, eZ, eS]
      refine tkU 13 rfl hHeld ?_
      try simp only [Act.put, zS, eZ, eS]
      refine tkI 14 rfl hHeld ?_
      try simp only [Act.put, zS, eZ, eS]
      refine tkI 15 rfl hHeld ?_
      try simp only [Act.put, zS, eZ, eS]
      refine tkU 16 rfl hHeld ?_
      try simp only [Act.put, zS, eZ, eS]
      refine tkU 17 rfl hHeld ?_
      try simp only [Act.put, zS, eZ, eS]
      refine tkU 18 rfl hHeld ?_
      try simp only [Act.put, zS, eZ, eS]
      refine tkU 19 rfl hHeld ?_
      try simp only [Act.put, zS, eZ, eS]
      refine tkU 20 rfl hHeld ?_
      try simp only [Act.put, zS, eZ, eS]
      refine tkU 21 rfl hHeld ?_
      try simp only [Act.put, zS, eZ, eS]
      refine tkI 22 rfl hHeld ?_
      try simp only [Act.put, zS, eZ, eS]
      refine tkI 23 rfl hHeld ?_
      try simp only [Act.put, zS, eZ, eS]
      refine wpAnyH_done (by kernel_rfl) ?_ _
      go_wp2
      go_ret
      exact ⟨by rw [HE.out]; rfl, HB00.out.trans (HP2.out.mono HB00.out.size)⟩
    | true =>
      cases os with
      | false =>
        have HE : Hid (r = true) := by rw [Hid, HR.out]; simp
        clear HR
        go_enter Tryz.func37, Tryz.ntmps37
        go_upto_region 1 with (fail)
        rw [HW0.out]
        refine wp_region_held_drew (S := fun X : World => Below W0.heap.size W0 X) (by kernel_rfl) (HP0.out) (fun hHeld => ?_)
        refine tkI 0 rfl hHeld ?_
        try simp only [Act.put, zS, eZ, eS]
        refine tkI 1 rfl hHeld ?_ (hy := by intro w hSw; obtain ⟨y0, y1, y2, y3, y4⟩ := HCL.out _ hSw; go_simp <;> with_reducible rfl)
        try simp only [Act.put, zS, eZ, eS]
        refine rdy 2 rfl fun K hK => ?_
        go_simp
        refine (KW.out _).mono ?_
        rintro e w1 ⟨rfl, hw1⟩
        have HP1 : Hid (Below W0.heap.size W0 w1) := by rw [hw1]; exact HP0.out
        clear hw1
        clear hHeld; refine hK.out _ _ (HP1.out) fun hHeld => ?_
        clear hK K
        try simp only [Act.put, zS, eZ, eS]
        refine tkI 3 rfl hHeld ?_
        try simp only [Act.put, zS, eZ, eS]
        refine tkI 4 rfl hHeld ?_
        try simp only [Act.put, zS, eZ, eS]
        refine tkI 5 rfl hHeld ?_
        try simp only [Act.put, zS, eZ, eS]
        refine tkI 6 rfl hHeld ?_ (hy := by intro w hSw; obtain ⟨y0, y1, y2, y3, y4⟩ := HCL.out _ hSw; go_simp <;> with_reducible rfl)
        try simp only [Act.put, zS, eZ, eS]
        refine rdy 7 rfl fun K hK => ?_
        go_simp
        refine (KK.out _).mono ?_
        rintro e w2 ⟨rfl, hw2⟩
        have HP2 : Hid (Below W0.heap.size W0 w2) := by rw [hw2]; exact HP1.out
        clear hw2
        clear hHeld; refine hK.out _ _ (HP2.out) fun hHeld => ?_
        clear hK K
        try simp only [Act.put, zS, eZ, eS]
        refine tkI 8 rfl hHeld ?_
        try simp only [Act.put, zS, eZ, eS]
        refine tkI 9 rfl hHeld ?_
        try simp only [Act.put, zS, eZ, eS]
        refine tkI 10 rfl hHeld ?_
        try simp only [Act.put, zS, eZ, eS]
        refine tkI 11 rfl hHeld ?_ (hy := by intro w hSw; obtain ⟨y0, y1, y2, y3, y4⟩ := HCL.out _ hSw; go_simp <;> with_reducible rfl)
        try simp only [Act.put, zS, eZ, eS]
        refine rdy 12 rfl fun K hK => ?_
        go_simp
        refine (KS.out _ HP2.out).mono ?_
        rintro e w3 ⟨rfl, hb⟩
        have HP3 : Hid (Below W0.heap.size W0 w3) := HP2.out.trans (hb.mono HP2.out.size)
        clear hb
        clear hHeld; refine hK.out _ _ (HP3.out) fun hHeld => ?_
        clear hK K
        try simp only [Act.put, zS, eZ, eS]
        refine tkI 13 rfl hHeld ?_
        try simp only [Act.put, zS, eZ, eS]
        refine tkI 14 rfl hHeld ?_
        try simp only [Act.put, zS, eZ, eS]
        refine tkI 15 rfl hHeld ?_
        try simp only [Act.put, zS, eZ, eS]
        refine tkU 16 rfl hHeld ?_
        try simp only [Act.put, zS, eZ, eS]
        refine tkU 17 rfl hHeld ?_
        try simp only [Act.put, zS, eZ, eS]
        refine tkU 18 rfl hHeld ?_
        try simp only [Act.put, zS, eZ, eS]
        refine tkU 19 rfl hHeld ?_
        try simp only [Act.put, zS, eZ, eS]
        refine tkU 20 rfl hHeld ?_
        try simp only [Act.put, zS, eZ, eS]
        refine tkU 21 rfl hHeld ?_
        try simp only [Act.put, zS, eZ, eS]
        refine tkI 22 rfl hHeld ?_
        try simp only [Act.put, zS, eZ, eS]
        refine tkI 23 rfl hHeld ?_
        try simp only [Act.put, zS, eZ, eS]
        refine wpAnyH_done (by kernel_rfl) ?_ _
        go_wp2
        go_ret
        exact ⟨by rw [HE.out]; rfl, HB00.out.trans (HP3.out.mono HB00.out.size)⟩
      | true =>
        have HE : Hid (r = oa) := by rw [Hid, HR.out]; simp
        clear HR
        go_enter Tryz.func37, Tryz.ntmps37
        go_upto_region 1 with (fail)
        rw [HW0.out]
        refine wp_region_held_drew (S := fun X : World => Below W0.heap.size W0 X) (by kernel_rfl) (HP0.out) (fun hHeld => ?_)
        refine tkI 0 rfl hHeld ?_
        try simp only [Act.put, zS, eZ, eS]
        refine tkI 1 rfl hHeld ?_ (hy := by intro w hSw; obtain ⟨y0, y1, y2, y3, y4⟩ := HCL.out _ hSw; go_simp <;> with_reducible rfl)
        try simp only [Act.put, zS, eZ, eS]
        refine rdy 2 rfl fun K hK => ?_
        go_simp
        refine (KW.out _).mono ?_
        rintro e w1 ⟨rfl, hw1⟩
        have HP1 : Hid (Below W0.heap.size W0 w1) := by rw [hw1]; exact HP0.out
        clear hw1
        clear hHeld; refine hK.out _ _ (HP1.out) fun hHeld => ?_
        clear hK K
        try simp only [Act.put, zS, eZ, eS]
        refine tkI 3 rfl hHeld ?_
        try simp only [Act.put, zS, eZ, eS]
        refine tkI 4 rfl hHeld ?_
        try simp only [Act.put, zS, eZ, eS]
        refine tkI 5 rfl hHeld ?_
        try simp only [Act.put, zS, eZ, eS]
        refine tkI 6 rfl hHeld ?_ (hy := by intro w hSw; obtain ⟨y0, y1, y2, y3, y4⟩ := HCL.out _ hSw; go_simp <;> with_reducible rfl)
        try simp only [Act.put, zS, eZ, eS]
        refine rdy 7 rfl fun K hK => ?_
        go_simp
        refine (KK.out _).mono ?_
        rintro e w2 ⟨rfl, hw2⟩
        have HP2 : Hid (Below W0.heap.size W0 w2) := by rw [hw2]; exact HP1.out
        clear hw2
        clear hHeld; refine hK.out _ _ (HP2.out) fun hHeld => ?_
        clear hK K
        try simp only [Act.put, zS, eZ, eS]
        refine tkI 8 rfl hHeld ?_
        try simp only [Act.put, zS, eZ, eS]
        refine tkI 9 rfl hHeld ?_
        try simp only [Act.put, zS, eZ, eS]
        refine tkI 10 rfl hHeld ?_
        try simp only [Act.put, zS, eZ, eS]
        refine tkI 11 rfl hHeld ?_ (hy := by intro w hSw; obtain ⟨y0, y1, y2, y3, y4⟩ := HCL.out _ hSw; go_simp <;> with_reducible rfl)
        try simp only [Act.put, zS, eZ, eS]
        refine rdy 12 rfl fun K hK => ?_
        go_simp
        refine (KS.out _ HP2.out).mono ?_
        rintro e w3 ⟨rfl, hb⟩
        have HP3 : Hid (Below W0.heap.size W0 w3) := HP2.out.trans (hb.mono HP2.out.size)
        clear hb
        clear hHeld; refine hK.out _ _ (HP3.out) fun hHeld => ?_
        clear hK K
        try simp only [Act.put, zS, eZ, eS]
        refine tkI 13 rfl hHeld ?_
        try simp only [Act.put, zS, eZ, eS]
        refine tkI 14 rfl hHeld ?_
        try simp only [Act.put, zS, eZ, eS]
        refine tkI 15 rfl hHeld ?_
        try simp only [Act.put, zS, eZ, eS]
        refine tkI 16 rfl hHeld ?_
        try simp only [Act.put, zS, eZ, eS]
        refine tkI 17 rfl hHeld ?_ (hy := by intro w hSw; obtain ⟨y0, y1, y2, y3, y4⟩ := HCL.out _ hSw; go_simp <;> with_reducible rfl)
        try simp only [Act.put, zS, eZ, eS]
        refine tkI 18 rfl hHeld ?_
        try simp only [Act.put, zS, eZ, eS]
        refine tkI 19 rfl hHeld ?_ (hy := by intro w hSw; obtain ⟨y0, y1, y2, y3, y4⟩ := HCL.out _ hSw; go_simp <;> with_reducible rfl)
        try simp only [Act.put, zS, eZ, eS]
        refine rdy 20 rfl fun K hK => ?_
        go_simp
        refine (wt64 kind _).mono ?_
        rintro e w4 ⟨g, rfl, hg, hgl, hb⟩
        have HP4 : Hid (Below W0.heap.size W0 w4) := HP3.out.trans (hb.mono HP3.out.size)
        have HG : Hid (w4.cell? ⟨g, 0, none⟩ = some (.int .i64 kind) ∧ g < w4.heap.size) := ⟨hg, hgl⟩
        clear hb hg hgl
        clear hHeld; refine hK.out _ _ (HP4.out) fun hHeld => ?_
        clear hK K
        try simp only [Act.put, zS, eZ, eS]
        refine rdy 21 rfl fun K hK => ?_
        go_simp
        refine (KT.out _ g HP4.out HG.out.1 HG.out.2).mono ?_
        rintro e w5 ⟨rfl, hb⟩
        have HP5 : Hid (Below W0.heap.size W0 w5) := HP4.out.trans (hb.mono HP4.out.size)
        clear hb
        clear hHeld; refine hK.out _ _ (HP5.out) fun hHeld => ?_
        clear hK K
        try simp only [Act.put, zS, eZ, eS]
        refine tkI 22 rfl hHeld ?_
        try simp only [Act.put, zS, eZ, eS]
        refine tkI 23 rfl hHeld ?_
        try simp only [Act.put, zS, eZ, eS]
        refine wpAnyH_done (by kernel_rfl) ?_ _
        go_wp2
        go_ret
        exact ⟨by rw [HE.out]; rfl, HB00.out.trans (HP5.out.mono HB00.out.size)⟩

/-- A slice of outputs in memory. -/
def Sou (W : World) (s : Value) (l : List Ou) : Prop := ∃ a c, s = .slice a l.length c ∧ (0 < l.length → ∃ b off, a = some ⟨b, off, none⟩ ∧ b < W.heap.size ∧ ∀ i o, l[i]? = some o → ∃ dv lv, Rgs W dv o.dims ∧ St 0 W lv o.l ∧ W.cell? ⟨b, off + i * 5, none⟩ = some (.string (bs o.nm)) ∧ W.cell? ⟨b, off + i * 5 + 1, none⟩ = some dv ∧ W.cell? ⟨b, off + i * 5 + 2, none⟩ = some lv ∧ W.cell? ⟨b, off + i * 5 + 3, none⟩ = some (.int .i64 o.kind) ∧ W.cell? ⟨b, off + i * 5 + 4, none⟩ = some (.bool o.one))
theorem Sou.below {W W' : World} {s : Value} {l : List Ou} (h : Sou W s l) (hb : Below W.heap.size W W') : Sou W' s l := by
  obtain ⟨a, c, e, h⟩ := h
  refine ⟨a, c, e, fun h0 => ?_⟩
  obtain ⟨b, off, e1, e2, e3⟩ := h h0
  refine ⟨b, off, e1, Nat.lt_of_lt_of_le e2 hb.size, fun i o ho => ?_⟩
  obtain ⟨dv, lv, f1, f2, d0, d1, d2, d3, d4⟩ := e3 i o ho
  exact ⟨dv, lv, f1.below hb, f2.below hb, (hb.cell (p := ⟨b, off + i * 5, none⟩) e2).trans d0, (hb.cell (p := ⟨b, off + i * 5 + 1, none⟩) e2).trans d1, (hb.cell (p := ⟨b, off + i * 5 + 2, none⟩) e2).trans d2, (hb.cell (p := ⟨b, off + i * 5 + 3, none⟩) e2).trans d3, (hb.cell (p := ⟨b, off + i * 5 + 4, none⟩) e2).trans d4⟩
theorem Sou.at {W : World} {a : Option Addr} {n c : Nat} {l : List Ou} (h : Sou W (.slice a n c) l) {i : Nat} {o : Ou} (ho : l[i]? = some o) : ∃ b off dv lv, a = some ⟨b, off, none⟩ ∧ b < W.heap.size ∧ Rgs W dv o.dims ∧ St 0 W lv o.l ∧ W.cell? ⟨b, off + i * 5, none⟩ = some (.string (bs o.nm)) ∧ W.cell? ⟨b, off + i * 5 + 1, none⟩ = some dv ∧ W.cell? ⟨b, off + i * 5 + 2, none⟩ = some lv ∧ W.cell? ⟨b, off + i * 5 + 3, none⟩ = some (.int .i64 o.kind) ∧ W.cell? ⟨b, off + i * 5 + 4, none⟩ = some (.bool o.one) := by
  obtain ⟨a', c', e, h⟩ := h
  injection e with e1 e2 e3
  obtain ⟨b, off, f1, f2, f3⟩ := h (Nat.lt_of_le_of_lt (Nat.zero_le _) (List.getElem?_eq_some_iff.1 ho).1)
  obtain ⟨dv, lv, g⟩ := f3 i o ho
  exact ⟨b, off, dv, lv, e1.trans f1, f2, g⟩
def wrA (l : List Ou) (i : Nat) : Bool := match l[i]? with
  | some o => wrB o
  | none => false
theorem ou_el {W : World} {a : Option Addr} {n c : Nat} {l : List Ou} (h : Sou W (.slice a n c) l) (hlen : l.length = n) (hz : ∀ o ∈ l, OuZ o) : ElO W a n (wrA l) := by
  intro i hi
  obtain ⟨o, ho⟩ : ∃ g, l[i]? = some g := ⟨_, List.getElem?_eq_getElem (by rw [hlen]; exact hi)⟩
  obtain ⟨b, off, dv, lv, e, hb, hd, hl, d0, d1, d2, d3, d4⟩ := h.at ho
  refine ⟨b, off, _, _, _, _, _, e, hb, d0, d1, d2, d3, d4, fun X hX => ?_⟩
  unfold wrA
  simp only [ho]
  exact wrong37 o (hd.below hX) (hl.below hX) (hz o (List.mem_of_getElem? ho))
theorem key9 : Go.Maps.Keyed Tryz.prog 9 := Go.Maps.string_keyed Tryz.underlying9
/-- The names so far, as a set. -/
def nmD (l : List Ou) : DataW Unit := l.foldl (fun D o => D.put (.string o.nm) (.agg [])) (.map [])
theorem nmD_snoc (l : List Ou) (o : Ou) : nmD (l ++ [o]) = (nmD l).put (.string o.nm) (.agg []) := by simp [nmD]
/-- Does a name stand twice? -/
def twB (l : List Ou) : Bool := decide (Go.Maps.size (nmD l) < (l.length : Int))

set_option maxRecDepth 100000 in
set_option maxHeartbeats 4000000 in
theorem twice38 {W : World} {a : Option Addr} {n c : Nat} {l : List Ou} (h : Sou W (.slice a n c) l) (hlen : l.length = n) (hn : n ≤ 1000) (hz : ∀ o ∈ l, OuZ o) :
    Calls Tryz.prog 38 #[.slice a n c] W fun e w' => e = .returned (.bool (twB l)) ∧ Below W.heap.size W w' := by
  have HA : Hid (Sou W (.slice a n c) l) := h
  have HN : Hid (l.length = n) := hlen
  have HZ : Hid (∀ o ∈ l, OuZ o) := hz
  obtain ⟨r, hr⟩ : ∃ r, twB l = r := ⟨_, rfl⟩
  have HR : Hid (twB l = r) := hr
  rw [hr]
  clear h hlen hz hr
  have hmk : ∀ w, (Instr.makeMap 107 none).run Tryz.prog w = .ok (.map (some w.heap.size)) (w.alloc (.map #[] 0)) := fun w => run_makeMap 107 w
  obtain ⟨M, hM⟩ : ∃ M, W.heap.size = M := ⟨_, rfl⟩
  have HM : Hid (W.heap.size = M) := hM
  have H0 : Hid ((W.alloc (.map #[] 0)).ownsMap Tryz.prog 9 (unitElem (H := Unit)) M 0 (nmD (l.take 0))) := by rw [← hM]; exact World.ownsMap_made _ _ _ _
  have HB0 : Hid (Below W.heap.size W (W.alloc (.map #[] 0))) := (Below.refl _ W).alloc (Nat.le_refl _) _
  clear hM
  go_enter Tryz.func38, Tryz.ntmps38
  go_wp2
  rw [HM.out]
  generalize W.alloc (.map #[] 0) = W1 at *
  go_loopw [9] (fun i wr => ∃ k : Nat, k ≤ n ∧ i = .int .i64 (k : Int) ∧ Hid (wr.ownsMap Tryz.prog 9 (unitElem (H := Unit)) M k (nmD (l.take k))) ∧ Hid (Below W.heap.size W wr)) (fun i _ => n - (intOf i).toNat)
  case atStart => exact ⟨0, Nat.zero_le _, rfl, H0, HB0⟩
  case round =>
    obtain ⟨k, hk, rfl, HQ, HB⟩ := hrel
    by_cases hlt : k < n
    · have hlt' : (k : Int) < n := by omega
      obtain ⟨o, ho⟩ : ∃ g, l[k]? = some g := ⟨_, List.getElem?_eq_getElem (by rw [HN.out]; exact hlt)⟩
      obtain ⟨b, off, dv, lv, rfl, hb, ⟨da, dc, rfl, _⟩, ⟨la, lc, rfl, _⟩, d0, d1, d2, d3, d4⟩ := HA.out.at ho
      obtain ⟨dn, hdn⟩ : ∃ q, o.dims.length = q := ⟨_, rfl⟩
      obtain ⟨ln, hln⟩ : ∃ q, o.l.length = q := ⟨_, rfl⟩
      rw [hdn] at d1
      rw [hln] at d2
      clear hdn hln
      have y0 := (HB.out.cell (p := ⟨b, off + k * 5, none⟩) hb).trans d0
      have y1 := (HB.out.cell (p := ⟨b, off + k * 5 + 1, none⟩) hb).trans d1
      have y2 := (HB.out.cell (p := ⟨b, off + k * 5 + 2, none⟩) hb).trans d2
      have y3 := (HB.out.cell (p := ⟨b, off + k * 5 + 3, none⟩) hb).trans d3
      have y4 := (HB.out.cell (p := ⟨b, off + k * 5 + 4, none⟩) hb).trans d4
      have HTK : Hid (l.take (k + 1) = l.take k ++ [o]) := by rw [Hid, List.take_add_one, ho]; rfl
      have hnz := (HZ.out o (List.mem_of_getElem? ho)).nm
      have hkey : keyOf Tryz.prog 9 (.string (bs o.nm)) = some (.string o.nm) := by
        have := Go.WideMaps.keyOf_string_mk (P := Tryz.prog) Tryz.underlying9 (s := bs o.nm) (by rw [bs_size]; unfold maxLen; omega)
        rwa [bs_data] at this
      have hw2 : IntKind.i64.wrap ((k : Int) + 1) = (k : Int) + 1 := by rw [IntKind.wrap_i64]; omega
      have hbx := (Below.refl wr.heap.size wr).alloc (Nat.le_refl _) (Obj.cells #[.string (bs o.nm), .slice da dn dc, .slice la ln lc, .int .i64 o.kind, .bool o.one] 53)
      have HOA : Hid _ := HQ.out.alloc (Obj.cells #[.string (bs o.nm), .slice da dn dc, .slice la ln lc, .int .i64 o.kind, .bool o.one] 53)
      have HBA := HB.out.trans (hbx.mono HB.out.size)
      have hkm : k < maxLen := by unfold maxLen; omega
      clear d0 d1 d2 d3 d4 ho hbx
      go_upto_region 5 with (fail)
      go_wp2_with (at_mapUpdate; refine wpList_mapUpdate_in _ rfl _ _ _ 107 rfl 9 108 key9 Tryz.underlying107 (unitElem (H := Unit)) M k (nmD (l.take k)) rfl HOA.out hkm _ _ (.string o.nm) rfl rfl hkey (.agg []) [] unitElem_mk ?_; intro w1 hown1 hturn1; have HO1 : Hid _ := hown1; have HB1 : Hid (Below W.heap.size W w1) := HBA.trans ((Below.refl _ _).grown hturn1.grown HBA.size (fun q e => by injection e with e; rw [← e, HM.out]; exact Nat.le_refl _)); clear hown1 hturn1)
      go_roundw
      case rel => exact ⟨k + 1, by omega, by go_num, by rw [Hid, HTK.out, nmD_snoc]; exact HO1.out, HB1⟩
      case measure => simp [intOf] <;> omega
    · obtain rfl : k = n := by omega
      have hL : ∀ ty, (Builtin.len_ #[107] ty #[.map (some M)]).run Tryz.prog wr = .ok (.int .i64 (Go.Maps.size (nmD (l.take k)))) wr := fun ty => HQ.out.len Tryz.underlying107 ty
      have HE : Hid (r = decide (Go.Maps.size (nmD (l.take k)) < (k : Int))) := by rw [Hid, ← HR.out, twB, List.take_of_length_le (by rw [HN.out]; exact Nat.le_refl _), HN.out]
      obtain ⟨q, hq⟩ : ∃ q, Go.Maps.size (nmD (l.take k)) = q := ⟨_, rfl⟩
      rw [hq] at hL HE
      clear hq
      by_cases hlq : q < (k : Int)
      · go_wp2
        go_ret
        exact ⟨by rw [HE.out, decide_eq_true hlq]; rfl, HB.out⟩
      · go_wp2
        go_ret
        exact ⟨by rw [HE.out, decide_eq_false (by omega : ¬ (q : Int) < (k : Int))]; rfl, HB.out⟩

/-- Can outputs be? -/
def RightN (l : List Ou) : Int := if 1000 < l.length then 4 else if anyB (wrA l) l.length then 210 else if twB l then 172 else 0

set_option maxRecDepth 100000 in
set_option maxHeartbeats 4000000 in
theorem right13 {W : World} {s : Value} {l : List Ou} (h : Sou W s l) (hn : l.length ≤ 1000000000) (hz : ∀ o ∈ l, OuZ o) :
    Calls Tryz.prog 13 #[s] W fun e w' => e = .returned (.int .i64 (RightN l)) ∧ Below W.heap.size W w' := by
  obtain ⟨a, c, rfl, h'⟩ := h
  have HA : Sou W (.slice a l.length c) l := ⟨_, _, rfl, h'⟩
  have KO : ∀ X, Below W.heap.size W X → Calls Tryz.prog 36 #[.slice a l.length c, .func (.func 37) #[] #[]] X fun e w' => e = .returned (.bool (anyB (wrA l) l.length)) ∧ Below X.heap.size X w' := fun X hX => hasO (ou_el (HA.below hX) rfl hz) (by omega)
  have KT : Hid (∀ X, Below W.heap.size W X → l.length ≤ 1000 → Calls Tryz.prog 38 #[.slice a l.length c] X fun e w' => e = .returned (.bool (twB l)) ∧ Below X.heap.size X w') := fun X hX h1 => twice38 (HA.below hX) rfl h1 hz
  have HR : Hid (RightN l = if 1000 < l.length then 4 else if anyB (wrA l) l.length then 210 else if twB l then 172 else 0) := rfl
  obtain ⟨n, hnn⟩ : ∃ n, l.length = n := ⟨_, rfl⟩
  obtain ⟨x, hx⟩ : ∃ n, anyB (wrA l) l.length = n := ⟨_, rfl⟩
  obtain ⟨y, hy⟩ : ∃ n, twB l = n := ⟨_, rfl⟩
  obtain ⟨r, hr⟩ : ∃ n, RightN l = n := ⟨_, rfl⟩
  rw [hr, hx, hy, hnn] at HR
  rw [hx, hnn] at KO
  rw [hy, hnn] at KT
  rw [hnn] at hn ⊢
  rw [hr]
  have ko := KO W (Below.refl _ _)
  clear hx hy hr h' HA hz hnn KO
  by_cases h1 : 1000 < n
  · have h1' : (1000 : Int) < n := by omega
    have HE : Hid (r = 4) := by rw [Hid, HR.out, if_pos h1]
    go_enter Tryz.func13, Tryz.ntmps13
    go_wp2
    go_ret
    exact ⟨by rw [HE.out]; rfl, Below.refl _ _⟩
  · have h1' : ¬ (1000 : Int) < n := by omega
    cases x with
    | true =>
      have HE : Hid (r = 210) := by rw [Hid, HR.out, if_neg h1]; rfl
      go_enter Tryz.func13, Tryz.ntmps13
      go_wp2_with fail
      refine ko.mono ?_
      rintro e w1 ⟨rfl, hb1⟩
      go_wp2
      go_ret
      exact ⟨by rw [HE.out]; rfl, hb1⟩
    | false =>
      have HE : Hid (r = if y then 172 else 0) := by rw [Hid, HR.out, if_neg h1]; rfl
      go_enter Tryz.func13, Tryz.ntmps13
      go_wp2_with fail
      refine ko.mono ?_
      rintro e w1 ⟨rfl, hb1⟩
      have HB1 : Hid (Below W.heap.size W w1) := hb1
      go_wp2_with fail
      refine (KT.out w1 hb1 (by omega)).mono ?_
      rintro e w2 ⟨rfl, hb2⟩
      cases y
      all_goals
        go_wp2
        go_ret
        exact ⟨by rw [HE.out]; rfl, HB1.out.trans (hb2.mono HB1.out.size)⟩
end Go.Proofs.YtdnhhmnllhlbbaaGreatDoor
