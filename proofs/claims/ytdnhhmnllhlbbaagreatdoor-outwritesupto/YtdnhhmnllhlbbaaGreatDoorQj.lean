/-
  What is proved here: The reference: LentOuts.
-/
import Derived.Test.YtdnhhmnllhlbbaaGreatDoorQij
import Derived.Test.YtdnhhmnllhlbbaaGreatDoorPpj
namespace Go.Proofs.YtdnhhmnllhlbbaaGreatDoor
open Go.RowKit Go.Shelf
set_option linter.unusedVariables false
set_option linter.unusedSimpArgs false
def ouRow (o : Ou) (dv lv : Value) : List Value := [.string (bs o.nm), dv, lv, .int .i64 o.kind, .bool o.one]

set_option maxRecDepth 100000 in
set_option maxHeartbeats 4000000 in
theorem lentOuts7 {W : World} {s : Value} {l : List Ou} (h : Sou W s l) (hn : l.length ≤ 1048576) (hz : ∀ o ∈ l, OuZ o) (hd : ∀ o ∈ l, o.dims.length * 16 ≤ 140737488351232) :
    Calls Tryz.prog 7 #[s] W fun e w' => ∃ v, e = .returned v ∧ Sou w' v l ∧ Below W.heap.size W w' := by
  obtain ⟨a0, c0, rfl, h'⟩ := h
  have HA : Hid (Sou W (.slice a0 l.length c0) l) := ⟨_, _, rfl, h'⟩
  have HZ := hid hz
  have HDM := hid hd
  clear h' hz hd
  obtain ⟨n, hn0⟩ : ∃ n, l.length = n := ⟨_, rfl⟩
  rw [hn0] at HA hn ⊢
  have HN := hid hn0
  clear hn0
  obtain ⟨B, hB⟩ : ∃ B, W.heap.size = B := ⟨_, rfl⟩
  have HBB := hid hB
  rw [hB]
  clear hB
  go_enter Tryz.func7, Tryz.ntmps7
  go_wp2
  go_loopw [3, 4] (fun s' i wr => ∃ k : Nat, k ≤ n ∧ i = .int .i64 (k : Int) ∧ ∃ rows : List (List Value), Hid (rows.length = k) ∧ Hid (Ow wr 53 s' 5 rows) ∧ Hid (∀ (j : Nat) (o : Ou) (c : List Value), l[j]? = some o → rows[j]? = some c → ∃ dv lv, c = ouRow o dv lv ∧ Dx s'.ownBlock wr (fun w => Rgs w dv o.dims ∧ St 0 w lv o.l)) ∧ Hid (∀ g, s'.ownBlock = some g → B ≤ g) ∧ Hid (Below B W wr)) (fun s' i _ => n - (intOf i).toNat)
  case atStart => exact ⟨0, Nat.zero_le _, rfl, [], rfl, ⟨by simp, World.ownsRow_nil _ _ _ _⟩, fun j o c _ h => (by simp at h), fun g e => (by cases e), Below.refl _ _⟩
  case round =>
    obtain ⟨k, hk, rfl, rows, HL, HO, HD, HG, HB⟩ := hrel
    by_cases hlt : k < n
    · have hlt' : (k : Int) < n := by omega
      obtain ⟨o, ho⟩ : ∃ o, l[k]? = some o := ⟨_, List.getElem?_eq_getElem (by rw [HN.out]; exact hlt)⟩
      obtain ⟨b, off, dv, lv, rfl, hb, hR, hS, d0, d1, d2, d3, d4⟩ := HA.out.at ho
      rw [HBB.out] at hb
      have x0 := (HB.out.cell (p := ⟨b, off + k * 5, none⟩) hb).trans d0
      have x1 := (HB.out.cell (p := ⟨b, off + k * 5 + 1, none⟩) hb).trans d1
      have x2 := (HB.out.cell (p := ⟨b, off + k * 5 + 2, none⟩) hb).trans d2
      have x3 := (HB.out.cell (p := ⟨b, off + k * 5 + 3, none⟩) hb).trans d3
      have x4 := (HB.out.cell (p := ⟨b, off + k * 5 + 4, none⟩) hb).trans d4
      obtain ⟨a1, m1, rfl, hR1⟩ := id hR
      obtain ⟨a2, m2, rfl, hS1⟩ := id hS
      have HR := hid hR
      have HS := hid hS
      have HX1 := hid x1
      have HK := hid ho
      have HBL := hid hb
      have hw2 : IntKind.i64.wrap ((k : Int) + 1) = (k : Int) + 1 := by rw [IntKind.wrap_i64]; omega
      clear hR hS hR1 hS1 d0 d1 d2 d3 d4 ho
      obtain ⟨S, hS⟩ : ∃ S, bs o.nm = S := ⟨_, rfl⟩
      obtain ⟨n1, hn1⟩ : ∃ q, o.dims.length = q := ⟨_, rfl⟩
      obtain ⟨n2, hn2⟩ : ∃ q, o.l.length = q := ⟨_, rfl⟩
      rw [hS] at x0
      rw [hn1] at x1 HR HX1
      rw [hn2] at x2 HS
      have HSS : Hid (bs o.nm = S ∧ o.dims.length = n1 ∧ o.l.length = n2) := ⟨hS, hn1, hn2⟩
      clear hS hn1 hn2
      obtain ⟨Y, hY⟩ : ∃ Y, wr.alloc (Obj.cells #[.string S, .slice none 0 0, .slice a2 n2 m2, .int .i64 o.kind, .bool o.one] 53) = Y := ⟨_, rfl⟩
      obtain ⟨bT, hbT⟩ : ∃ x, wr.heap.size = x := ⟨_, rfl⟩
      have HBT : Hid (wr.heap.size = bT) := hbT
      have HY : Hid (wr.alloc (Obj.cells #[.string S, .slice none 0 0, .slice a2 n2 m2, .int .i64 o.kind, .bool o.one] 53) = Y) := hY
      have KT : Hid (Blk Y bT #[.string S, .slice none 0 0, .slice a2 n2 m2, .int .i64 o.kind, .bool o.one] 53) := by rw [Hid, ← hY, ← hbT]; exact Blk.new wr _ _
      have HBY : Hid (Below bT wr Y) := by rw [Hid, ← hY, ← hbT]; exact (Below.refl _ wr).alloc (Nat.le_refl _) _
      have hBbT : B ≤ bT := by rw [← hbT, ← HBB.out]; exact HB.out.size
      have HBbT := hid hBbT
      have hbT2 : b < bT := by omega
      have HWY : Hid (Below B W Y) := HB.out.trans (HBY.out.mono hBbT)
      clear hY hbT
      go_upto_region 7 with (fail)
      rw [HY.out, HBT.out]
      refine wp_region_held_drew (S := (fun w' => Below bT wr w')) (by kernel_rfl) (Below.drew HBY.out) (fun hHeld => ?_)
      refine tkI 0 rfl hHeld ?_
      try simp only [Act.put, zS, eZ, eS]
      refine tkI 2 rfl hHeld ?_
      try simp only [Act.put, zS, eZ, eS]
      refine tkI 3 rfl hHeld ?_
      try simp only [Act.put, zS, eZ, eS]
      refine tkI 4 rfl hHeld ?_
      try simp only [Act.put, zS, eZ, eS]
      refine tkI 5 rfl hHeld ?_
      try simp only [Act.put, zS, eZ, eS]
      refine tkI 6 rfl hHeld ?_ (hy := by intro w hSw; have y1 := (hSw.cell (p := ⟨b, off + k * 5 + 1, none⟩) hbT2).trans x1; go_simp <;> with_reducible rfl)
      try simp only [Act.put, zS, eZ, eS]
      refine rdy 1 rfl fun K hK => ?_
      have e1 := KT.out.drew.cell 1
      simp only [List.getElem?_toArray, List.getElem?_cons_succ, List.getElem?_cons_zero] at e1
      go_simp
      clear hHeld; refine hK.out _ _ (Below.drew HBY.out) fun hHeld => ?_
      clear hK K
      try simp only [Act.put, zS, eZ, eS]
      refine rdy 7 rfl fun K hK => ?_
      refine step_app_r _ rfl _ _ rfl rfl _ o.dims rfl (by exact HR.out.below ((HWY.out.drew).mono (by rw [HBB.out]; exact Nat.le_refl _))) (HDM.out o (List.mem_of_getElem? HK.out)) ?_
      intro v5 w5 hown5 hb5
      rw [HSS.out.2.1] at hown5
      obtain ⟨p5, c5, rfl⟩ := own_shape hown5
      have KT5 := KT.out.drew.below hb5
      have HB5 : Below bT wr w5 := (Below.drew HBY.out).trans (hb5.mono (by have := (Below.drew HBY.out).size; rw [HBT.out] at this; exact this))
      clear hHeld; refine hK.out _ _ (HB5) fun hHeld => ?_
      clear hK K
      try simp only [Act.put, zS, eZ, eS]
      refine tkI 8 rfl hHeld ?_
      try simp only [Act.put, zS, eZ, eS]
      refine rdy 9 rfl fun K hK => ?_
      have e9 := KT5.cell 1
      simp only [List.getElem?_toArray, List.getElem?_cons_succ, List.getElem?_cons_zero] at e9
      have f5 := KT5.frozen
      go_simp
      clear hHeld; refine hK.out _ _ (HB5.setCell (p := ⟨bT, 1, none⟩) (Nat.le_refl bT) _) fun hHeld => ?_
      clear hK K
      try simp only [Act.put, zS, eZ, eS]
      refine wpAnyH_done (by kernel_rfl) ?_ _
      clear hHeld
      have KT6 := KT5.set 1 (.slice p5 n1 c5)
      simp only [List.setIfInBounds_toArray, List.set_cons_zero, List.set_cons_succ] at KT6
      have hB6 : Below bT wr (w5.setCell ⟨bT, 1, none⟩ (.slice p5 n1 c5)) := HB5.setCell (p := ⟨bT, 1, none⟩) (Nat.le_refl bT) _
      have hK6 : ∀ g, g ≠ bT → (w5.setCell ⟨bT, 1, none⟩ (.slice p5 n1 c5)).heap[g]? = w5.heap[g]? := fun g hg => Below.heap_setCell w5 ⟨bT, 1, none⟩ _ g hg
      have hS6 : (w5.setCell ⟨bT, 1, none⟩ (.slice p5 n1 c5)).heap.size = w5.heap.size := World.size_setCell _ _ _
      have hTY : bT < Y.drew.heap.size := KT.out.drew.lt
      obtain ⟨w6, hw6⟩ : ∃ x, w5.setCell ⟨bT, 1, none⟩ (.slice p5 n1 c5) = x := ⟨_, rfl⟩
      rw [hw6] at KT6 hB6 hK6 hS6 ⊢
      have HR6 : Hid (∀ w', w6.heap.size ≤ w'.heap.size → (∀ b, bT < b → b < w6.heap.size → w'.heap[b]? = w6.heap[b]?) → Rgs w' (.slice p5 n1 c5) o.dims) := fun w' h1 h2 => by
        refine own_rgs (B := Y.drew.heap.size) (w := w5) (by rw [HSS.out.2.1]; exact hown5) (by rw [← hS6]; exact h1) (fun b h3 h4 => ?_)
        rw [h2 b (by omega) (by rw [hS6]; exact h4)]
        exact hK6 b (by omega)
      have HB6 : Hid (Below bT wr w6) := hB6
      have KT7 : Hid (Blk w6 bT #[.string S, .slice p5 n1 c5, .slice a2 n2 m2, .int .i64 o.kind, .bool o.one] 53) := KT6
      clear hw6 hB6 KT6 KT5 HB5 hown5 hb5 hK6 hS6 hTY f5 e1 e9
      have z2 := KT7.out.cell 2
      simp only [List.getElem?_toArray, List.getElem?_cons_succ, List.getElem?_cons_zero] at z2
      obtain ⟨w7, hw7⟩ : ∃ x, w6.alloc (Obj.cells #[.bool false, .slice a2 n2 m2] 59) = x := ⟨_, rfl⟩
      have hb67 : Below w6.heap.size w6 w7 := by rw [← hw7]; exact (Below.refl _ _).alloc (Nat.le_refl _) _
      have hB67 : Blk w7 w6.heap.size #[.bool false, .slice a2 n2 m2] 59 := by rw [← hw7]; exact Blk.new _ _ _
      have hBw6 : Below B W w6 := HB.out.trans (HB6.out.mono HBbT.out)
      have hS7 : St 0 w7 (.slice a2 n2 m2) o.l := (HS.out.below (hBw6.mono (by rw [HBB.out]; exact Nat.le_refl _))).below hb67
      have hSa : Sa 0 w7 (.slice (some ⟨w6.heap.size, 0, none⟩) 1 1) [⟨false, o.l⟩] := ⟨_, _, rfl, fun _ => ⟨w6.heap.size, 0, [.slice a2 n2 m2], rfl, Nat.zero_le _, hB67.lt, rfl, fun i g sv h1 h2 => by
        have hi : i = 0 := by have := (List.getElem?_eq_some_iff.1 h1).1; simpa using this
        subst hi
        simp at h1 h2
        subst h1 h2
        exact ⟨hS7, hB67.cell 0, hB67.cell 1⟩⟩⟩
      have hoz := HZ.out o (List.mem_of_getElem? HK.out)
      have k24 := lent24 [] [⟨false, o.l⟩] w7 hSa rfl (by decide) (fun g hg => by simp at hg; subst hg; have := hoz.l; show o.l.length * 48 ≤ _; omega) (fun g hg t ht => by simp at hg; subst hg; have := hoz.t t ht; omega)
      have K24 := hid k24
      have HW7 := hid hw7
      have H67 := hid hb67
      have HBW6 := hid hBw6
      clear k24 hw7 hb67 hB67 hBw6 hS7 hSa hoz
      have x9 : Tryz.prog.cellsOf 54 = 1 := rfl
      go_wp2_with fail
      rw [HW7.out]
      refine K24.out.mono ?_
      rintro e w8 ⟨v8, rfl, hao, hb78⟩
      obtain ⟨hsa8, p8, c8, hv8, _⟩ := ao_sa hao
      subst hv8
      obtain ⟨b8, off8, a9, c9, rfl, hb8, hst9, f0, f1⟩ := hsa8.at (i := 0) (g := ⟨false, o.l⟩) rfl
      have hst := hst9
      dsimp only at hst f1
      rw [Nat.zero_mul, Nat.add_zero, HSS.out.2.2] at f1
      rw [HSS.out.2.2] at hst
      rw [show ([(⟨false, o.l⟩ : Ag)]).length = 1 from rfl]
      have H78 := hid hb78
      have HST := hid hst
      clear hsa8 hst9 hao f0 hst
      obtain ⟨w9, hw9⟩ : ∃ x, w8.alloc (Obj.cells #[.string ⟨#[]⟩, .slice (some ⟨b8, off8, none⟩) 1 c8] 56) = x := ⟨_, rfl⟩
      have hb89 : Below w8.heap.size w8 w9 := by rw [← hw9]; exact (Below.refl _ _).alloc (Nat.le_refl _) _
      have q1 : w9.cell? ⟨w8.heap.size, 1, none⟩ = some (.slice (some ⟨b8, off8, none⟩) 1 c8) := by rw [← hw9]; exact (Blk.new _ _ _).cell 1
      have q2 := (hb89.cell (p := ⟨b8, off8 + 1, none⟩) hb8).trans f1
      have KT9 := ((KT7.out.below H67.out).below hb78).below hb89
      have fT := KT9.frozen
      have t2 := KT9.cell 2
      simp only [List.getElem?_toArray, List.getElem?_cons_succ, List.getElem?_cons_zero] at t2
      have HW9 := hid hw9
      have H89 := hid hb89
      have HK9 := hid KT9
      clear hw9 hb89 hb78 KT9 f1 z2
      go_upto_region 9 with (fail)
      rw [HW9.out]
      go_upto_region 10 with (fail)
      have hK10 : ∀ g, g ≠ bT → (w9.setCell ⟨bT, 2, none⟩ (.slice a9 n2 c9)).heap[g]? = w9.heap[g]? := fun g hg => Below.heap_setCell w9 ⟨bT, 2, none⟩ _ g hg
      have hS10 : (w9.setCell ⟨bT, 2, none⟩ (.slice a9 n2 c9)).heap.size = w9.heap.size := World.size_setCell _ _ _
      have KT10 := HK9.out.set 2 (.slice a9 n2 c9)
      simp only [List.setIfInBounds_toArray, List.set_cons_zero, List.set_cons_succ] at KT10
      have hB9 : Below bT wr w9 := HB6.out.trans (((H67.out.trans (H78.out.mono H67.out.size)).trans (H89.out.mono (Nat.le_trans H67.out.size H78.out.size))).mono HB6.out.size |>.mono (by rw [← HBT.out]; exact Nat.le_refl _))
      have hB10 : Below bT wr (w9.setCell ⟨bT, 2, none⟩ (.slice a9 n2 c9)) := hB9.setCell (p := ⟨bT, 2, none⟩) (Nat.le_refl bT) _
      obtain ⟨w10, hw10⟩ : ∃ x, w9.setCell ⟨bT, 2, none⟩ (.slice a9 n2 c9) = x := ⟨_, rfl⟩
      rw [hw10] at hK10 hS10 KT10 hB10 ⊢
      have t0 := KT10.cell 0
      have t1 := KT10.cell 1
      have t2' := KT10.cell 2
      have t3 := KT10.cell 3
      have t4 := KT10.cell 4
      simp only [List.getElem?_toArray, List.getElem?_cons_succ, List.getElem?_cons_zero] at t0 t1 t2' t3 t4
      have hRW : Blk (w10.alloc (Obj.cells #[.string S, .slice p5 n1 c5, .slice a9 n2 c9, .int .i64 o.kind, .bool o.one] 53)) w10.heap.size #[.string S, .slice p5 n1 c5, .slice a9 n2 c9, .int .i64 o.kind, .bool o.one] 53 := Blk.new _ _ _
      have hb11 : Below w10.heap.size w10 (w10.alloc (Obj.cells #[.string S, .slice p5 n1 c5, .slice a9 n2 c9, .int .i64 o.kind, .bool o.one] 53)) := (Below.refl _ _).alloc (Nat.le_refl _) _
      have hB11 : Below bT wr (w10.alloc (Obj.cells #[.string S, .slice p5 n1 c5, .slice a9 n2 c9, .int .i64 o.kind, .bool o.one] 53)) := hB10.trans (hb11.mono hB10.size |>.mono (by rw [← HBT.out]; exact Nat.le_refl _))
      have HO11 : Hid (Ow (w10.alloc (Obj.cells #[.string S, .slice p5 n1 c5, .slice a9 n2 c9, .int .i64 o.kind, .bool o.one] 53)) 53 u3 5 rows) := HO.out.keep (fun g e => hB11.block g (by rw [← HBT.out]; exact HO.out.lt e))
      have hoT : ∀ g, u3.ownBlock = some g → g < bT := fun g e => by rw [← HBT.out]; exact HO.out.lt e
      have HNW : Hid (Dx u3.ownBlock (w10.alloc (Obj.cells #[.string S, .slice p5 n1 c5, .slice a9 n2 c9, .int .i64 o.kind, .bool o.one] 53)) (fun w => Rgs w (.slice p5 n1 c5) o.dims ∧ St 0 w (.slice a9 n2 c9) o.l)) := by
        intro w' h1 h2
        have s67 := H67.out.size
        have s78 := H78.out.size
        have s89 := H89.out.size
        have s11 := hb11.size
        have s6 : bT < w6.heap.size := KT7.out.lt
        have hv : ∀ b, bT < b → b < w10.heap.size → w'.heap[b]? = w9.heap[b]? := fun b h3 h4 => by
          rw [h2 b (by omega) (fun e => by have := hoT b e; omega), hb11.block b h4, hK10 b (by omega)]
        refine ⟨HR6.out w' (by omega) fun b h3 h4 => ?_, (HST.out.keepB (by omega) fun b h3 h4 => ?_).lower (Nat.zero_le _)⟩
        · rw [hv b h3 (by omega), H89.out.block b (by omega), H78.out.block b (by omega), H67.out.block b h4]
        · rw [hv b (by omega) (by omega), H89.out.block b h4]
      have HD11 : Hid (∀ (j : Nat) (q : Ou) (c : List Value), l[j]? = some q → rows[j]? = some c → ∃ dv lv, c = ouRow q dv lv ∧ Dx u3.ownBlock (w10.alloc (Obj.cells #[.string S, .slice p5 n1 c5, .slice a9 n2 c9, .int .i64 o.kind, .bool o.one] 53)) (fun w => Rgs w dv q.dims ∧ St 0 w lv q.l)) := fun j o' c' h1 h2 => by
        obtain ⟨dv, lv, e, h3⟩ := HD.out j o' c' h1 h2
        exact ⟨dv, lv, e, h3.below (by rw [HBT.out]; exact hB11)⟩
      have HWB : Hid (Below B W (w10.alloc (Obj.cells #[.string S, .slice p5 n1 c5, .slice a9 n2 c9, .int .i64 o.kind, .bool o.one] 53))) := HB.out.trans (hB11.mono HBbT.out)
      have HB12 : Hid (B ≤ (w10.alloc (Obj.cells #[.string S, .slice p5 n1 c5, .slice a9 n2 c9, .int .i64 o.kind, .bool o.one] 53)).heap.size) := by rw [Hid, ← HBB.out]; exact HWB.out.size
      have HRW := hid hRW
      have hlr : rows.length ≤ 100000000 := by rw [HL.out]; omega
      clear hK10 hS10 KT10 hB9 hB10 hb11 hB11 hoT hRW q1 q2 t2 fT hb8 x1 x2 x3 x4 x0
      go_wp2_with (at_builtin; refine list_app HO11.out 22 Tryz.underlying22 info53L rfl (by decide) rfl (.tmp 39) (.tmp 41) rfl rfl ⟨w10.heap.size, 0, none⟩ 1 rfl [.string S, .slice p5 n1 c5, .slice a9 n2 c9, .int .i64 o.kind, .bool o.one] rfl (fun j u hu => by rw [Addr.add_lit, Nat.zero_add, HRW.out.cell j]; simpa using hu) (by intro u hu; simp at hu; rcases hu with rfl | rfl | rfl | rfl | rfl <;> rfl) hlr (by decide) ?_; intro d1 w12 hr1 hg1 hn1; refine Hid.out ?_)
      rw [Hid]
      go_wp2
      go_roundw
      case rel =>
        refine ⟨k + 1, by omega, by go_num, rows ++ [[Value.string S, Value.slice p5 n1 c5, Value.slice a9 n2 c9, Value.int .i64 o.kind, Value.bool o.one]], by rw [Hid, List.length_append, HL.out]; rfl, hr1, fun j o' c' h1 h2 => ?_, fun g e => ?_, ?_⟩
        · by_cases hj : j < k
          · rw [List.getElem?_append_left (by rw [HL.out]; exact hj)] at h2
            obtain ⟨dv, lv, e, h3⟩ := HD11.out j o' c' h1 h2
            exact ⟨dv, lv, e, h3.grow hg1 hn1⟩
          · have hj2 : j = k := by have := (List.getElem?_eq_some_iff.1 h2).1; rw [List.length_append, HL.out] at this; simp at this; omega
            subst hj2
            rw [HK.out] at h1
            injection h1 with h1
            subst h1
            rw [List.getElem?_append_right (by rw [HL.out]; exact Nat.le_refl _), HL.out, Nat.sub_self] at h2
            injection h2 with h2
            exact ⟨_, _, by rw [← h2, ouRow, HSS.out.1], HNW.out.grow hg1 hn1⟩
        · rcases hn1 g e with h1 | h1
          · exact HG.out g h1
          · have := HB12.out; omega
        · exact HWB.out.grown hg1 HB12.out HG.out
      case measure => simp [intOf]; omega
    · obtain rfl : k = n := by omega
      have HF : Hid (Sou wr u3 l) := by
        obtain ⟨a, c, e, _, _⟩ := HO.out.shape
        refine ⟨a, c, by rw [e, HL.out, HN.out], fun h0 => ?_⟩
        have hrow : ∀ i o, l[i]? = some o → ∃ dv lv, rows[i]? = some (ouRow o dv lv) ∧ Dx u3.ownBlock wr (fun w => Rgs w dv o.dims ∧ St 0 w lv o.l) := fun i o ho => by
          obtain ⟨r, hr⟩ : ∃ r, rows[i]? = some r := ⟨_, List.getElem?_eq_getElem (by rw [HL.out, ← HN.out]; exact (List.getElem?_eq_some_iff.1 ho).1)⟩
          obtain ⟨dv, lv, e2, h3⟩ := HD.out i o r ho hr
          exact ⟨dv, lv, by rw [hr, e2], h3⟩
        obtain ⟨o0, ho0⟩ : ∃ o, l[0]? = some o := ⟨_, List.getElem?_eq_getElem h0⟩
        obtain ⟨dv0, lv0, hr0, _⟩ := hrow 0 o0 ho0
        obtain ⟨g, cap, e2, hg, _⟩ := HO.out.at hr0
        rw [e] at e2
        injection e2 with e2 _ _
        refine ⟨g, 0, e2, hg, fun i o ho => ?_⟩
        obtain ⟨dv, lv, hr, hD⟩ := hrow i o ho
        obtain ⟨g', cap', e3, _, _, _, hra, _⟩ := HO.out.at hr
        rw [e, e2] at e3
        injection e3 with e3 _ _
        injection e3 with e3
        injection e3 with e3 _ _
        subst e3
        have f0 := hra 0 _ rfl
        have f1 := hra 1 _ rfl
        have f2 := hra 2 _ rfl
        have f3 := hra 3 _ rfl
        have f4 := hra 4 _ rfl
        rw [Nat.zero_add]
        exact ⟨dv, lv, hD.here.1, hD.here.2, f0, f1, f2, f3, f4⟩
      go_wp2
      go_ret
      exact ⟨_, rfl, HF.out, HB.out⟩
end Go.Proofs.YtdnhhmnllhlbbaaGreatDoor
