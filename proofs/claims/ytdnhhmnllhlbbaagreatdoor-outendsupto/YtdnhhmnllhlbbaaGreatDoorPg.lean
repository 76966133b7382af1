/-
  What is proved here: An output that does not stand at a place is told there.
-/
import Derived.Test.YtdnhhmnllhlbbaaGreatDoorPf
namespace Go.Proofs.YtdnhhmnllhlbbaaGreatDoor
open Go.RowKit Go.Shelf
set_option linter.unusedVariables false
set_option linter.unusedSimpArgs false
/-- What is thrown at a place. -/
def thrownAt (q : Nat) : List PanicEntry := [{ v := .iface 113 (.agg #[.int .i64 (q : Int)]), recovered := false }]

set_option maxRecDepth 100000 in
set_option maxHeartbeats 4000000 in
theorem output71_bad {B0 W : World} {g p : Nat} {dv lv : Value} (s : List UInt8) (o : Ou) (hd : Rgs B0 dv o.dims) (hl : St 0 B0 lv o.l) (hbw : Below B0.heap.size B0 W) (hX : Blk W g #[.string (bs s), .int .i64 (p : Int)] 115)
    (hno : lcp (s.drop p) (headT o) = 0) (hp : p ≤ s.length) (hs : s.length ≤ 1000000000000) (hnm : o.nm.length ≤ 10000000000) (hsh : shB o = true) (hT : Tens B0) :
    Calls Tryz.prog 71 #[.pointer (some ⟨g, 0, none⟩), .agg #[.string (bs o.nm), dv, lv, .int .i64 o.kind, .bool o.one]] W fun e w' => e = .panicked (thrownAt p) ∧ Kept (fun b => b = g) W w' := by
  obtain ⟨hd1, hd2⟩ := dims_ok hsh
  obtain ⟨da, dc, rfl, _⟩ := id hd
  obtain ⟨la, lc, rfl, _⟩ := id hl
  have hrl := round_len hnm hsh
  obtain ⟨F, hF⟩ : ∃ F, W.heap.size = F := ⟨_, rfl⟩
  have HF : Hid (W.heap.size = F) := hF
  obtain ⟨dn, hdn⟩ : ∃ q, o.dims.length = q := ⟨_, rfl⟩
  obtain ⟨n, hn⟩ : ∃ q, o.l.length = q := ⟨_, rfl⟩
  rw [hn]
  rw [hdn] at hd ⊢
  have hb1 : Below W.heap.size W (W.alloc (Obj.cells #[.string (bs o.nm), .slice da dn dc, .slice la n lc, .int .i64 o.kind, .bool o.one] 53)) := (Below.refl _ _).alloc (Nat.le_refl _) _
  have HO1 : Hid (Blk (W.alloc (Obj.cells #[.string (bs o.nm), .slice da dn dc, .slice la n lc, .int .i64 o.kind, .bool o.one] 53)) F #[.string (bs o.nm), .slice da dn dc, .slice la n lc, .int .i64 o.kind, .bool o.one] 53) := by rw [← hF]; exact Blk.new _ _ _
  obtain ⟨w1, hw1⟩ : ∃ q, W.alloc (Obj.cells #[.string (bs o.nm), .slice da dn dc, .slice la n lc, .int .i64 o.kind, .bool o.one] 53) = q := ⟨_, rfl⟩
  rw [hw1] at hb1 HO1
  have HB1 : Hid (Below W.heap.size W w1) := hb1
  have HX1 : Hid (Blk w1 g #[.string (bs s), .int .i64 (p : Int)] 115) := hX.below hb1
  have ka := around25 (W := w1) (dv := .slice da dn dc) (lv := .slice la n lc) o (hd.below (hbw.trans (hb1.mono hbw.size))) ⟨_, _, _, rfl⟩ hnm (by omega) hd2 (hT.self (hbw.trans (hb1.mono hbw.size)))
  have HW1 : Hid _ := hw1
  have hpos : 0 < (headT o).length := by unfold headT; split <;> simp only [List.length_append, List.length_cons, List.length_nil] <;> omega
  have HC : Hid (p ≤ s.length ∧ s.length ≤ 1000000000000 ∧ (headT o).length ≤ 1000000000000 ∧ 0 < (headT o).length ∧ lcp (s.drop p) (headT o) = 0) := ⟨hp, hs, by omega, hpos, hno⟩
  clear hd1 hd2 hp hs hrl hl hbw hT hF hX hdn hn hw1 hb1 hd hnm hsh hpos hno
  go_enter Tryz.func71, Tryz.ntmps71
  go_upto_region 2 with (fail)
  rw [HW1.out, HF.out]
  clear HW1
  have x0 := HO1.out.cell 0
  have x1 := HO1.out.cell 1
  have x2 := HO1.out.cell 2
  have x3 := HO1.out.cell 3
  have x4 := HO1.out.cell 4
  go_wp2_with fail
  refine ka.mono ?_
  rintro e w2 ⟨rfl, hb2⟩
  have HX2 : Hid (Blk w2 g #[.string (bs s), .int .i64 (p : Int)] 115) := HX1.out.below hb2
  have HB2 : Hid (Below W.heap.size W w2) := HB1.out.trans (hb2.mono HB1.out.size)
  have kn := need72 s (headT o) HX2.out HC.out.1 HC.out.2.1 HC.out.2.2.1
  obtain ⟨H, hH⟩ : ∃ H, bs (headT o) = H := ⟨_, rfl⟩
  rw [hH] at kn
  rw [hH]
  clear ka x0 x1 x2 x3 x4 hb2 HO1 HX1 HB1 hH
  go_wp2_with fail
  refine kn.mono ?_
  rintro e w3 ⟨hX3, hK3, (⟨hlt, _⟩ | ⟨_, rfl⟩)⟩
  · have := HC.out.2.2.2
    omega
  have HK3 : Hid (Kept (fun b => b = g) W w3) := (Kept.of_below (X := fun b => b = g) HB2.out).trans hK3 (fun b q => .inl q)
  rw [HC.out.2.2.2.2]
  clear kn hX3 hK3
  go_wp2
  exact ⟨rfl, rfl, HK3.out⟩
end Go.Proofs.YtdnhhmnllhlbbaaGreatDoor
