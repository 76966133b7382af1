/-
  What is proved here: The number of a text: numberOf.
-/
import Derived.Test.YtdnhhmnllhlbbaaGreatDoorOv
import Derived.Test.YtdnhhmnllhlbbaaGreatDoorXSh
import Derived.WalkSmall
import Derived.Lib.SmallJoins
namespace Go.Proofs.YtdnhhmnllhlbbaaGreatDoor
open Go.RowKit Go.Shelf
set_option linter.unusedVariables false
set_option linter.unusedSimpArgs false

theorem pint_ok (l : List UInt8) (hs : l.length ≤ 65536) (v : Int) (h : Lib.parseIntB 64 l = .ok v) (w : World) :
    Calls Tryz.prog 115 #[.string (bs l), .int .i64 10, .int .i64 64] w fun e w' => e = .returned (.tuple #[.int .i64 v, .nilIface]) ∧ Below w.heap.size w w' := by
  have hsz : (bs l).size ≤ 65536 := hs
  refine (Any.strconv_ParseInt_10_at64_ok Tryz.laysPint (bs l) (by omega) v (by rw [bs_data]; exact h) w).mono fun e w' ⟨he, hw⟩ => ⟨he, ?_⟩
  rcases hw with rfl | ⟨t, rfl⟩
  · exact Below.refl _ _
  · exact Joins.below_bytesWorld _ _ _ _ (Nat.le_refl _)
theorem res_36 {fn : Func} {p : Tmp} (hf : fn.results = #[.cell p 36]) (tmps : Array Value) {w : World} {g : Nat} {x0 x1 x2 : Value} (h : Blk w g #[x0, x1, x2] 36) (hp : tmps.getD p undef = .pointer (some ⟨g, 0, none⟩)) :
    (results fn tmps).run Tryz.prog w = .ok (.agg #[x0, x1, x2]) w := results_cell_row hf tmps w g 36 _ (0, 0) _ hp h.h Tryz.underlying36 rfl (by kernel_rfl)

set_option maxRecDepth 100000 in
set_option maxHeartbeats 4000000 in
theorem number96 (x : Int) (h0 : -1000000000 ≤ x) (h1 : x ≤ 1000000000) (W : World) :
    Calls Tryz.prog 96 #[.string (bs (Lib.itoa x))] W fun e w' => e = .returned (.agg #[.bool false, .int .i64 x, .slice none 0 0]) ∧ Below W.heap.size W w' := by
  have hl := Lib.itoa_length_le x (by omega) (by omega)
  obtain ⟨w0, hw0⟩ : ∃ q, W.alloc (Obj.cells #[.bool false, .int .i64 0, .slice none 0 0] 36) = q := ⟨_, rfl⟩
  have hb0 : Below W.heap.size W w0 := by rw [← hw0]; exact (Below.refl _ _).alloc (Nat.le_refl _) _
  have HX0 : Hid (Blk w0 W.heap.size #[.bool false, .int .i64 0, .slice none 0 0] 36) := by rw [← hw0]; exact Blk.new _ _ _
  have HB0 : Hid (Below W.heap.size W w0) := hb0
  have kp := pint_ok (Lib.itoa x) (by omega) x (atoi_itoa x h0 h1) w0
  obtain ⟨T, hT⟩ : ∃ T, Lib.itoa x = T := ⟨_, rfl⟩
  rw [hT] at kp ⊢
  clear hl hT hb0
  go_enter Tryz.func96, Tryz.ntmps96
  go_wp2_with fail
  refine kp.mono ?_
  rintro e w1 ⟨rfl, hb1⟩
  have HX1 : Hid (Blk w1 W.heap.size #[.bool false, .int .i64 0, .slice none 0 0] 36) := HX0.out.below hb1
  have HB1 : Hid (Below W.heap.size W w1) := HB0.out.trans (hb1.mono HB0.out.size)
  clear kp hw0 hb1 HX0 HB0
  have x0 := HX1.out.cell 0
  have x1 := HX1.out.cell 1
  have x2 := HX1.out.cell 2
  have f0 := HX1.out.frozen 0
  have f1 := HX1.out.frozen 1
  have f2 := HX1.out.frozen 2
  go_wp2
  have HF : Blk (((w1.setCell ⟨W.heap.size, 0, none⟩ (.bool false)).setCell ⟨W.heap.size, 1, none⟩ (.int .i64 x)).setCell ⟨W.heap.size, 2, none⟩ (.slice none 0 0)) W.heap.size #[.bool false, .int .i64 x, .slice none 0 0] 36 := ((HX1.out.set 0 _).set 1 _).set 2 _
  exact ⟨rfl, _, res_36 rfl _ HF rfl, rfl, ((HB1.out.setCell (Nat.le_refl _) _).setCell (Nat.le_refl _) _).setCell (Nat.le_refl _) _⟩
end Go.Proofs.YtdnhhmnllhlbbaaGreatDoor
