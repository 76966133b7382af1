/-
  What is proved here: what the reference's Of returns: the digits of any 64-bit number.
-/
import Derived.Test.YtfgpedleiajgeaaProg
import Derived.Test.YtfgpedleiajgeaaBa
import Derived.WalkKit
import Derived.WalkSpells
import Derived.WalkLawsBesides
namespace Go.Proofs.Ytfgpedleiajgeaa
open Go.RowKit

theorem Try.info2 : (Try.prog.info? 2).map (fun i => (i.zero, i.size, i.bytes)) = some (some (.int .i64 0), 1, 8) := by kernel_rfl

/-- The value v is the whole number x, as the reference lays one. -/
def IsBig (W : World) (v : Value) (x : Int) : Prop :=
  ∃ (m : Bool) (s : Value) (ds : List Int), v = .agg #[.bool m, s] ∧ Row W 0 s ds ∧ Digs ds ∧ Top ds ∧ (ds = [] → m = false) ∧ x = sg m (dval ds)

/-- What Of's loop keeps: the digits so far and what is left to be parted. -/
def OfInv (ds : List Int) (U A : Nat) : Prop :=
  Digs ds ∧ dval ds + rp ds.length * (U : Int) = (A : Int) ∧ (U = 0 → Top ds) ∧ ((ds.length = 0 ∧ U < 18446744073709551616) ∨ (ds.length = 1 ∧ U < 17179869184) ∨ (ds.length = 2 ∧ U < 16) ∨ (ds.length = 3 ∧ U = 0))
theorem of_start {A : Nat} (h : A < 18446744073709551616) : OfInv [] A A := ⟨digs_nil, by simp [dval, rp_zero], fun _ => top_nil, .inl ⟨rfl, h⟩⟩

/-- What one round of Of's loop does to the digits. -/
theorem of_step {ds : List Int} {U A : Nat} (h : OfInv ds U A) (hU : 0 < U) : OfInv (ds ++ [((U % 1073741824 : Nat) : Int)]) (U / 1073741824) A := by
  obtain ⟨hd, hv, _, hl⟩ := h
  refine ⟨digs_snoc hd (by omega) (by omega), ?_, fun h => top_snoc (by omega), ?_⟩
  · rw [dval_snoc, List.length_append, List.length_singleton, rp_succ, ← hv]
    have e : (U : Int) = ((U % 1073741824 : Nat) : Int) + 1073741824 * ((U / 1073741824 : Nat) : Int) := by omega
    rw [e, Int.mul_add, Int.add_assoc, ← Int.mul_assoc, Int.mul_comm (rp ds.length) 1073741824]
  · rw [List.length_append, List.length_singleton]; omega

set_option maxHeartbeats 1000000 in
theorem of_any (a : Int) (w : World) (ha : Fits a) :
    Calls Try.prog 38 #[.int .i64 a] w fun e w' => ∃ v, e = .returned v ∧ IsBig w' v a ∧ Below w.heap.size w w' := by
  obtain ⟨i0, hi, hz0, hz1, hz2⟩ := info_parts Try.info2
  obtain ⟨A, hA⟩ : ∃ A, a.natAbs = A := ⟨_, rfl⟩
  have hA64 : A < 18446744073709551616 := by unfold Fits at ha; omega
  have HA : Hid (a.natAbs = A) := hA
  by_cases sa : a < 0
  · have hU : IntKind.u64.wrap (IntKind.u64.wrap (wrap64 (-wrap64 (a + 1))) + 1) = (A : Int) := by
      rw [IntKind.wrap_u64, IntKind.wrap_u64]; unfold wrap64; unfold Fits at ha; omega
    have HU : Hid (IntKind.u64.wrap (IntKind.u64.wrap (wrap64 (-wrap64 (a + 1))) + 1) = (A : Int)) := hU
    clear hU hA
    go_enter Try.func38, Try.ntmps38
    go_wp2
    go_loopw [4] (fun u wr => ∃ (U : Nat) (ds : List Int) (v : Value), u = .int .u64 (U : Int) ∧ Two wr w.heap.size 35 (.bool false) (.slice none 0 0) ∧ Two wr (w.heap.size + 1) 35 (.bool true) v ∧ Row wr (w.heap.size + 2) v ds ∧ OfInv ds U A ∧ Below w.heap.size w wr)
      (fun u _ => (intOf u).toNat)
    case atStart =>
      refine ⟨A, [], .slice none 0 0, by rw [HU.out], (Two.new w 35 _ _).alloc _, ?_, World.ownsRow_nil _ _ _ _, of_start hA64, ((Below.refl _ w).alloc (Nat.le_refl _) _).alloc (by simp) _⟩
      have h := Two.new (w.alloc (Obj.cells #[Value.bool false, Value.slice none 0 0] 35)) 35 (.bool true) (.slice none 0 0)
      rw [World.size_alloc] at h; exact h
    case round =>
      obtain ⟨U, ds, v, rfl, hR, hBx, hrow, hinv, hB⟩ := hrel
      have hsz := hBx.lt
      have cR0 := hR.cell0; have cR1 := hR.cell1; have fR0 := hR.frozen0; have fR1 := hR.frozen1
      have cB0 := hBx.cell0; have cB1 := hBx.cell1
      by_cases hU : 0 < U
      · have hst := of_step hinv hU
        have hlen := hinv.2.2.2
        have H0 : Hid (OfInv ds U A) := hinv
        have H1 : Hid (OfInv (ds ++ [((U % 1073741824 : Nat) : Int)]) (U / 1073741824) A) := hst
        clear hinv hst
        go_wp2_with (at_builtin; refine wpList_append_own _ rfl _ _ 28 rfl (w.heap.size + 2) 2 i0 (.int .i64 0) 1 8 Try.underlying28 hi hz0 hz1 hz2 rfl (by decide) _ _ _ rfl (World.ownsRow.alloc hrow _) ⟨wr.heap.size, 0, none⟩ 1 1 [.int .i64 ((U % 1073741824 : Nat) : Int)] rfl rfl ?c1 ?c2 ?c3 ?c4 ?c5 ?_)
        case c1 => exact cell_one_new _ _ _
        case c2 => simp [Value.oneCell']
        case c3 => unfold maxLen; omega
        case c4 => omega
        case c5 => simp; omega
        intro v' w1 hown' hgrow _
        have hrow1 := Row.appended rfl hown'
        have hR1 := hR.appended hrow (by omega) hgrow
        have hX1 := hBx.appended hrow (by omega) hgrow
        have hB1 := below_appended hB hrow (by omega) (by omega) hgrow
        obtain ⟨g', cap', rfl⟩ := ownsRow_succ hown'
        have cX0 := hX1.cell0; have cX1 := hX1.cell1; have fX1 := hX1.frozen1
        clear hown' hgrow hR hBx hrow hB cR0 cR1 fR0 fR1 cB0 cB1
        go_wp2
        go_roundw
        case rel => exact ⟨U / 1073741824, _, _, by go_num, hR1.other (by simp) _, hX1.set1 _, hrow1.stored (by simp) _, H1.out, hB1.setCell (by simp) _⟩
        case measure => simp [intOf]; omega
      · have hU0 : U = 0 := by omega
        subst hU0
        obtain ⟨h1, h2, h3, _⟩ := hinv
        obtain ⟨av, cv, rfl⟩ := hrow.form
        have hT := (hR.set0 (.bool true)).set1 (.slice av ds.length cv)
        have hbig : IsBig ((wr.setCell ⟨w.heap.size, 0, none⟩ (.bool true)).setCell ⟨w.heap.size, 1, none⟩ (.slice av ds.length cv)) (.agg #[.bool true, .slice av ds.length cv]) a :=
          ⟨true, _, ds, rfl, ((hrow.stored (by simp) _).stored (by simp) _).mono (Nat.zero_le _), h1, h3 rfl, fun h => by rw [h] at h2; have := HA.out; simp [dval] at h2; omega, by have := HA.out; simp [sg] at h2 ⊢; omega⟩
        have hBe : Below w.heap.size w ((wr.setCell ⟨w.heap.size, 0, none⟩ (.bool true)).setCell ⟨w.heap.size, 1, none⟩ (.slice av ds.length cv)) := (hB.setCell (by simp) _).setCell (by simp) _
        have HF : Hid (IsBig _ _ _ ∧ Below _ _ _) := ⟨hbig, hBe⟩
        have c0 := hT.cell0; have c1 := hT.cell1
        clear h1 h2 h3 hbig hBe hT hrow hB
        go_wp2
        exact bodyPost_ret (v := .agg #[.bool true, .slice av ds.length cv]) (by simp [results, Try.results38, go_sem, c0, c1]) rfl ⟨_, rfl, HF.out⟩
  · have hU : IntKind.u64.wrap a = (A : Int) := by rw [IntKind.wrap_u64]; unfold Fits at ha; omega
    have HU : Hid (IntKind.u64.wrap a = (A : Int)) := hU
    clear hU hA
    go_enter Try.func38, Try.ntmps38
    go_wp2
    go_loopw [4] (fun u wr => ∃ (U : Nat) (ds : List Int) (v : Value), u = .int .u64 (U : Int) ∧ Two wr w.heap.size 35 (.bool false) (.slice none 0 0) ∧ Two wr (w.heap.size + 1) 35 (.bool false) v ∧ Row wr (w.heap.size + 2) v ds ∧ OfInv ds U A ∧ Below w.heap.size w wr)
      (fun u _ => (intOf u).toNat)
    case atStart =>
      refine ⟨A, [], .slice none 0 0, by rw [HU.out], (Two.new w 35 _ _).alloc _, ?_, World.ownsRow_nil _ _ _ _, of_start hA64, ((Below.refl _ w).alloc (Nat.le_refl _) _).alloc (by simp) _⟩
      have h := Two.new (w.alloc (Obj.cells #[Value.bool false, Value.slice none 0 0] 35)) 35 (.bool false) (.slice none 0 0)
      rw [World.size_alloc] at h; exact h
    case round =>
      obtain ⟨U, ds, v, rfl, hR, hBx, hrow, hinv, hB⟩ := hrel
      have hsz := hBx.lt
      have cR0 := hR.cell0; have cR1 := hR.cell1; have fR0 := hR.frozen0; have fR1 := hR.frozen1
      have cB0 := hBx.cell0; have cB1 := hBx.cell1
      by_cases hU : 0 < U
      · have hst := of_step hinv hU
        have hlen := hinv.2.2.2
        have H0 : Hid (OfInv ds U A) := hinv
        have H1 : Hid (OfInv (ds ++ [((U % 1073741824 : Nat) : Int)]) (U / 1073741824) A) := hst
        clear hinv hst
        go_wp2_with (at_builtin; refine wpList_append_own _ rfl _ _ 28 rfl (w.heap.size + 2) 2 i0 (.int .i64 0) 1 8 Try.underlying28 hi hz0 hz1 hz2 rfl (by decide) _ _ _ rfl (World.ownsRow.alloc hrow _) ⟨wr.heap.size, 0, none⟩ 1 1 [.int .i64 ((U % 1073741824 : Nat) : Int)] rfl rfl ?c1 ?c2 ?c3 ?c4 ?c5 ?_)
        case c1 => exact cell_one_new _ _ _
        case c2 => simp [Value.oneCell']
        case c3 => unfold maxLen; omega
        case c4 => omega
        case c5 => simp; omega
        intro v' w1 hown' hgrow _
        have hrow1 := Row.appended rfl hown'
        have hR1 := hR.appended hrow (by omega) hgrow
        have hX1 := hBx.appended hrow (by omega) hgrow
        have hB1 := below_appended hB hrow (by omega) (by omega) hgrow
        obtain ⟨g', cap', rfl⟩ := ownsRow_succ hown'
        have cX0 := hX1.cell0; have cX1 := hX1.cell1; have fX1 := hX1.frozen1
        clear hown' hgrow hR hBx hrow hB cR0 cR1 fR0 fR1 cB0 cB1
        go_wp2
        go_roundw
        case rel => exact ⟨U / 1073741824, _, _, by go_num, hR1.other (by simp) _, hX1.set1 _, hrow1.stored (by simp) _, H1.out, hB1.setCell (by simp) _⟩
        case measure => simp [intOf]; omega
      · have hU0 : U = 0 := by omega
        subst hU0
        obtain ⟨h1, h2, h3, _⟩ := hinv
        obtain ⟨av, cv, rfl⟩ := hrow.form
        have hT := (hR.set0 (.bool false)).set1 (.slice av ds.length cv)
        have hbig : IsBig ((wr.setCell ⟨w.heap.size, 0, none⟩ (.bool false)).setCell ⟨w.heap.size, 1, none⟩ (.slice av ds.length cv)) (.agg #[.bool false, .slice av ds.length cv]) a :=
          ⟨false, _, ds, rfl, ((hrow.stored (by simp) _).stored (by simp) _).mono (Nat.zero_le _), h1, h3 rfl, fun _ => rfl, by have := HA.out; simp [sg] at h2 ⊢; omega⟩
        have hBe : Below w.heap.size w ((wr.setCell ⟨w.heap.size, 0, none⟩ (.bool false)).setCell ⟨w.heap.size, 1, none⟩ (.slice av ds.length cv)) := (hB.setCell (by simp) _).setCell (by simp) _
        have HF : Hid (IsBig _ _ _ ∧ Below _ _ _) := ⟨hbig, hBe⟩
        have c0 := hT.cell0; have c1 := hT.cell1
        clear h1 h2 h3 hbig hBe hT hrow hB
        go_wp2
        exact bodyPost_ret (v := .agg #[.bool false, .slice av ds.length cv]) (by simp [results, Try.results38, go_sem, c0, c1]) rfl ⟨_, rfl, HF.out⟩
end Go.Proofs.Ytfgpedleiajgeaa
