/-
  What is proved here: what the reference's trim returns: the same number without digits 0 above.
-/
import Derived.Test.YtfgpedleiajgeaaBb
namespace Go.Proofs.Ytfgpedleiajgeaa
open Go.RowKit

/-- A row of numbers lies in no block of two cells of the struct's type. -/
theorem Row.stored2 {W : World} {base C : Nat} {v u x : Value} {ds : List Int} (h : Row W base v ds) (hT : Two W C 35 u x) {a : Addr} (ha : a.block = C) (y : Value) : Row (W.setCell a y) base v ds := by
  refine ⟨h.1, ?_⟩
  rcases h.2 with h2 | ⟨g, cap, cur, e, hg, hh, r⟩
  · exact .inl h2
  · refine .inr ⟨g, cap, cur, e, hg, ?_, r⟩
    rw [Below.heap_setCell W a y g ?_]
    · exact hh
    · intro hgc
      rw [hgc, ha] at hh
      have : some (Obj.cells cur 2 (0, 0)) = some (Obj.cells #[u, x] 35 (0, 0)) := hh.symm.trans hT
      injection this with this
      injection this with _ h35 _
      exact absurd h35 (by decide)
/-- A struct that is copied into a result's block is the same number. -/
theorem IsBig.copied {W : World} {C : Nat} {m : Bool} {s u x : Value} {y : Int} (h : IsBig W (.agg #[.bool m, s]) y) (hT : Two W C 35 u x) :
    IsBig ((W.setCell ⟨C, 0, none⟩ (.bool m)).setCell ⟨C, 1, none⟩ s) (.agg #[.bool m, s]) y := by
  obtain ⟨m', s', ds, e, hrow, r⟩ := h
  have e' : m = m' ∧ s = s' := by simpa using e
  obtain ⟨rfl, rfl⟩ := e'
  exact ⟨m, s, ds, rfl, (hrow.stored2 hT rfl _).stored2 (hT.set0 _) rfl _, r⟩
theorem IsBig.form {W : World} {v : Value} {x : Int} (h : IsBig W v x) : ∃ m a n c, v = .agg #[.bool m, .slice a n c] := by
  obtain ⟨m, s, ds, rfl, hrow, _⟩ := h
  obtain ⟨a, c, rfl⟩ := hrow.form
  exact ⟨m, a, _, c, rfl⟩

set_option maxHeartbeats 1000000 in
theorem trim_any (m : Bool) (s : Value) (ds : List Int) (w : World) (hrow : Row w 0 s ds) (hd : Digs ds) (hl : ds.length ≤ 1000000) :
    Calls Try.prog 45 #[.agg #[.bool m, s]] w fun e w' => ∃ v, e = .returned v ∧ IsBig w' v (sg m (dval ds)) ∧ Below w.heap.size w w' := by
  rcases Nat.eq_zero_or_pos ds.length with h0 | hpos
  · obtain rfl := List.eq_nil_of_length_eq_zero h0
    obtain ⟨av, cv, rfl⟩ := hrow.form
    have hb : ∀ u v : Value, Below w.heap.size w ((w.alloc (Obj.cells #[u, v] 35)).alloc (Obj.cells #[u, v] 35)) := fun _ _ => ((Below.refl _ w).alloc (Nat.le_refl _) _).alloc (by simp) _
    have hbig : ∀ u v : Value, IsBig ((w.alloc (Obj.cells #[u, v] 35)).alloc (Obj.cells #[u, v] 35)) (.agg #[.bool false, .slice av 0 cv]) (sg m (dval [])) := fun u v =>
      ⟨false, _, [], rfl, World.ownsRow.alloc (World.ownsRow.alloc hrow _) _, digs_nil, top_nil, fun _ => rfl, by simp [dval, sg]⟩
    have HF : Hid (∀ u v : Value, _) := fun u v => And.intro (hbig u v) (hb u v)
    clear hb hbig
    rcases hrow.nil with ⟨rfl, rfl⟩ | ⟨g, rfl, hmx⟩
    all_goals
      go_enter Try.func45, Try.ntmps45
      go_wp2
      go_loop [3] (fun i => i = .int .i64 0) (fun i => (intOf i).toNat)
      case atStart => rfl
      case round =>
        obtain rfl := hrel
        go_wp2
        exact bodyPost_ret (v := .agg #[.bool false, .slice _ 0 _]) (by simp [results, Try.results45, go_sem]) rfl ⟨_, rfl, HF.out _ _⟩
  · obtain ⟨g, cap, rfl, _, hg, hcap, hmx, hcell⟩ := hrow.at hpos
    unfold maxLen at hmx
    have hT : Two (w.alloc (.cells #[.bool m, .slice (some ⟨g, 0, none⟩) ds.length cap] 35)) w.heap.size 35 (.bool m) (.slice (some ⟨g, 0, none⟩) ds.length cap) := Two.new _ _ _ _
    go_enter Try.func45, Try.ntmps45
    go_wp2
    go_loop [3] (fun i => ∃ k : Nat, k ≤ ds.length ∧ i = .int .i64 (k : Int) ∧ dval (ds.take k) = dval ds) (fun i => (intOf i).toNat)
    case atStart => exact ⟨ds.length, Nat.le_refl _, rfl, dval_take_all (Nat.le_refl _)⟩
    case round =>
      obtain ⟨k, hk, rfl, hv⟩ := hrel
      have HV : Hid (dval (ds.take k) = dval ds) := hv
      clear hv
      cases k with
      | zero =>
        have hb : ∀ u v : Value, Below w.heap.size w ((w.alloc (Obj.cells #[u, v] 35)).alloc (Obj.cells #[u, v] 35)) := fun _ _ => ((Below.refl _ w).alloc (Nat.le_refl _) _).alloc (by simp) _
        have hbig : ∀ u v : Value, IsBig ((w.alloc (Obj.cells #[u, v] 35)).alloc (Obj.cells #[u, v] 35)) (.agg #[.bool false, .slice (some ⟨g, 0, none⟩) 0 cap]) (sg m (dval ds)) := fun u v =>
          ⟨false, _, [], rfl, World.ownsRow.alloc (World.ownsRow.alloc (hrow.cut (Nat.zero_le _)) _) _, digs_nil, top_nil, fun _ => rfl, by rw [← HV.out]; simp [dval, sg]⟩
        have HF : Hid (∀ u v : Value, _) := fun u v => And.intro (hbig u v) (hb u v)
        clear hb hbig hcell
        go_wp2
        exact bodyPost_ret (v := .agg #[.bool false, .slice _ 0 _]) (by simp [results, Try.results45, go_sem]) rfl ⟨_, rfl, HF.out _ _⟩
      | succ k =>
        have hc := hcell k (by omega)
        clear hcell
        by_cases hz : ds[k]?.getD 0 = 0
        · rw [hz] at hc
          have hv' : dval (ds.take k) = dval ds := by rw [← HV.out, dval_take_succ, hz]; omega
          have HV' : Hid (dval (ds.take k) = dval ds) := hv'
          clear hv'
          go_wp2
          go_round
          case rel => exact ⟨k, by omega, rfl, HV'.out⟩
          case measure => simp [intOf]
        · have hz' : (ds[k]?.getD 0 == 0) = false := by simp [hz]
          have hb : ∀ u v : Value, Below w.heap.size w ((w.alloc (Obj.cells #[u, v] 35)).alloc (Obj.cells #[u, v] 35)) := fun _ _ => ((Below.refl _ w).alloc (Nat.le_refl _) _).alloc (by simp) _
          have hbig : ∀ u v : Value, IsBig ((w.alloc (Obj.cells #[u, v] 35)).alloc (Obj.cells #[u, v] 35)) (.agg #[.bool m, .slice (some ⟨g, 0, none⟩) (k + 1) cap]) (sg m (dval ds)) := fun u v =>
            ⟨m, _, ds.take (k + 1), rfl, World.ownsRow.alloc (World.ownsRow.alloc (hrow.cut hk) _) _, digs_take hd _, top_take (by omega) hz, fun h => by have := congrArg List.length h; rw [List.length_take, List.length_nil] at this; omega, by rw [HV.out]⟩
          have HF : Hid (∀ u v : Value, _) := fun u v => And.intro (hbig u v) (hb u v)
          clear hb hbig hz
          go_wp2
          exact bodyPost_ret (v := .agg #[.bool m, .slice _ (k + 1) _]) (by simp [results, Try.results45, go_sem]) rfl ⟨_, rfl, HF.out _ _⟩
end Go.Proofs.Ytfgpedleiajgeaa
