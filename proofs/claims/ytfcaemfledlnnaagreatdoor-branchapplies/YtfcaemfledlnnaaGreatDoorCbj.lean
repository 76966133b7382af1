/-
  What is proved here: a decision applied to a domain.
  What is proved here: what a decision leaves of a domain, by package branch.
  What is proved here: a domain in memory of its own is written over.
-/
import Derived.Test.YtfcaemfledlnnaaGreatDoorCa
import Derived.Test.YtfcaemfledlnnaaGreatDoorBjj
import Derived.Lib.MinMax
import Derived.Test.YtfcaemfledlnnaaGreatDoorKcj
namespace Go.Proofs.YtfcaemfledlnnaaGreatDoor
open Go.RowKit Go.Shelf
set_option linter.unusedVariables false
set_option linter.unusedSimpArgs false

def fitM (op : Int) (s : Bool) : Bool := knB op && (decide (4 ≤ op) == s)
/-- The values of ranges of which a decision holds. -/
def numR (l : List Dm.Rg) (op n : Int) : List Dm.Rg := if op = 0 then Dm.cutL (Dm.tk l) n n else if op = 1 then Dm.woR l n else if op = 2 then Dm.cutL (Dm.tk l) (-1000000) n else Dm.cutL (Dm.tk l) (min n 1000000 + 1) 1000000

set_option maxRecDepth 100000 in
set_option maxHeartbeats 4000000 in
theorem fits_any (op : Int) (s : Bool) (W : World) : Calls Tryz.prog 49 #[.int .i64 op, .bool s] W fun e w' => e = .returned (.bool (fitM op s)) ∧ w' = W := by
  have HM : Hid (fitM op s = (knB op && (decide (4 ≤ op) == s))) := rfl
  rw [HM.out]
  have kb := bknown_any op W
  by_cases h4 : 4 ≤ op
  · have hd : decide (4 ≤ op) = true := by simpa using h4
    cases hk : knB op <;> rw [hk] at kb <;> cases s <;>
    · go_enter Tryz.func49, Tryz.ntmps49
      go_wp2_with (go_at_call 58; refine kb.mono ?_; rintro e w1 ⟨rfl, rfl⟩)
      go_ret
      exact ⟨ret_bool (by simp [hd]), rfl⟩
  · have hd : decide (4 ≤ op) = false := by simpa using h4
    cases hk : knB op <;> rw [hk] at kb <;> cases s <;>
    · go_enter Tryz.func49, Tryz.ntmps49
      go_wp2_with (go_at_call 58; refine kb.mono ?_; rintro e w1 ⟨rfl, rfl⟩)
      go_ret
      exact ⟨ret_bool (by simp [hd]), rfl⟩

set_option maxRecDepth 100000 in
set_option maxHeartbeats 4000000 in
theorem numbers_any {W : World} {ra : Option Addr} {n0 rc : Nat} {l : List Dm.Rg} (v op n : Int) (h : Dm.Sr W (.slice ra n0 rc) l) (hf : Dm.FitsR l) (hn : Dm.Fits n) (hop : knB op = true) (h3 : op ≤ 3) :
    Calls Tryz.prog 52 #[.slice ra n0 rc, .agg #[.int .i64 v, .int .i64 op, .int .i64 n]] W fun e w' => ∃ s', e = .returned s' ∧ w'.ownsRow W.heap.size 92 2 s' (numR l op n).length (Dm.flat (numR l op n)) ∧ Below W.heap.size W w' := by
  obtain ⟨W0, hW0⟩ : ∃ Q, W.alloc (Obj.cells #[.int .i64 v, .int .i64 op, .int .i64 n] 32) = Q := ⟨_, rfl⟩
  have hb0 : Below W.heap.size W W0 := by rw [← hW0]; exact (Below.refl _ W).alloc (Nat.le_refl _) _
  have HX : Hid (Bx W0 W.heap.size #[.int .i64 v, .int .i64 op, .int .i64 n] 32) := by rw [← hW0]; exact Bx.new _ _ _
  obtain ⟨z0, z1, z2⟩ := HX.out.three
  have hS := h.below hb0
  have HW0 : Hid _ := hW0
  clear hW0 h
  unfold knB at hop
  simp only [Bool.and_eq_true, decide_eq_true_eq] at hop
  have hn1 : -9223372036854775808 ≤ n := hn.1
  have hn2 : n ≤ 9223372036854775807 := by have := hn.2; omega
  have h4 : op = 0 ∨ op = 1 ∨ op = 2 ∨ op = 3 := by omega
  clear hop h3
  rcases h4 with rfl | rfl | rfl | rfl
  ·
    have kc := Dm.domcut_any _ l n n W0 hS hf
    have HM : Hid (numR l 0 n = Dm.cutL (Dm.tk l) n n) := rfl
    rw [HM.out]
    generalize Dm.cutL (Dm.tk l) n n = r at kc ⊢
    clear HM hS
    go_enter Tryz.func52, Tryz.ntmps52
    go_upto_region 1 with (fail)
    rw [HW0.out]
    go_wp2_with fail
    refine kc.mono ?_
    rintro e w1 ⟨s', rfl, ho, hb1⟩
    obtain ⟨p', c', rfl⟩ : ∃ p c, s' = .slice p r.length c := by
      rcases ho.2 with ⟨e1, e2⟩ | ⟨g, cap, cur, e1, _⟩
      · exact ⟨none, 0, by rw [e2]; exact e1⟩
      · exact ⟨_, _, e1⟩
    have HO : Hid (w1.ownsRow W.heap.size 92 2 (.slice p' r.length c') r.length (Dm.flat r)) := own_base ho hb0.size
    clear ho
    go_wp2
    go_ret
    exact ⟨_, rfl, HO.out, hb0.trans (hb1.mono hb0.size)⟩
  ·
    have kc := Dm.domwithout_any _ l n W0 hS hf hn
    have HM : Hid (numR l 1 n = Dm.woR l n) := rfl
    rw [HM.out]
    generalize Dm.woR l n = r at kc ⊢
    clear HM hS
    go_enter Tryz.func52, Tryz.ntmps52
    go_upto_region 1 with (fail)
    rw [HW0.out]
    go_wp2_with fail
    refine kc.mono ?_
    rintro e w1 ⟨s', rfl, ho, hb1⟩
    obtain ⟨p', c', rfl⟩ : ∃ p c, s' = .slice p r.length c := by
      rcases ho.2 with ⟨e1, e2⟩ | ⟨g, cap, cur, e1, _⟩
      · exact ⟨none, 0, by rw [e2]; exact e1⟩
      · exact ⟨_, _, e1⟩
    have HO : Hid (w1.ownsRow W.heap.size 92 2 (.slice p' r.length c') r.length (Dm.flat r)) := own_base ho hb0.size
    clear ho
    go_wp2
    go_ret
    exact ⟨_, rfl, HO.out, hb0.trans (hb1.mono hb0.size)⟩
  ·
    have kc := Dm.domcut_any _ l (-1000000) n W0 hS hf
    have HM : Hid (numR l 2 n = Dm.cutL (Dm.tk l) (-1000000) n) := rfl
    rw [HM.out]
    generalize Dm.cutL (Dm.tk l) (-1000000) n = r at kc ⊢
    clear HM hS
    go_enter Tryz.func52, Tryz.ntmps52
    go_upto_region 1 with (fail)
    rw [HW0.out]
    go_wp2_with fail
    refine kc.mono ?_
    rintro e w1 ⟨s', rfl, ho, hb1⟩
    obtain ⟨p', c', rfl⟩ : ∃ p c, s' = .slice p r.length c := by
      rcases ho.2 with ⟨e1, e2⟩ | ⟨g, cap, cur, e1, _⟩
      · exact ⟨none, 0, by rw [e2]; exact e1⟩
      · exact ⟨_, _, e1⟩
    have HO : Hid (w1.ownsRow W.heap.size 92 2 (.slice p' r.length c') r.length (Dm.flat r)) := own_base ho hb0.size
    clear ho
    go_wp2
    go_ret
    exact ⟨_, rfl, HO.out, hb0.trans (hb1.mono hb0.size)⟩
  ·
    obtain ⟨mq, hmq⟩ : ∃ q, min n 1000000 = q := ⟨_, rfl⟩
    have hmq2 : mq ≤ 1000000 := by omega
    have hmq3 : -9223372036854775808 ≤ mq := by omega
    have hwm : wrap64 (mq + 1) = mq + 1 := by unfold wrap64; omega
    have hwm2 : IntKind.i64.wrap (mq + 1) = mq + 1 := by rw [IntKind.wrap_i64]; omega
    have kc := Dm.domcut_any _ l (mq + 1) 1000000 W0 hS hf
    have HM : Hid (numR l 3 n = Dm.cutL (Dm.tk l) (mq + 1) 1000000) := by rw [← hmq]; exact rfl
    rw [HM.out]
    generalize Dm.cutL (Dm.tk l) (mq + 1) 1000000 = r at kc ⊢
    clear HM hS
    go_enter Tryz.func52, Tryz.ntmps52
    go_upto_region 1 with (fail)
    rw [HW0.out]
    go_wp2_with fail
    refine kc.mono ?_
    rintro e w1 ⟨s', rfl, ho, hb1⟩
    obtain ⟨p', c', rfl⟩ : ∃ p c, s' = .slice p r.length c := by
      rcases ho.2 with ⟨e1, e2⟩ | ⟨g, cap, cur, e1, _⟩
      · exact ⟨none, 0, by rw [e2]; exact e1⟩
      · exact ⟨_, _, e1⟩
    have HO : Hid (w1.ownsRow W.heap.size 92 2 (.slice p' r.length c') r.length (Dm.flat r)) := own_base ho hb0.size
    clear ho
    go_wp2
    go_ret
    exact ⟨_, rfl, HO.out, hb0.trans (hb1.mono hb0.size)⟩
end Go.Proofs.YtfcaemfledlnnaaGreatDoor

namespace Go.Proofs.YtfcaemfledlnnaaGreatDoor
open Go.RowKit Go.Shelf
set_option linter.unusedVariables false
set_option linter.unusedSimpArgs false

def dZ : MD := ⟨false, [], [], [], 0, 0⟩
def ofSD (s : St.SD) : MD := ⟨s.set, [], s.lo, s.up, s.least, s.most⟩
/-- What is left, and the error. -/
def resM (d : MD) (op n : Int) : MD × Int := if rightM d = false then (dZ, 20) else if fitM op d.set = false then (dZ, 1) else if op = 4 then (ofSD (St.mustD (sdM d) n), 0) else if op = 5 then (ofSD (St.notD (sdM d) n), 0) else (⟨false, numR d.r op n, [], [], 0, 0⟩, 0)
theorem Kept.mono {X Y : Nat → Prop} {w w' : World} (h : Kept X w w') (hXY : ∀ b, X b → Y b) : Kept Y w w' := ⟨h.os, h.tape, h.output, h.size, fun b hb hY => h.block b hb (fun q => hY (hXY b q))⟩
theorem dZ_dc (Z : Nat → Prop) (w : World) : Dc Z w [.bool false, .slice none 0 0, .slice none 0 0, .slice none 0 0, .int .i64 0, .int .i64 0] dZ := ⟨none, 0, none, 0, none, 0, rfl, ⟨none, 0, rfl, fun h0 => absurd h0 (by simp [dZ])⟩, Nm.empty _ _, Nm.empty _ _⟩
theorem dZ_own (B : Nat) (w : World) : OwnD B w [.bool false, .slice none 0 0, .slice none 0 0, .slice none 0 0, .int .i64 0, .int .i64 0] := ⟨_, _, _, _, _, _, _, _, _, _, _, _, rfl, WrS.nil _ _ _, WrS.nil _ _ _, WrS.nil _ _ _⟩
theorem OwnD.row {B g : Nat} {w : World} {q : List Value} (h : OwnD B w q) {old : Array Value} {t : TypeId} (hg : Bx w g old t) (c : Array Value) (hne : ∀ k p n cc, WrS B k w (.slice p n cc) → WrS B k (w.setRow g c) (.slice p n cc)) : OwnD B (w.setRow g c) q := by
  obtain ⟨b, p0, n0, k0, p1, n1, k1, p2, n2, k2, x, y, e, h0, h1, h2⟩ := h
  exact ⟨b, p0, n0, k0, p1, n1, k1, p2, n2, k2, x, y, e, hne _ _ _ _ h0, hne _ _ _ _ h1, hne _ _ _ _ h2⟩
/-- A row of which no slice of numbers or ranges is a part is written. -/
theorem WrS.row {B k g : Nat} {w : World} {s : Value} (h : WrS B k w s) (hB : g < B) (c : Array Value) : WrS B k (w.setRow g c) s := by
  obtain ⟨a, n, cc, e, hmx, h⟩ := h
  refine ⟨a, n, cc, e, hmx, fun h0 => ?_⟩
  obtain ⟨g', cur, t, e1, e2, e3, e4⟩ := h h0
  exact ⟨g', cur, t, e1, e2, (setRow_other w g g' c (by omega)).trans e3, e4⟩
theorem OwnD.setRow {B g : Nat} {w : World} {q : List Value} (h : OwnD B w q) (hB : g < B) (c : Array Value) : OwnD B (w.setRow g c) q := by
  obtain ⟨b, p0, n0, k0, p1, n1, k1, p2, n2, k2, x, y, e, h0, h1, h2⟩ := h
  exact ⟨b, p0, n0, k0, p1, n1, k1, p2, n2, k2, x, y, e, h0.row hB c, h1.row hB c, h2.row hB c⟩
theorem OwnD.less {B B' : Nat} {w : World} {q : List Value} (h : OwnD B w q) (hB : B' ≤ B) : OwnD B' w q := by
  obtain ⟨b, p0, n0, k0, p1, n1, k1, p2, n2, k2, x, y, e, h0, h1, h2⟩ := h
  have f : ∀ k s, WrS B k w s → WrS B' k w s := fun k s h => by
    obtain ⟨a, n, cc, e, hmx, h⟩ := h
    refine ⟨a, n, cc, e, hmx, fun h0 => ?_⟩
    obtain ⟨g', cur, t, e1, e2, e3, e4⟩ := h h0
    exact ⟨g', cur, t, e1, by omega, e3, e4⟩
  exact ⟨b, p0, n0, k0, p1, n1, k1, p2, n2, k2, x, y, e, f _ _ h0, f _ _ h1, f _ _ h2⟩
theorem OwnD.below {B : Nat} {w w' : World} {q : List Value} (h : OwnD B w q) (hb : Below w.heap.size w w') : OwnD B w' q := by
  obtain ⟨b, p0, n0, k0, p1, n1, k1, p2, n2, k2, x, y, e, h0, h1, h2⟩ := h
  exact ⟨b, p0, n0, k0, p1, n1, k1, p2, n2, k2, x, y, e, h0.below hb, h1.below hb, h2.below hb⟩
/-- What is asked of a domain that is answered. -/
structure Ans (B : Nat) (w : World) (q : List Value) (d : MD) : Prop where
  own : OwnD B w q
  dc : ∀ Z : Nat → Prop, (∀ b, Z b → b < B) → Dc Z w q d
theorem Ans.one {B : Nat} {w : World} {q : List Value} {d : MD} (h : Ans B w q d) : q.length = 6 ∧ (∀ v ∈ q, v.oneCell' = true) := ⟨(h.dc (fun _ => False) (fun _ h => h.elim)).len, (h.dc (fun _ => False) (fun _ h => h.elim)).one⟩
theorem Ans.setRow {B g : Nat} {w : World} {q : List Value} {d : MD} (h : Ans B w q d) (hB : g < B) (c : Array Value) : Ans B (w.setRow g c) q d :=
  ⟨h.own.setRow hB c, fun Z hZ => (h.dc (fun b => Z b ∨ b = g) (fun b hb => by rcases hb with hb | hb; exact hZ b hb; omega)).go (X' := Z) (Kept.mono (X := fun b => b = g) ⟨rfl, rfl, rfl, by simp [World.setRow], fun b _ hb => setRow_other w g b c hb⟩ (fun b hb => .inr hb)) (fun b hb => .inl (.inl hb))⟩
theorem Ans.less {B B' : Nat} {w : World} {q : List Value} {d : MD} (h : Ans B w q d) (hB : B' ≤ B) : Ans B' w q d := ⟨h.own.less hB, fun Z hZ => h.dc Z (fun b hb => Nat.lt_of_lt_of_le (hZ b hb) hB)⟩
theorem Ans.below {B : Nat} {w w' : World} {q : List Value} {d : MD} (h : Ans B w q d) (hb : Below w.heap.size w w') : Ans B w' q d := ⟨h.own.below hb, fun Z hZ => (h.dc Z hZ).below hb⟩
theorem dZ_ans (B : Nat) (w : World) : Ans B w [.bool false, .slice none 0 0, .slice none 0 0, .slice none 0 0, .int .i64 0, .int .i64 0] dZ := ⟨dZ_own B w, fun Z _ => dZ_dc Z w⟩
theorem dv_ans {B : Nat} {w : World} {v : Value} {s : St.SD} (h : St.Dv B w v s) : ∃ q : List Value, v = .agg q.toArray ∧ Ans B w q (ofSD s) := by
  obtain ⟨q, e, h1, h2⟩ := dv_own h
  exact ⟨q, e, h1, h2⟩
theorem rng_ans {B : Nat} {w : World} {p : Option Addr} {c : Nat} {r : List Dm.Rg} (h : w.ownsRow B 92 2 (.slice p r.length c) r.length (Dm.flat r)) : Ans B w [.bool false, .slice p r.length c, .slice none 0 0, .slice none 0 0, .int .i64 0, .int .i64 0] ⟨false, r, [], [], 0, 0⟩ :=
  ⟨⟨_, _, _, _, _, _, _, _, _, _, _, _, rfl, WrS.own h, WrS.nil _ _ _, WrS.nil _ _ _⟩, fun Z hZ => ⟨p, c, none, 0, none, 0, rfl, rm_own h hZ, Nm.empty _ _, Nm.empty _ _⟩⟩
theorem list6 {q : List Value} (h : q.length = 6) : ∃ c0 c1 c2 c3 c4 c5, q = [c0, c1, c2, c3, c4, c5] := by
  match q, h with
  | [c0, c1, c2, c3, c4, c5], _ => exact ⟨c0, c1, c2, c3, c4, c5, rfl⟩
theorem mono_kept : True := trivial

set_option maxRecDepth 100000 in
set_option maxHeartbeats 4000000 in
theorem apply_any {X : Nat → Prop} {W : World} {c : List Value} {d : MD} (v op n : Int) (h : Dc X W c d) (hf : Dm.FitsR d.r) (hn : Dm.Fits n) :
    Calls Tryz.prog 20 #[.agg c.toArray, .agg #[.int .i64 v, .int .i64 op, .int .i64 n]] W fun e w' => ∃ q : List Value, e = .returned (.tuple #[.agg q.toArray, .int .i64 (resM d op n).2]) ∧ Ans W.heap.size w' q (resM d op n).1 ∧ Below W.heap.size W w' := by
  obtain ⟨N, hN⟩ : ∃ N, W.heap.size = N := ⟨_, rfl⟩
  have hlen := h.len
  have hone := h.one
  obtain ⟨c0, c1, c2, c3, c4, c5, rfl⟩ := list6 hlen
  obtain ⟨W0, hW0⟩ : ∃ Q, ((W.alloc (Obj.cells #[c0, c1, c2, c3, c4, c5] 50)).alloc (Obj.cells #[.int .i64 v, .int .i64 op, .int .i64 n] 32)).alloc (Obj.cells #[.bool false, .slice none 0 0, .slice none 0 0, .slice none 0 0, .int .i64 0, .int .i64 0] 50) = Q := ⟨_, rfl⟩
  have hb0 : Below W.heap.size W W0 := by rw [← hW0]; exact (((Below.refl _ W).alloc (Nat.le_refl _) _).alloc (by simp) _).alloc (by simp; omega) _
  have HX : Hid (Bx W0 N #[c0, c1, c2, c3, c4, c5] 50) := by rw [← hW0]; exact ((Bx.new' hN _ _).alloc _).alloc _
  have HD : Hid (Bx W0 (N + 1) #[.int .i64 v, .int .i64 op, .int .i64 n] 32) := by rw [← hW0]; exact (Bx.new' (by simp [hN]) _ _).alloc _
  have HR : Hid (Bx W0 (N + 1 + 1) #[.bool false, .slice none 0 0, .slice none 0 0, .slice none 0 0, .int .i64 0, .int .i64 0] 50) := by rw [← hW0]; exact Bx.new' (by simp [hN]) _ _
  have HS0 : Hid (W0.heap.size = N + 3) := by unfold Hid; rw [← hW0]; simp [hN]
  have HB0 : Hid (Below W.heap.size W W0) := hb0
  have HC : Hid (∀ w, Below W0.heap.size W0 w → Dc X w [c0, c1, c2, c3, c4, c5] d) := fun w hb => (h.below hb0).below hb
  have HW0 : Hid _ := hW0
  have HN : Hid (W.heap.size = N) := hN
  have HSET : Hid (c0 = .bool d.set) := by obtain ⟨_, _, _, _, _, _, e, _⟩ := h; injection e
  have kr := right_d (h.below hb0) hf
  have KF : Hid (∀ w, Calls Tryz.prog 49 #[.int .i64 op, .bool d.set] w fun e w' => e = .returned (.bool (fitM op d.set)) ∧ w' = w) := fun w => fits_any op d.set w
  have HMU : Hid (∀ w, Below W0.heap.size W0 w → Calls Tryz.prog 50 #[.agg #[c0, c1, c2, c3, c4, c5], .int .i64 n] w fun e w' => ∃ v', e = .returned v' ∧ St.Dv w.heap.size w' v' (St.mustD (sdM d) n) ∧ Below w.heap.size w w') := fun w hb => St.must_any _ _ n w (HC.out w hb).di
  have HNO : Hid (∀ w, Below W0.heap.size W0 w → Calls Tryz.prog 51 #[.agg #[c0, c1, c2, c3, c4, c5], .int .i64 n] w fun e w' => ∃ v', e = .returned v' ∧ St.Dv w.heap.size w' v' (St.notD (sdM d) n) ∧ Below w.heap.size w w') := fun w hb => St.not_any _ _ n w (HC.out w hb).di
  obtain ⟨ra, n0, rc, rfl⟩ : ∃ ra n0 rc, c1 = .slice ra n0 rc := by obtain ⟨ra, rc, _, _, _, _, e, _⟩ := h; injection e with _ e; injection e with e _; exact ⟨_, _, _, e⟩
  have HNU : Hid (knB op = true → op ≤ 3 → ∀ w, Below W0.heap.size W0 w → Calls Tryz.prog 52 #[.slice ra n0 rc, .agg #[.int .i64 v, .int .i64 op, .int .i64 n]] w fun e w' => ∃ s', e = .returned s' ∧ w'.ownsRow w.heap.size 92 2 s' (numR d.r op n).length (Dm.flat (numR d.r op n)) ∧ Below w.heap.size w w') := fun q1 q2 w hb => by
    have hd := HC.out w hb
    obtain ⟨ra', rc', _, _, _, _, e, hr, _⟩ := hd
    injection e with _ e
    injection e with e _
    rw [e]
    exact numbers_any v op n hr.sr hf hn q1 q2
  have HMM : Hid (resM d op n = if rightM d = false then (dZ, 20) else if fitM op d.set = false then (dZ, 1) else if op = 4 then (ofSD (St.mustD (sdM d) n), 0) else if op = 5 then (ofSD (St.notD (sdM d) n), 0) else (⟨false, numR d.r op n, [], [], 0, 0⟩, 0)) := rfl
  obtain ⟨ob, hob⟩ : ∃ b, d.set = b := ⟨_, rfl⟩
  have HOB : Hid (d.set = ob) := hob
  rw [hob] at HSET KF
  have hc0 := HSET.out
  subst hc0
  clear h hf hn hW0 hb0 hlen hob
  obtain ⟨z0, z1, z2, z3, z4, z5⟩ := HX.out.six
  rw [hN]
  cases hR : rightM d
  · rw [hR] at kr
    have HM : Hid (resM d op n = (dZ, 20)) := by unfold Hid; rw [HMM.out, if_pos hR]
    rw [HM.out]
    go_enter Tryz.func20, Tryz.ntmps20
    go_upto_region 1 with (fail)
    rw [HW0.out]
    clear hN
    go_wp2_with fail
    refine kr.mono ?_
    rintro e w1 ⟨rfl, hb1⟩
    have HRx : Hid (Bx w1 (N + 1 + 1) _ _) := HR.out.below hb1
    have hsz : N + 3 ≤ w1.heap.size := by have := hb1.size; have := HS0.out; omega
    have HANS : Hid (Ans w1.heap.size w1 [.bool false, .slice none 0 0, .slice none 0 0, .slice none 0 0, .int .i64 0, .int .i64 0] dZ) := dZ_ans _ _
    have HBL : Hid (Below N W w1) := by rw [← HN.out]; exact HB0.out.trans (hb1.mono HB0.out.size)
    go_wp2_with (with_reducible refine stD rfl (.tmp 4) (.tmp 10) rfl (N + 1 + 1) [.bool false, .slice none 0 0, .slice none 0 0, .slice none 0 0, .int .i64 0, .int .i64 0] (by with_unfolding_all rfl) (by with_unfolding_all rfl) HRx.out rfl HANS.out.one.1 HANS.out.one.2 ?_)
    refine ⟨rfl, _, res_ct rfl _ (HRx.out.setRow _) (by with_unfolding_all rfl) rfl Tryz.underlying50 (by rw [Tryz.sizeDom]; first | rfl | (have := HANS.out.one.1; simp at this ⊢; omega)) (v := .int .i64 20) (by with_unfolding_all rfl), [.bool false, .slice none 0 0, .slice none 0 0, .slice none 0 0, .int .i64 0, .int .i64 0], rfl, (HANS.out.setRow (by omega) _).less (by omega), ?_⟩
    exact below_row HBL.out (by omega) _
  · rw [hR] at kr
    have hR' : ¬ rightM d = false := by rw [hR]; decide
    obtain ⟨y0, y1, y2⟩ := HD.out.three
    cases hF : fitM op ob
    · have HM : Hid (resM d op n = (dZ, 1)) := by unfold Hid; rw [HMM.out, if_neg hR', if_pos (by rw [HOB.out]; exact hF)]
      rw [HM.out]
      rw [hF] at KF
      go_enter Tryz.func20, Tryz.ntmps20
      go_upto_region 1 with (fail)
      rw [HW0.out]
      clear hN
      go_wp2_with fail
      refine kr.mono ?_
      rintro e w1 ⟨rfl, hb1⟩
      have HRx : Hid (Bx w1 (N + 1 + 1) _ _) := HR.out.below hb1
      have hsz : N + 3 ≤ w1.heap.size := by have := hb1.size; have := HS0.out; omega
      have HANS : Hid (Ans w1.heap.size w1 [.bool false, .slice none 0 0, .slice none 0 0, .slice none 0 0, .int .i64 0, .int .i64 0] dZ) := dZ_ans _ _
      have HBL : Hid (Below N W w1) := by rw [← HN.out]; exact HB0.out.trans (hb1.mono HB0.out.size)
      clear z0 z1 z2 z3 z4 z5 y0 y1 y2
      obtain ⟨z0, z1, z2, z3, z4, z5⟩ := (HX.out.below hb1).six
      obtain ⟨y0, y1, y2⟩ := (HD.out.below hb1).three
      go_wp2_with fail
      refine (KF.out w1).mono ?_
      rintro e wt ⟨rfl, hwt⟩
      rw [hwt]
      clear hwt wt
      go_wp2_with (with_reducible refine stD rfl (.tmp 4) (.tmp 18) rfl (N + 1 + 1) [.bool false, .slice none 0 0, .slice none 0 0, .slice none 0 0, .int .i64 0, .int .i64 0] (by with_unfolding_all rfl) (by with_unfolding_all rfl) HRx.out rfl HANS.out.one.1 HANS.out.one.2 ?_)
      refine ⟨rfl, _, res_ct rfl _ (HRx.out.setRow _) (by with_unfolding_all rfl) rfl Tryz.underlying50 (by rw [Tryz.sizeDom]; first | rfl | (have := HANS.out.one.1; simp at this ⊢; omega)) (v := .int .i64 1) (by with_unfolding_all rfl), [.bool false, .slice none 0 0, .slice none 0 0, .slice none 0 0, .int .i64 0, .int .i64 0], rfl, (HANS.out.setRow (by omega) _).less (by omega), ?_⟩
      exact below_row HBL.out (by omega) _
    · rw [hF] at KF
      have hF2 := hF
      unfold fitM at hF2
      simp only [Bool.and_eq_true, beq_iff_eq] at hF2
      obtain ⟨hK, h4b⟩ := hF2
      have hF' : ¬ fitM op d.set = false := by rw [HOB.out, hF]; decide
      have hK2 := hK
      unfold knB at hK2
      simp only [Bool.and_eq_true, decide_eq_true_eq] at hK2
      have START : True := trivial
      by_cases h4 : op = 4
      · subst h4
        have HM : Hid (resM d 4 n = (ofSD (St.mustD (sdM d) n), 0)) := by unfold Hid; rw [HMM.out, if_neg hR', if_neg hF', if_pos rfl]
        rw [HM.out]
        go_enter Tryz.func20, Tryz.ntmps20
        go_upto_region 1 with (fail)
        rw [HW0.out]
        clear hN
        go_wp2_with fail
        refine kr.mono ?_
        rintro e w1 ⟨rfl, hb1⟩
        clear z0 z1 z2 z3 z4 z5 y0 y1 y2
        obtain ⟨z0, z1, z2, z3, z4, z5⟩ := (HX.out.below hb1).six
        obtain ⟨y0, y1, y2⟩ := (HD.out.below hb1).three
        go_wp2_with fail
        refine (KF.out w1).mono ?_
        rintro e wt ⟨rfl, hwt⟩
        rw [hwt]
        clear hwt wt
        go_wp2_with fail
        refine (HMU.out w1 hb1).mono ?_
        rintro e w2 ⟨v', rfl, hv', hb2⟩
        obtain ⟨q, rfl, hans⟩ := dv_ans hv'
        have hq6 := hans.one.1
        obtain ⟨q0, q1, q2, q3, q4, q5, rfl⟩ := list6 hq6
        have HANS0 : Hid (Ans w1.heap.size w2 [q0, q1, q2, q3, q4, q5] _) := hans
        clear hv' hans hq6
        have HRx : Hid (Bx w2 (N + 1 + 1) _ _) := (HR.out.below hb1).below hb2
        have hsz : N + 3 ≤ w1.heap.size := by have := hb1.size; have := HS0.out; omega
        have HANS : Hid (Ans w1.heap.size w2 [q0, q1, q2, q3, q4, q5] _) := HANS0.out
        have HBL : Hid (Below N W w2) := by rw [← HN.out]; exact HB0.out.trans ((hb1.trans (hb2.mono hb1.size)).mono HB0.out.size)
        go_wp2_with (with_reducible refine stD rfl (.tmp 4) (.tmp 26) rfl (N + 1 + 1) [q0, q1, q2, q3, q4, q5] (by with_unfolding_all rfl) (by with_unfolding_all rfl) HRx.out rfl HANS.out.one.1 HANS.out.one.2 ?_)
        refine ⟨rfl, _, res_ct rfl _ (HRx.out.setRow _) (by with_unfolding_all rfl) rfl Tryz.underlying50 (by rw [Tryz.sizeDom]; first | rfl | (have := HANS.out.one.1; simp at this ⊢; omega)) (v := .int .i64 0) (by with_unfolding_all rfl), [q0, q1, q2, q3, q4, q5], rfl, (HANS.out.setRow (by omega) _).less (by omega), ?_⟩
        exact below_row HBL.out (by omega) _

      · by_cases h5 : op = 5
        · subst h5
          have HM : Hid (resM d 5 n = (ofSD (St.notD (sdM d) n), 0)) := by unfold Hid; rw [HMM.out, if_neg hR', if_neg hF', if_neg h4, if_pos rfl]
          rw [HM.out]
          go_enter Tryz.func20, Tryz.ntmps20
          go_upto_region 1 with (fail)
          rw [HW0.out]
          clear hN
          go_wp2_with fail
          refine kr.mono ?_
          rintro e w1 ⟨rfl, hb1⟩
          clear z0 z1 z2 z3 z4 z5 y0 y1 y2
          obtain ⟨z0, z1, z2, z3, z4, z5⟩ := (HX.out.below hb1).six
          obtain ⟨y0, y1, y2⟩ := (HD.out.below hb1).three
          go_wp2_with fail
          refine (KF.out w1).mono ?_
          rintro e wt ⟨rfl, hwt⟩
          rw [hwt]
          clear hwt wt
          go_wp2_with fail
          refine (HNO.out w1 hb1).mono ?_
          rintro e w2 ⟨v', rfl, hv', hb2⟩
          obtain ⟨q, rfl, hans⟩ := dv_ans hv'
          have hq6 := hans.one.1
          obtain ⟨q0, q1, q2, q3, q4, q5, rfl⟩ := list6 hq6
          have HANS0 : Hid (Ans w1.heap.size w2 [q0, q1, q2, q3, q4, q5] _) := hans
          clear hv' hans hq6
          have HRx : Hid (Bx w2 (N + 1 + 1) _ _) := (HR.out.below hb1).below hb2
          have hsz : N + 3 ≤ w1.heap.size := by have := hb1.size; have := HS0.out; omega
          have HANS : Hid (Ans w1.heap.size w2 [q0, q1, q2, q3, q4, q5] _) := HANS0.out
          have HBL : Hid (Below N W w2) := by rw [← HN.out]; exact HB0.out.trans ((hb1.trans (hb2.mono hb1.size)).mono HB0.out.size)
          go_wp2_with (with_reducible refine stD rfl (.tmp 4) (.tmp 32) rfl (N + 1 + 1) [q0, q1, q2, q3, q4, q5] (by with_unfolding_all rfl) (by with_unfolding_all rfl) HRx.out rfl HANS.out.one.1 HANS.out.one.2 ?_)
          refine ⟨rfl, _, res_ct rfl _ (HRx.out.setRow _) (by with_unfolding_all rfl) rfl Tryz.underlying50 (by rw [Tryz.sizeDom]; first | rfl | (have := HANS.out.one.1; simp at this ⊢; omega)) (v := .int .i64 0) (by with_unfolding_all rfl), [q0, q1, q2, q3, q4, q5], rfl, (HANS.out.setRow (by omega) _).less (by omega), ?_⟩
          exact below_row HBL.out (by omega) _

        · have HM : Hid (resM d op n = (⟨false, numR d.r op n, [], [], 0, 0⟩, 0)) := by unfold Hid; rw [HMM.out, if_neg hR', if_neg hF', if_neg h4, if_neg h5]
          have e4 : (op == 4) = false := by simpa using h4
          have e5 : (op == 5) = false := by simpa using h5
          have KN := HNU.out hK (by omega)
          have HKN : Hid _ := KN
          clear KN HNU
          rw [HM.out]
          go_enter Tryz.func20, Tryz.ntmps20
          go_upto_region 1 with (fail)
          rw [HW0.out]
          clear hN
          go_wp2_with fail
          refine kr.mono ?_
          rintro e w1 ⟨rfl, hb1⟩
          clear z0 z1 z2 z3 z4 z5 y0 y1 y2
          obtain ⟨z0, z1, z2, z3, z4, z5⟩ := (HX.out.below hb1).six
          obtain ⟨y0, y1, y2⟩ := (HD.out.below hb1).three
          go_wp2_with fail
          refine (KF.out w1).mono ?_
          rintro e wt ⟨rfl, hwt⟩
          rw [hwt]
          clear hwt wt
          go_wp2_with fail
          refine (HKN.out w1 hb1).mono ?_
          rintro e w2 ⟨s', rfl, ho, hb2⟩
          obtain ⟨p', c', rfl⟩ : ∃ p c, s' = .slice p (numR d.r op n).length c := by
            rcases ho.2 with ⟨e1, e2⟩ | ⟨g, cap, cur, e1, _⟩
            · exact ⟨none, 0, by rw [e2]; exact e1⟩
            · exact ⟨_, _, e1⟩
          have HANS0 : Hid (Ans w1.heap.size w2 [.bool false, .slice p' (numR d.r op n).length c', .slice none 0 0, .slice none 0 0, .int .i64 0, .int .i64 0] _) := rng_ans ho
          clear ho
          have HRx : Hid (Bx w2 (N + 1 + 1) _ _) := (HR.out.below hb1).below hb2
          have hsz : N + 3 ≤ w1.heap.size := by have := hb1.size; have := HS0.out; omega
          have HANS : Hid (Ans w1.heap.size w2 [.bool false, .slice p' (numR d.r op n).length c', .slice none 0 0, .slice none 0 0, .int .i64 0, .int .i64 0] _) := HANS0.out
          have HBL : Hid (Below N W w2) := by rw [← HN.out]; exact HB0.out.trans ((hb1.trans (hb2.mono hb1.size)).mono HB0.out.size)
          go_wp2_with (with_reducible refine stD rfl (.tmp 4) (.tmp 37) rfl (N + 1 + 1) [.bool false, .slice p' (numR d.r op n).length c', .slice none 0 0, .slice none 0 0, .int .i64 0, .int .i64 0] (by with_unfolding_all rfl) (by with_unfolding_all rfl) HRx.out rfl HANS.out.one.1 HANS.out.one.2 ?_)
          refine ⟨rfl, _, res_ct rfl _ (HRx.out.setRow _) (by with_unfolding_all rfl) rfl Tryz.underlying50 (by rw [Tryz.sizeDom]; first | rfl | (have := HANS.out.one.1; simp at this ⊢; omega)) (v := .int .i64 0) (by with_unfolding_all rfl), [.bool false, .slice p' (numR d.r op n).length c', .slice none 0 0, .slice none 0 0, .int .i64 0, .int .i64 0], rfl, (HANS.out.setRow (by omega) _).less (by omega), ?_⟩
          exact below_row HBL.out (by omega) _

end Go.Proofs.YtfcaemfledlnnaaGreatDoor

namespace Go.Proofs.YtfcaemfledlnnaaGreatDoor
open Go.RowKit Go.Shelf
set_option linter.unusedVariables false
set_option linter.unusedSimpArgs false

theorem WrS.look {B k : Nat} {w : World} {p : Option Addr} {n c : Nat} (h : WrS B k w (.slice p n c)) : n ≤ 9223372036854775807 ∧ (0 < n → ∃ g cur t, p = some ⟨g, 0, none⟩ ∧ B ≤ g ∧ w.heap[g]? = some (.cells cur t (0, 0)) ∧ n * k ≤ cur.size) := by
  obtain ⟨a, n', c', e, hm, h⟩ := h
  injection e with e1 e2 e3
  subst e1 e2 e3
  exact ⟨hm, h⟩

set_option maxRecDepth 100000 in
set_option maxHeartbeats 4000000 in
theorem spoil_own {W : World} {B : Nat} {q : List Value} (h : OwnD B W q) (hB : B ≤ W.heap.size) : Calls Tryz.prog 29 #[.agg q.toArray] W fun e w' => (∃ r, e = .returned r) ∧ Below B W w' := by
  obtain ⟨b, p0, n0, k0, p1, n1, k1, p2, n2, k2, x, y, rfl, h0, h1, h2⟩ := h
  obtain ⟨N, hN⟩ : ∃ N, W.heap.size = N := ⟨_, rfl⟩
  obtain ⟨W0, hW0⟩ : ∃ Q, W.alloc (Obj.cells #[.bool b, .slice p0 n0 k0, .slice p1 n1 k1, .slice p2 n2 k2, .int .i64 x, .int .i64 y] 50) = Q := ⟨_, rfl⟩
  have hb0 : Below W.heap.size W W0 := by rw [← hW0]; exact (Below.refl _ W).alloc (Nat.le_refl _) _
  have HX : Hid (Bx W0 N #[.bool b, .slice p0 n0 k0, .slice p1 n1 k1, .slice p2 n2 k2, .int .i64 x, .int .i64 y] 50) := by rw [← hW0]; exact Bx.new' hN _ _
  have HBL : Hid (Below B W W0) := hb0.mono hB
  have HWS : Hid (WrS B 2 W0 (.slice p0 n0 k0) ∧ WrS B 1 W0 (.slice p1 n1 k1) ∧ WrS B 1 W0 (.slice p2 n2 k2)) := ⟨h0.below hb0, h1.below hb0, h2.below hb0⟩
  have hm0 := h0.look.1
  have hm1 := h1.look.1
  have hm2 := h2.look.1
  have HL0 : Hid (0 < n0 → ∃ g, p0 = some ⟨g, 0, none⟩ ∧ g < N) := fun h => by obtain ⟨g, cur, tt, e, _, hc, _⟩ := h0.look.2 h; exact ⟨g, e, by rw [← hN]; exact (Array.getElem?_eq_some_iff.1 hc).1⟩
  have HL1 : Hid (0 < n1 → ∃ g, p1 = some ⟨g, 0, none⟩ ∧ g < N) := fun h => by obtain ⟨g, cur, tt, e, _, hc, _⟩ := h1.look.2 h; exact ⟨g, e, by rw [← hN]; exact (Array.getElem?_eq_some_iff.1 hc).1⟩
  have HL2 : Hid (0 < n2 → ∃ g, p2 = some ⟨g, 0, none⟩ ∧ g < N) := fun h => by obtain ⟨g, cur, tt, e, _, hc, _⟩ := h2.look.2 h; exact ⟨g, e, by rw [← hN]; exact (Array.getElem?_eq_some_iff.1 hc).1⟩
  have HW0 : Hid _ := hW0
  clear hW0 hb0 h0 h1 h2
  go_enter Tryz.func29, Tryz.ntmps29
  go_wp2
  rw [HW0.out]
  (try rw [hN])
  clear hN HW0
  go_loopw [2] (fun i wr => ∃ k : Nat, i = .int .i64 (k : Int) ∧ k ≤ n0 ∧ Hid (Bx wr N #[.bool b, .slice p0 n0 k0, .slice p1 n1 k1, .slice p2 n2 k2, .int .i64 x, .int .i64 y] 50) ∧ Hid (Below B W wr) ∧ Hid (WrS B 2 wr (.slice p0 n0 k0) ∧ WrS B 1 wr (.slice p1 n1 k1) ∧ WrS B 1 wr (.slice p2 n2 k2))) (fun i _ => n0 - (intOf i).toNat)
  case atStart => exact ⟨0, rfl, Nat.zero_le _, HX, HBL, HWS⟩
  case round =>
    obtain ⟨k, rfl, hk, HXr, HBr, HWr⟩ := hrel
    obtain ⟨z0, z1, z2, z3, z4, z5⟩ := HXr.out.six
    by_cases hlt : k < n0
    · have hlt' : (k : Int) < (n0 : Int) := by omega
      have hwk : IntKind.i64.wrap ((k : Int) + 1) = (k : Int) + 1 := by rw [IntKind.wrap_i64]; omega
      obtain ⟨g, cur, tt, rfl, hBg, hcur, hsz⟩ := HWr.out.1.look.2 (by omega)
      have hin : k * 2 < cur.size := by omega
      have hc : wr.cell? ⟨g, k * 2, none⟩ = some cur[k * 2] := by rw [cell_of_row wr g (k * 2) cur _ _ hcur]; exact Array.getElem?_eq_getElem hin
      have hfz : wr.frozen? ⟨g, k * 2, none⟩ = false := by simp [World.frozen?, hcur]
      have hgN : N ≠ g := by
        obtain ⟨g', e', hg'⟩ := HL0.out (by omega)
        injection e' with e'
        injection e' with e1 _
        omega
      generalize cur[k * 2] = old at hc
      have HBg : Hid (B ≤ g) := hBg
      clear hcur hsz hin hBg
      go_wp2
      go_roundw
      case rel => exact ⟨k + 1, by go_num, by omega, HXr.out.other hgN _ _, HBr.out.setCell (p := ⟨g, _, none⟩) HBg.out _, HWr.out.1.set _ _ _, HWr.out.2.1.set _ _ _, HWr.out.2.2.set _ _ _⟩
      case measure => simp [intOf]; omega
    · have hlt' : ¬ (k : Int) < (n0 : Int) := by omega
      clear HX HBL HWS
      have HX : Hid _ := HXr
      have HBL : Hid (Below B W wr) := HBr.out
      have HWS : Hid _ := HWr
      go_wp2
      obtain ⟨w8, hw8⟩ : ∃ q, wr = q := ⟨_, rfl⟩
      rw [hw8] at HX HBL HWS ⊢
      clear hw8 HXr HBr HWr hlt hlt' hk z0 z1 z2 z3 z4 z5
      go_loopw [3] (fun i wr => ∃ k : Nat, i = .int .i64 (k : Int) ∧ k ≤ n1 ∧ Hid (Bx wr N #[.bool b, .slice p0 n0 k0, .slice p1 n1 k1, .slice p2 n2 k2, .int .i64 x, .int .i64 y] 50) ∧ Hid (Below B W wr) ∧ Hid (WrS B 2 wr (.slice p0 n0 k0) ∧ WrS B 1 wr (.slice p1 n1 k1) ∧ WrS B 1 wr (.slice p2 n2 k2))) (fun i _ => n1 - (intOf i).toNat)
      case atStart => exact ⟨0, rfl, Nat.zero_le _, HX, HBL, HWS⟩
      case round =>
        obtain ⟨k, rfl, hk, HXr, HBr, HWr⟩ := hrel
        obtain ⟨z0, z1, z2, z3, z4, z5⟩ := HXr.out.six
        by_cases hlt : k < n1
        · have hlt' : (k : Int) < (n1 : Int) := by omega
          have hwk : IntKind.i64.wrap ((k : Int) + 1) = (k : Int) + 1 := by rw [IntKind.wrap_i64]; omega
          obtain ⟨g, cur, tt, rfl, hBg, hcur, hsz⟩ := HWr.out.2.1.look.2 (by omega)
          have hin : k < cur.size := by omega
          have hc : wr.cell? ⟨g, k, none⟩ = some cur[k] := by rw [cell_of_row wr g (k) cur _ _ hcur]; exact Array.getElem?_eq_getElem hin
          have hfz : wr.frozen? ⟨g, k, none⟩ = false := by simp [World.frozen?, hcur]
          have hgN : N ≠ g := by
            obtain ⟨g', e', hg'⟩ := HL1.out (by omega)
            injection e' with e'
            injection e' with e1 _
            omega
          generalize cur[k] = old at hc
          have HBg : Hid (B ≤ g) := hBg
          clear hcur hsz hin hBg
          go_wp2
          go_roundw
          case rel => exact ⟨k + 1, by go_num, by omega, HXr.out.other hgN _ _, HBr.out.setCell (p := ⟨g, _, none⟩) HBg.out _, HWr.out.1.set _ _ _, HWr.out.2.1.set _ _ _, HWr.out.2.2.set _ _ _⟩
          case measure => simp [intOf]; omega
        · have hlt' : ¬ (k : Int) < (n1 : Int) := by omega
          clear HX HBL HWS
          have HX : Hid _ := HXr
          have HBL : Hid (Below B W wr) := HBr.out
          have HWS : Hid _ := HWr
          go_wp2
          obtain ⟨w9, hw9⟩ : ∃ q, wr = q := ⟨_, rfl⟩
          rw [hw9] at HX HBL HWS ⊢
          clear hw9 HXr HBr HWr hlt hlt' hk z0 z1 z2 z3 z4 z5
          go_loopw [4] (fun i wr => ∃ k : Nat, i = .int .i64 (k : Int) ∧ k ≤ n2 ∧ Hid (Bx wr N #[.bool b, .slice p0 n0 k0, .slice p1 n1 k1, .slice p2 n2 k2, .int .i64 x, .int .i64 y] 50) ∧ Hid (Below B W wr) ∧ Hid (WrS B 2 wr (.slice p0 n0 k0) ∧ WrS B 1 wr (.slice p1 n1 k1) ∧ WrS B 1 wr (.slice p2 n2 k2))) (fun i _ => n2 - (intOf i).toNat)
          case atStart => exact ⟨0, rfl, Nat.zero_le _, HX, HBL, HWS⟩
          case round =>
            obtain ⟨k, rfl, hk, HXr, HBr, HWr⟩ := hrel
            obtain ⟨z0, z1, z2, z3, z4, z5⟩ := HXr.out.six
            by_cases hlt : k < n2
            · have hlt' : (k : Int) < (n2 : Int) := by omega
              have hwk : IntKind.i64.wrap ((k : Int) + 1) = (k : Int) + 1 := by rw [IntKind.wrap_i64]; omega
              obtain ⟨g, cur, tt, rfl, hBg, hcur, hsz⟩ := HWr.out.2.2.look.2 (by omega)
              have hin : k < cur.size := by omega
              have hc : wr.cell? ⟨g, k, none⟩ = some cur[k] := by rw [cell_of_row wr g (k) cur _ _ hcur]; exact Array.getElem?_eq_getElem hin
              have hfz : wr.frozen? ⟨g, k, none⟩ = false := by simp [World.frozen?, hcur]
              have hgN : N ≠ g := by
                obtain ⟨g', e', hg'⟩ := HL2.out (by omega)
                injection e' with e'
                injection e' with e1 _
                omega
              generalize cur[k] = old at hc
              have HBg : Hid (B ≤ g) := hBg
              clear hcur hsz hin hBg
              go_wp2
              go_roundw
              case rel => exact ⟨k + 1, by go_num, by omega, HXr.out.other hgN _ _, HBr.out.setCell (p := ⟨g, _, none⟩) HBg.out _, HWr.out.1.set _ _ _, HWr.out.2.1.set _ _ _, HWr.out.2.2.set _ _ _⟩
              case measure => simp [intOf]; omega
            · have hlt' : ¬ (k : Int) < (n2 : Int) := by omega
              clear HX HBL HWS
              have HX : Hid _ := HXr
              have HBL : Hid (Below B W wr) := HBr.out
              have HWS : Hid _ := HWr
              go_wp2
              exact ⟨rfl, _, results_none rfl _ _ _, ⟨_, rfl⟩, HBL.out⟩
end Go.Proofs.YtfcaemfledlnnaaGreatDoor
