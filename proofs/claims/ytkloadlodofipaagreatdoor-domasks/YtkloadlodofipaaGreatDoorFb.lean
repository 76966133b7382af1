/-
  What is proved here: what dom.Each hands back of any ranges, and that its iterator tells all values, rising.
-/
import Derived.Test.YtkloadlodofipaaGreatDoorFa
import Derived.RangeFuncNested
namespace Go.Proofs.YtkloadlodofipaaGreatDoor
open Go.RowKit Go.Shelf
set_option linter.unusedVariables false

attribute [local go_sem] Oper.semAt_some

set_option maxHeartbeats 1000000 in
theorem clone_zero (ad : Addr) (cap : Nat) (w : World) :
    Calls Tryz.prog 64 #[.slice (some ad) 0 cap] w fun e w' => ∃ s, e = .returned s ∧ w'.ownsRow w.heap.size 55 2 s 0 [] ∧ Below w.heap.size w w' := by
  obtain ⟨i0, hi0, hz0, hz1, hz2⟩ := info_parts Tryz.info55
  have q22 : ∀ (w : World) (a : Option Addr) (n c n' c' : Nat), (binOp .eql 23 (.slice a n c) (.slice none n' c')).run Tryz.prog w = .ok (.bool a.isNone) w := fun w a n c n' c' => Lib.run_eql_slice_nil w _ _ a n c n' c' Tryz.underlying23
  go_enter Tryz.func64, Tryz.ntmps64
  go_wp2_with (at_builtin; refine wpList_append_own _ rfl _ _ 23 rfl w.heap.size 55 i0 (.agg #[.int .i64 0, .int .i64 0]) 2 16 Tryz.underlying23 hi0 hz0 hz1 hz2 rfl (by decide) _ _ _ rfl (World.ownsRow_made w #[] 0 (Nat.le_refl _) (Nat.zero_le _) rfl) ad 0 cap [] rfl rfl (fun j u h => by simp at h) (fun u h => by simp at h) (by unfold maxLen; omega) (by omega) (by simp) ?_)
  intro v' w1 hown hgrow hnil
  go_wp2
  go_ret
  refine ⟨v', rfl, by simpa using hown, ?_⟩
  exact ((Below.refl _ w).alloc (Nat.le_refl _) _).grown hgrow (by simp) (by intro k hk; simp [Value.ownBlock] at hk; omega)
theorem clone_each (a : Option Addr) (n c : Nat) (l : List Rg) (w : World) (h : Sr w (.slice a n c) l) (hlen : l.length ≤ 4096) :
    Calls Tryz.prog 64 #[.slice a n c] w fun e w' => ∃ s, e = .returned s ∧ w'.ownsRow w.heap.size 55 2 s l.length (flat l) ∧ Below w.heap.size w w' := by
  rcases Nat.eq_zero_or_pos l.length with h0 | h0
  · obtain ⟨a', cap, e, _⟩ := h
    injection e with e1 e2 e3
    subst e1 e2 e3
    obtain rfl := List.eq_nil_of_length_eq_zero h0
    cases a with
    | none =>
      refine (clone_nil _ _ w).mono ?_
      rintro e w' ⟨rfl, rfl⟩
      exact ⟨_, rfl, World.ownsRow_nil _ _ _ _, Below.refl _ _⟩
    | some ad => exact clone_zero ad c w
  · exact clone_any a n c l w h h0 hlen

set_option maxHeartbeats 400000 in
theorem each_any (s : Value) (l : List Rg) (w : World) (h : Sr w s l) (hf : FitsR l) :
    Calls Tryz.prog 34 #[s] w fun e w' => ∃ B s', e = .returned (.func (.func 65) #[] #[.pointer (some ⟨B, 0, none⟩)]) ∧ Boxed w' B 23 s' ∧ w'.ownsRow w.heap.size 55 2 s' (tk l).length (flat (tk l)) ∧ w.heap.size ≤ B ∧ Below w.heap.size w w' := by
  have hc := known_tk s l w h hf
  have hR := tk_right l
  have HR : Hid (Right (tk l)) := hR
  have hmf : ∀ (fn : Fn) (first cap : Array Value) (w : World), (Instr.makeFunc fn first cap).run Tryz.prog w = .ok (.func fn first cap) w := fun _ _ _ _ => rfl
  obtain ⟨a0, c0, rfl, _⟩ := h
  clear hf hR
  go_enter Tryz.func34, Tryz.ntmps34
  go_wp2_with fail
  refine hc.mono ?_
  clear hc
  rintro e w1 ⟨a, n, c, rfl, hS, hn, hb⟩
  have HS : Hid (Sr w (.slice a n c) (tk l)) := hS
  clear hS hn
  go_wp2_with fail
  refine (clone_each a n c (tk l) w1 (HS.out.below hb) HR.out.1).mono ?_
  rintro e w2 ⟨s2, rfl, hown, hb2⟩
  have HO : Hid (w2.ownsRow w1.heap.size 55 2 s2 (tk l).length (flat (tk l))) := hown
  obtain ⟨sa, sn, sc, rfl⟩ : ∃ a n c, s2 = .slice a n c := by
    rcases hown.2 with ⟨e, _⟩ | ⟨q1, q2, q3, e, _⟩
    · exact ⟨_, _, _, e⟩
    · exact ⟨_, _, _, e⟩
  clear hown
  go_wp2
  go_ret
  have h1 := hb.size; have h2 := hb2.size
  exact ⟨w2.heap.size, _, rfl, Boxed.new _ _ _, (own_base HO.out h1).alloc _, by omega, (hb.trans (hb2.mono h1)).alloc (by omega) _⟩

set_option maxRecDepth 100000 in
set_option maxHeartbeats 1000000 in
theorem each0_in {α : Type} (n : Nat) (hn : 1 ≤ n) (lr B c : Nat) (a : Option Addr) (J : List α → World → Prop) (W : World) (hB : W.cell? ⟨B, 0, none⟩ = some (.slice a 0 c)) (h0 : J [] W) :
    CallsIn Fence.wide n Tryz.prog 65 #[.func (.yield lr) #[] #[], .pointer (some ⟨B, 0, none⟩)] W fun e W' => (∃ v, e = .returned v) ∧ J [] W' := by
  refine callsIn_of_wp Tryz.func65 rfl trivial ?_ rfl
  simp only [Tryz.ntmps65, List.size_toArray, List.length_cons, List.length_nil, Nat.reduceAdd, Nat.reduceSub, Array.replicate_succ, Array.replicate_zero, List.push_toArray, List.append_toArray, List.nil_append, List.cons_append]
  gi_wp2
  gi_loopw [8] (fun i wr => i = .int .i64 0 ∧ J [] wr) (fun _ _ => 0)
  case atStart => exact ⟨rfl, h0⟩
  case round =>
    obtain ⟨rfl, hJ⟩ := hrel
    gi_wp2
    go_end0
    exact ⟨⟨_, rfl⟩, hJ⟩

abbrev AnyI := { x : Int // True }
def encI (x : AnyI) : Array Value := #[.int .i64 x.1]
theorem each_seq (A B base : Nat) (s : Value) (rs : List Rg) (W : World) (hR : Right rs) (hBx : Boxed W B 23 s) (hrow : W.ownsRow base 55 2 s rs.length (flat rs)) (hA : A < base) (hAW : A < W.heap.size) (hBA : B ≠ A) :
    SeqStopsK (α := AnyI) Fence.wide 5 Tryz.prog 65 #[.pointer (some ⟨B, 0, none⟩)] encI (Kp A) (fun xs => xs.map (·.1) = vals rs) (fun pre => ∃ r, pre.map (·.1) ++ r = vals rs) 10000000 W := by
  intro lr J Jx X hX hJ _ hY h0
  have hcX := (hX.cell (p := ⟨B, 0, none⟩) hBx.lt).trans hBx.cell
  rcases Nat.eq_zero_or_pos rs.length with hz | hz
  · obtain rfl := List.eq_nil_of_length_eq_zero hz
    obtain ⟨a, c, rfl⟩ : ∃ a c, s = .slice a 0 c := by
      rcases hrow.2 with ⟨e, _⟩ | ⟨q1, q2, q3, e, _⟩
      · exact ⟨_, _, e⟩
      · exact ⟨_, _, e⟩
    exact (each0_in 5 (by decide) lr B c a J X hcX h0).mono fun e W' ⟨h1, h2⟩ => ⟨h1, .inl ⟨[], by simp [vals], h2⟩⟩
  · obtain ⟨g, cap, rfl, hg, hgl, hgc⟩ := own_some hrow hz
    refine each1_in (p := fun _ => True) 5 (by decide) lr A B g 0 cap rs (fun i hi' => ?_) hR.1 (fun _ _ => trivial) hBA (by omega) J Jx hY X hJ (Nat.lt_of_lt_of_le hAW hX.size) hcX (fun i hi' => ?_) (vals_short rs hR) h0
    · have := hR.2 i hi'; unfold OkAt at this; exact ⟨this.2.1, this.2.2.1, this.1⟩
    · obtain ⟨e1, e2⟩ := flat_even rs i hi'
      exact ⟨by rw [Nat.zero_add]; exact (hX.cell (p := ⟨g, i * 2, none⟩) hgl).trans (hgc _ _ e1), by rw [Nat.zero_add]; exact (hX.cell (p := ⟨g, i * 2 + 1, none⟩) hgl).trans (hgc _ _ e2)⟩
end Go.Proofs.YtkloadlodofipaaGreatDoor
