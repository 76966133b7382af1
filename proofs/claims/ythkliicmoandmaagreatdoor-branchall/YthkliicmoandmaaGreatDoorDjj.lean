/-
  What is proved here: the walk of BranchGoes.
  What is proved here: a domain that lies within another one: both of the two is the first one; what a decision leaves lies within and is smaller (mathematics alone).
-/
import Derived.Test.YthkliicmoandmaaGreatDoorDhj
import Derived.Test.YthkliicmoandmaaGreatDoorBjj
import Derived.Test.YthkliicmoandmaaGreatDoorSn
import Derived.Test.YthkliicmoandmaaGreatDoorCij
import Derived.Test.YthkliicmoandmaaGreatDoorCcj
import Derived.OwnWalk
import Derived.Lib.AppendZerosOnto
import Derived.Lib.OwnBridge
import Derived.Laws.StructEq
import Derived.Test.YthkliicmoandmaaGreatDoorZGaj
namespace Go.Proofs.YthkliicmoandmaaGreatDoor
open Go.RowKit Go.Shelf
set_option linter.unusedVariables false
set_option linter.unusedSimpArgs false
theorem wp_ways2 {P : Program} {c : Code} {K : Act → World → Prop} {Q : Exit → Act → World → Prop} {a : Act} {w : World} {act : Nat → List Value → Act} (R : Nat → List Value → World → Prop) (h : c.wp P (Exit.then (fun a' w' => ∃ n q, a' = act n q ∧ R n q w') (fun _ _ _ => False)) a w) (hK : ∀ n q w', R n q w' → K (act n q) w') : c.wp P (Exit.then K Q) a w :=
  Code.wp_mono (fun e b x q => by
    cases e with
    | normal =>
      have q' : ∃ n q, b = act n q ∧ R n q x := q
      obtain ⟨n, q, e1, q2⟩ := q'
      rw [e1]
      exact hK _ _ _ q2
    | _ => exact (q : False).elim) h
theorem stepR {ops : Array Oper} {o : Oper} {a : Act} {w : World} {K : Act → World → Prop} {Q : Exit → Act → World → Prop} {E : Prop} {old : Array Value} {t : TypeId} (hgd : o.guard = none) (ty : TypeId) (x y : Operand) (ho : o.op = .store ty x y) (g : Nat) (c : List Value) (hx : a.eval x = .pointer (some ⟨g, 0, none⟩)) (hy : a.eval y = .agg c.toArray)
    (hg : Bx w g old t) (hold : old.size = 6) (hc : c.length = 6) (hi : (Tryz.prog.info? ty).map (·.size) = some 6) (h1 : ∀ v ∈ c, v.oneCell' = true) (h : K (a.put o.dst undef) (w.setRow g c.toArray)) : if Region.wanted o (yielded ops a.tmps) = true then Oper.wp Tryz.prog o a w K Q else E := by
  have hw : Region.wanted o (yielded ops a.tmps) = true := by simp [Region.wanted, hgd]
  rw [if_pos hw]
  unfold Oper.wp execOp
  simp only [ho, hx, hy, Instr.storeAt, Instr.sureAddr, Sem.run_bind, Sem.run_pure, Result.andThen_ok, run_storeVar_row w g t ty old c.toArray hg.h (by rw [hi]; simp [hc]) (by simp [hold, hc]) (all_oneCell_toArray h1)]
  exact h
theorem six_of2 {X : Nat → Prop} {w : World} {q : List Value} {d : MD} (h : Dc X w q d) : ∃ (b : Bool) (s1 s2 s3 : Option Addr × Nat × Nat) (x y : Int), q = [.bool b, .slice s1.1 s1.2.1 s1.2.2, .slice s2.1 s2.2.1 s2.2.2, .slice s3.1 s3.2.1 s3.2.2, .int .i64 x, .int .i64 y] := by
  obtain ⟨ra, rc, a1, c1, a2, c2, e, _⟩ := h
  exact ⟨_, (ra, _, rc), (a1, _, c1), (a2, _, c2), _, _, e⟩
theorem clone_any {W : World} {s : Value} {l : List Int} (h : Ns W s l) (hl : l.length * 8 ≤ 140737488355328) : Calls Tryz.prog 37 #[s] W fun e w' => ∃ v, e = .returned v ∧ Oi W.heap.size w' v l ∧ Below W.heap.size W w' := by
  obtain ⟨a, cap, rfl, hc⟩ := h
  cases a with
  | none =>
    have h0 : l.length = 0 := by
      apply Classical.byContradiction; intro hn
      obtain ⟨_, _, e, _⟩ := hc (by omega)
      cases e
    obtain rfl := List.eq_nil_of_length_eq_zero h0
    exact (AnyG.slices_Clone_int_nil Tryz.laysCloneN 0 cap W).mono fun e w' ⟨he, hw⟩ => ⟨_, he, by simpa [Oi, ivl] using World.ownsRow_nil _ _ _ _, by rw [hw]; exact Below.refl _ _⟩
  | some ad =>
    rcases Nat.eq_zero_or_pos l.length with h0 | h0
    · obtain rfl := List.eq_nil_of_length_eq_zero h0
      exact (AnyG.slices_Clone_int_zero Tryz.laysCloneN ad cap W).mono fun e w' ⟨v, he, hr, _, hb⟩ => ⟨v, he, hr, hb⟩
    · obtain ⟨b, off, e, hlt, _, hcell⟩ := hc h0
      injection e with e
      subst e
      have := AnyG.slices_Clone_int Tryz.laysCloneN b off l.length cap l W (Nat.le_refl _) hl (fun j hj => hcell j _ (by rw [List.getD_eq_getElem?_getD, List.getElem?_eq_getElem hj]; rfl))
      rw [List.take_length] at this
      exact this.mono fun e w' ⟨v, he, hr, _, hb⟩ => ⟨v, he, hr, hb⟩

set_option maxRecDepth 100000 in
set_option maxHeartbeats 4000000 in
theorem new_any {W : World} {p : Option Addr} {n c : Nat} {l : List Int} (h : Ns W (.slice p n c) l) (hl : l.length * 8 ≤ 140737488355328) : Calls Tryz.prog 9 #[.slice p n c] W fun e w' => ∃ q, e = .returned (ptr q) ∧ W.heap.size ≤ q ∧ q < w'.heap.size ∧ (∀ X : Nat → Prop, (∀ b, X b → b < W.heap.size ∨ w'.heap.size ≤ b) → Dr X w' q l) ∧ Below W.heap.size W w' := by
  have kc := clone_any h hl
  clear h
  go_enter Tryz.func9, Tryz.ntmps9
  go_wp2_with (go_at_call 37; refine kc.mono ?_; rintro e w1 ⟨v, rfl, ho, hb⟩; obtain ⟨a, cc, rfl⟩ := ho.shape)
  go_ret
  refine ⟨w1.heap.size, rfl, hb.size, by simp, fun X hX => ⟨a, cc, Bx.new _ _ _, ?_, ?_, fun h0 => ?_⟩, hb.alloc hb.size _⟩
  · rcases ho.2 with ⟨e1, e2⟩ | ⟨g, cap, cur, e1, _, _, hn, _⟩
    · omega
    · injection e1 with _ _ e3; omega
  · rcases ho.2 with ⟨e1, e2⟩ | ⟨g, cap, cur, e1, _, _, hn, hm, _⟩
    · injection e1 with _ _ e3; omega
    · injection e1 with _ _ e3; unfold maxLen at hm; omega
  · obtain ⟨g, c2, e1, hB, hg, _, hcells⟩ := ho.at h0
    injection e1 with e1 _ _
    refine ⟨g, 0, e1, by simp; omega, by omega, fun q => ?_, fun i x hx => ?_⟩
    · rcases hX g q with h1 | h1
      · omega
      · simp at h1; omega
    · have := (((Below.refl w1.heap.size w1).alloc (Nat.le_refl _) (Obj.cells #[.slice a l.length cc] 79)).cell (p := ⟨g, i, none⟩) hg).trans (hcells i x hx)
      simpa using this

theorem tried_fits {d : MD} {op n : Int} (h : sevB d = true) (ht : Tried d op n) : Dm.Fits n := by
  unfold Tried at ht
  cases hs : d.set
  · rw [hs] at ht
    simp only [Bool.false_eq_true, if_false] at ht
    obtain ⟨hR, hl, hsz, m1, m2, hlt, hb⟩ := num_facts h hs
    have b1 := hb _ m1
    have b2 := hb _ m2
    unfold Dm.Fits
    rcases ht with ⟨_, hm⟩ | ⟨_, q1, q2⟩
    · have := hb _ hm; omega
    · omega
  · rw [if_pos hs] at ht
    obtain ⟨hR, _⟩ := sev_set h hs
    have hu : n ∈ d.up := by
      have := ht.2
      unfold freeL at this
      have e1 : St.tkS d.up = d.up := St.tkS_yes hR.2.2.2.1
      rw [e1] at this
      exact ((St.less_mem _ _ _).1 this).1
    have := St.set_mem hR.2.2.2.1 n hu
    unfold Dm.Fits
    omega
theorem phase_nil (D : List MD) : ∀ (L : List Ph), (phaseM D L).vars = [] → openAll D = []
  | [], h => h
  | p :: L, h => by
    unfold phaseM at h
    split at h
    · exact phase_nil D L h
    · rename_i hne; exact absurd h hne
theorem choose_no {L : List Ph} {D : List MD} {R : List Int} (h : (chooseM L D R).1.2.2.2 = false) : openAll D = [] := by
  unfold chooseM at h
  split at h
  · rename_i hp; exact phase_nil D L hp
  · simp at h
theorem choose_yes {L : List Ph} {D : List MD} {R : List Int} (h : (chooseM L D R).1.2.2.2 = true) : ∃ (vn : Nat) (d : MD) (op n : Int), (chooseM L D R).1 = ((vn : Int), op, n, true) ∧ D[vn]? = some d ∧ sevB d = true ∧ Tried d op n := by
  unfold chooseM at h ⊢
  split at h
  · simp at h
  · rename_i hp
    rw [if_neg hp]
    obtain ⟨vn, d, e1, e2, e3, e4⟩ := openB_dom (phase_open D L _ (sel_in D R hp))
    dsimp only
    rw [e1]
    simp only [Int.toNat_natCast, e2, Option.getD_some]
    refine ⟨vn, d, _, _, rfl, e2, e3, ?_⟩
    cases hs : d.set
    · simp only [Bool.false_eq_true, if_false]
      exact tried_num e3 hs _ _
    · simp only [if_true]
      exact tried_set e3 hs _ _

end Go.Proofs.YthkliicmoandmaaGreatDoor

namespace Go.Proofs.YthkliicmoandmaaGreatDoor
open Go.RowKit Go.Shelf
set_option linter.unusedVariables false
set_option linter.unusedSimpArgs false

/-- A domain of sets whose bounds lie within another one's. -/
structure LeD (a b : St.SD) : Prop where
  lo : ∀ x ∈ b.lo, x ∈ a.lo
  up : ∀ x ∈ a.up, x ∈ b.up
  least : b.least ≤ a.least
  most : a.most ≤ b.most
theorem LeD.refl (a : St.SD) : LeD a a := ⟨fun _ h => h, fun _ h => h, Int.le_refl _, Int.le_refl _⟩
theorem LeD.trans {a b c : St.SD} (h : LeD a b) (k : LeD b c) : LeD a c := ⟨fun x hx => h.lo x (k.lo x hx), fun x hx => k.up x (h.up x hx), Int.le_trans k.least h.least, Int.le_trans h.most k.most⟩
theorem tight_le {lo up : List Int} {least most : Int} {B : St.SD} (h1 : St.IsSet lo) (h2 : St.IsSet up) (hs : ∀ x ∈ lo, x ∈ up) (hne : St.emptyD (St.tightD lo up least most) = false) (hlo : ∀ x ∈ B.lo, x ∈ lo) (hup : ∀ x ∈ up, x ∈ B.up) (hl : B.least ≤ least) (hm : most ≤ B.most) : LeD (St.tightD lo up least most) B := by
  rcases St.tight_cases2 least most h1 h2 hs with ⟨e, a⟩ | ⟨e, a, b⟩ | ⟨e, a, b, c⟩ | ⟨e, a, b, c, f⟩
  · rw [e, St.empty_none] at hne; cases hne
  · rw [e]
    refine ⟨fun x hx => hs x (hlo x hx), hup, ?_, ?_⟩
    · show B.least ≤ (up.length : Int); omega
    · show (up.length : Int) ≤ B.most; omega
  · rw [e]
    refine ⟨hlo, fun x hx => hup x (hs x hx), ?_, ?_⟩
    · show B.least ≤ (lo.length : Int); omega
    · show (lo.length : Int) ≤ B.most; omega
  · rw [e]
    refine ⟨hlo, hup, ?_, ?_⟩
    · show B.least ≤ max least (lo.length : Int); omega
    · show min most (up.length : Int) ≤ B.most; omega
theorem taken_not {s : St.SD} (h : St.emptyD s = false) : St.emptyD (St.takenD s) = false := by
  have h1 := St.taken_le h
  have h2 := St.taken_right s
  unfold St.emptyD St.rightD
  simp only [Bool.or_eq_false_iff, Bool.not_eq_false', decide_eq_true_eq, decide_eq_false_iff_not]
  exact ⟨h2, by omega⟩
theorem taken_leD {s : St.SD} (h : St.emptyD s = false) : LeD (St.takenD s) s := by
  obtain ⟨hr, _⟩ := St.empty_no h
  have hn := taken_not h
  have e : St.takenD s = St.tightD s.lo s.up s.least s.most := by unfold St.takenD; rw [if_pos hr]
  rw [e] at hn ⊢
  exact tight_le hr.2.2.1 hr.2.2.2.1 (St.right_sub hr) hn (fun _ h => h) (fun _ h => h) (Int.le_refl _) (Int.le_refl _)
theorem must_le {s : St.SD} {v : Int} (h : St.emptyD (St.mustD s v) = false) : LeD (St.takenD (St.mustD s v)) (St.takenD s) := by
  refine (taken_leD h).trans ?_
  have hR := St.taken_right s
  unfold St.mustD at h ⊢
  split at h
  · rename_i hc
    rw [if_pos hc]
    have hv : v ∈ (St.takenD s).up := by simpa using hc
    have e1 := St.tkS_one hR.2.2.2.1 hv
    obtain ⟨j1, j2⟩ := St.join_one_set hR.2.2.1 hR.2.2.2.1 (St.right_sub hR) hv
    rw [e1] at h ⊢
    exact tight_le j1 hR.2.2.2.1 j2 h (fun x hx => (St.join_mem _ _ _).2 (.inl hx)) (fun _ h => h) (Int.le_refl _) (Int.le_refl _)
  · rw [St.empty_none] at h; cases h
theorem not_leD {s : St.SD} {v : Int} (h : St.emptyD (St.notD s v) = false) : LeD (St.takenD (St.notD s v)) (St.takenD s) := by
  refine (taken_leD h).trans ?_
  have hR := St.taken_right s
  unfold St.notD at h ⊢
  split at h
  · rw [St.empty_none] at h; cases h
  · rename_i hc
    rw [if_neg hc]
    have hv : ¬ v ∈ (St.takenD s).lo := by simpa using hc
    exact tight_le hR.2.2.1 (St.less_one_set hR.2.2.2.1 _) (St.not_sub hR hv) h (fun _ h => h) (fun x hx => ((St.less_mem _ _ _).1 hx).1) (Int.le_refl _) (Int.le_refl _)
theorem both_le {a b : St.SD} (h : LeD (St.takenD a) (St.takenD b)) : St.rbothD a b = St.rbothD a a := by
  rw [St.both_same, St.both_same, St.bothD_G, St.bothD_G]
  have hA := St.taken_right a
  have hB := St.taken_right b
  have key : ∀ c, LeD (St.takenD a) c → St.RightD c → St.bothG (St.takenD a) c = St.tightD (St.takenD a).lo (St.takenD a).up (St.takenD a).least (St.takenD a).most := fun c hc hR => by
    have hj : ∀ x ∈ St.joinL (St.takenD a).lo c.lo, x ∈ (St.takenD a).lo := fun x hx => ((St.join_mem _ _ _).1 hx).elim id (hc.lo x)
    have e1 : St.joinL (St.takenD a).lo c.lo = (St.takenD a).lo := St.set_ext (St.join_set hA.2.2.1 hR.2.2.1 hA.2.2.1 hj) hA.2.2.1 fun x => ⟨hj x, fun hx => (St.join_mem _ _ _).2 (.inl hx)⟩
    have e2 : St.meetL (St.takenD a).up c.up = (St.takenD a).up := St.set_ext (St.meet_set hA.2.2.2.1 _) hA.2.2.2.1 fun x => by rw [St.meet_mem]; exact ⟨fun q => q.1, fun q => ⟨q, hc.up x q⟩⟩
    unfold St.bothG
    rw [e1, e2, if_pos hA.2.2.2.2.1, Int.max_eq_left hc.least, Int.min_eq_left hc.most]
  rw [key _ h hB, key _ (LeD.refl _) hA]
/-- One domain lies within another one. -/
def LeA (a b : MD) : Prop := a.set = b.set ∧ (if a.set then LeD (St.takenD (sdM a)) (St.takenD (sdM b)) else ∀ x ∈ Dm.vals (Dm.tk a.r), x ∈ Dm.vals (Dm.tk b.r))
theorem LeA.refl (a : MD) : LeA a a := ⟨rfl, by split; exact LeD.refl _; exact fun _ h => h⟩
theorem LeA.trans {a b c : MD} (h : LeA a b) (k : LeA b c) : LeA a c := by
  refine ⟨h.1.trans k.1, ?_⟩
  have h2 := h.2
  have k2 := k.2
  rw [← h.1] at k2
  split
  · rename_i hs; rw [if_pos hs] at h2 k2; exact h2.trans k2
  · rename_i hs; rw [if_neg hs] at h2 k2; exact fun x hx => k2 x (h2 x hx)
theorem both_num {a b : MD} (ha : Dm.Right a.r) (hs : a.set = false) (h : LeA a b) : Dm.bothR a.r b.r = a.r := by
  have h2 := h.2
  rw [if_neg (by rw [hs]; decide)] at h2
  have hb := Dm.tk_right b.r
  obtain ⟨f1, f2⟩ := Dm.ov_facts (Dm.right_ord (Dm.tk_right a.r)).1 (Dm.right_ord hb).1
  have e : Dm.ov (Dm.tk a.r) (Dm.tk b.r) = Dm.tk a.r := Dm.ord_ext f1 (Dm.right_ord (Dm.tk_right a.r)).1 fun v => by rw [f2]; exact ⟨fun q => q.1, fun q => ⟨q, h2 v q⟩⟩
  unfold Dm.bothR
  rw [e, Dm.tk_yes ha]
  split <;> rfl
/-- The reference's word for no values. -/
def reM (d : MD) : Bool := if d.set then St.emptyD (sdM d) else decide (d.r.length = 0)
theorem siz_re {d : MD} (h : sizA d ≠ 0) : reM d = false := by
  unfold sizA at h
  unfold reM
  cases hs : d.set
  · rw [hs] at h
    simp only [Bool.false_eq_true, if_false] at h ⊢
    rw [decide_eq_false_iff_not]
    intro h0
    have : d.r = [] := List.length_eq_zero_iff.1 h0
    rw [this] at h
    exact h (by decide)
  · rw [hs] at h
    simp only [if_true] at h ⊢
    cases he : St.emptyD (sdM d)
    · rfl
    · rw [St.count_NS, (St.empty_yes he).1, St.NS_none] at h
      exact absurd (by decide) h
theorem res_sdM {d : MD} {op n : Int} (h : (resM d op n).2 = 0) (hs : d.set = true) : (sdM (resM d op n).1 = St.mustD (sdM d) n ∨ sdM (resM d op n).1 = St.notD (sdM d) n) ∧ (resM d op n).1.set = true ∧ rightM (resM d op n).1 = true := by
  obtain ⟨hr, hf⟩ := res_ok h
  have m := St.must_right (sdM d) n
  have k := St.not_right (sdM d) n
  have mk : ∀ s : St.SD, St.RightD s → sdM (ofSD s) = s ∧ (ofSD s).set = true ∧ rightM (ofSD s) = true := fun s hs => by
    have e := sdM_of hs.2.1
    refine ⟨e, hs.1, ?_⟩
    unfold rightM
    rw [if_pos (show (ofSD s).set = true from hs.1), e]
    unfold St.rightD
    exact decide_eq_true hs
  rcases res_set (n := n) hr hf hs with ⟨_, e, _⟩ | ⟨_, e, _⟩
  · rw [e]; exact ⟨.inl (mk _ m).1, (mk _ m).2⟩
  · rw [e]; exact ⟨.inr (mk _ k).1, (mk _ k).2⟩
/-- What a decision leaves, where something is left. -/
theorem res_le {d : MD} {op n : Int} (h : (resM d op n).2 = 0) (hl : d.r.length < 4095) (hz : sizA (resM d op n).1 ≠ 0) : LeA (resM d op n).1 d ∧ rightM (resM d op n).1 = true := by
  obtain ⟨hr, hf⟩ := res_ok h
  cases hs : d.set
  · have e := res_num (n := n) hr hf hs
    rw [e]
    refine ⟨⟨hs.symm, ?_⟩, right_num hl⟩
    show ∀ x ∈ Dm.vals (Dm.tk (numR d.r op n)), x ∈ Dm.vals (Dm.tk d.r)
    intro x hx
    rw [Dm.tk_yes (num_right hl)] at hx
    exact ((num_mem hl).1 hx).1
  · obtain ⟨h1, h2, h3⟩ := res_sdM h hs
    refine ⟨⟨h2.trans hs.symm, ?_⟩, h3⟩
    rw [if_pos h2]
    have he := siz_re hz
    unfold reM at he
    rw [if_pos h2] at he
    rcases h1 with h1 | h1
    · rw [h1] at he ⊢; exact must_le he
    · rw [h1] at he ⊢; exact not_leD he
end Go.Proofs.YthkliicmoandmaaGreatDoor
