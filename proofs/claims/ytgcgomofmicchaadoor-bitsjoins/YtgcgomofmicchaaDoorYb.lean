/-
  What is proved here: what the iterator of a set tells: all its values, rising.
-/
import Derived.Test.YtgcgomofmicchaaDoorYa
namespace Go.Proofs.YtgcgomofmicchaaDoor
open Go.RowKit Go.Shelf

attribute [local go_sem] Oper.semAt_some

/-- What a round keeps of what the iterator reads. -/
def Kb (B b g : Nat) (W W' : World) : Prop := W'.heap[B]? = W.heap[B]? ∧ W'.heap[b]? = W.heap[b]? ∧ W'.heap[g]? = W.heap[g]? ∧ W'.heap[0]? = W.heap[0]? ∧ W.heap.size ≤ W'.heap.size
theorem Kb.trans {B b g : Nat} {X Y Z : World} (h : Kb B b g X Y) (k : Kb B b g Y Z) : Kb B b g X Z := ⟨k.1.trans h.1, k.2.1.trans h.2.1, k.2.2.1.trans h.2.2.1, k.2.2.2.1.trans h.2.2.2.1, Nat.le_trans h.2.2.2.2 k.2.2.2.2⟩
theorem Kb.put (B b g : Nat) (W : World) (l n : Nat) (o' : Obj) (h1 : B < n) (h2 : b < n) (h3 : g < n) (h0 : 0 < n) (hl : n ≤ l) : Kb B b g W (W.putObj l o') := by
  have hg := grownBy_putObj' W l o'
  have hx : ∀ k, k < n → (W.putObj l o').heap[k]? = W.heap[k]? := fun k hk => by
    by_cases hs : k < W.heap.size
    · exact hg.block k hs (by intro e; injection e with e; omega)
    · have h9 : (W.putObj l o').heap.size = W.heap.size := by simp [World.putObj]
      rw [Array.getElem?_eq_none (by omega), Array.getElem?_eq_none (by omega)]
  exact ⟨hx B h1, hx b h2, hx g h3, hx 0 h0, hg.size⟩
theorem Tab.keep {W W' : World} (h : Tab W) (h0 : W'.heap[0]? = W.heap[0]?) (hs : W.heap.size ≤ W'.heap.size) : Tab W' :=
  ⟨Nat.lt_of_lt_of_le h.1 hs, fun j hj => by rw [← h.2 j hj]; simp only [World.cell?, h0]⟩
theorem grown_drewN (W : World) (n : Nat) : W.grownBy (W.drewN n) none := ⟨rfl, rfl, rfl, Nat.le_refl _, fun _ _ _ => rfl⟩

/-- Place by place: is the bit there? -/
def pb (ws : List Nat) : Nat → Bool := fun i => bt ws (i : Int)
/-- All values. -/
def bvs (f room : Int) (ws : List Nat) : List Int := bv f (pb ws) room.toNat
def St {α : Type} (val : α → Int) (J : List α → World → Prop) (B b g c : Nat) (f room : Int) (ws : List Nat) (v ok : Value) (wr : World) : Prop :=
  ∃ (L : Nat) (r : Int) (t : Bool) (pre : List α), v = .int .i64 r ∧ ok = .bool t ∧ (L : Int) ≤ room ∧ NextIs f room ws (f + (L : Int)) r t ∧ pre.map val = bv f (pb ws) L ∧ J pre wr ∧ Boxed wr B 24 (.pointer (some ⟨b, 0, none⟩)) ∧ Bits wr b g c f room ws ∧ Tab wr
def ms (f room : Int) (v ok : Value) : Nat := match ok with
  | .bool true => (f + room + 1 - intOf v).toNat
  | _ => 0
theorem NextIs.from {f room : Int} {ws : List Nat} {v r : Int} {t : Bool} (h : NextIs f room ws v r t) (hv : v ≤ f) : NextIs f room ws (f + ((0 : Nat) : Int)) r t := by
  rcases h with ⟨rfl, h1, h2, h3⟩ | ⟨rfl, rfl, h3⟩
  · have := has_fits h1
    exact .inl ⟨rfl, h1, by omega, fun x a b => h3 x (by omega) b⟩
  · exact .inr ⟨rfl, rfl, fun x a => h3 x (by omega)⟩
theorem hasB_pb {f room : Int} {ws : List Nat} (hc : Cl room ws) (k : Nat) : hasB f room ws (f + (k : Int)) = pb ws k := by
  rw [hasB_eq hc]; unfold pb; congr 1; omega
theorem next_yes {f room : Int} {ws : List Nat} (hc : Cl room ws) {L : Nat} {r : Int} (h : NextIs f room ws (f + (L : Int)) r true) : ∃ k : Nat, r = f + (k : Int) ∧ L ≤ k ∧ (k : Int) < room ∧ pb ws k = true ∧ bv f (pb ws) k = bv f (pb ws) L := by
  rcases h with ⟨_, h1, h2, h3⟩ | ⟨h, _⟩
  · have hf := has_fits h1
    obtain ⟨k, hk⟩ : ∃ k : Nat, r = f + (k : Int) := ⟨(r - f).toNat, by omega⟩
    subst hk
    refine ⟨k, rfl, by omega, by omega, by rw [← hasB_pb hc]; exact h1, bv_gap f _ L k (by omega) fun i a b => ?_⟩
    rw [← hasB_pb (f := f) hc]
    exact h3 _ (by omega) (by omega)
  · cases h
theorem next_no {f room : Int} {ws : List Nat} (hc : Cl room ws) {L : Nat} {r : Int} (hL : (L : Int) ≤ room) (h : NextIs f room ws (f + (L : Int)) r false) : bv f (pb ws) L = bvs f room ws := by
  rcases h with ⟨h, _⟩ | ⟨_, _, h3⟩
  · cases h
  · unfold bvs
    refine (bv_gap f _ L room.toNat (by omega) fun i a b => ?_).symm
    rw [← hasB_pb (f := f) hc]
    exact h3 _ (by omega)

set_option maxHeartbeats 400000 in
theorem min_any (b g c : Nat) (f room : Int) (ws : List Nat) (W : World) (h : Bits W b g c f room ws) (hz : Sz f room ws) (hc : Cl room ws) (hT : Tab W) :
    Calls Tryd.prog 35 #[.pointer (some ⟨b, 0, none⟩)] W fun e w' => NextEnd f room ws (-9223372036854775808) e ∧ ∃ n, w' = W.drewN n := by
  have k := next_any b g c f room (-9223372036854775808) ws W h hz hc hT
  clear h hz hc hT
  go_enter Tryd.func35, Tryd.ntmps35
  go_wp2_with (go_at_call 37; refine k.mono ?_; clear k; rintro e w1 ⟨⟨r, ok, rfl, hn⟩, m, rfl⟩)
  go_ret2
  exact ⟨⟨r, ok, rfl, hn⟩, _, rfl⟩

set_option maxRecDepth 100000 in
set_option maxHeartbeats 2000000 in
theorem each2_in {p : Int → Prop} (n : Nat) (hn : 1 ≤ n) (lr B b g c : Nat) (f room : Int) (ws : List Nat) (hz : Sz f room ws) (hc : Cl room ws) (hp : ∀ v, hasB f room ws v = true → p v) (J Jx : List { x : Int // p x } → World → Prop)
    (hY : ∀ pre x W, J pre W → pre.length < 10000000 → YieldAt Fence.wide (n - 1) Tryd.prog lr #[.int .i64 x.1] W fun e W' =>
      (e = .returned (.bool true) ∧ J (pre ++ [x]) W' ∧ Kb B b g W W') ∨ (e = .returned (.bool false) ∧ Jx (pre ++ [x]) W'))
    (W : World) (hJ : AbidesFrom W.heap.size J) (hB : Boxed W B 24 (.pointer (some ⟨b, 0, none⟩))) (hS : Bits W b g c f room ws) (hT : Tab W) (h0 : J [] W) :
    CallsIn Fence.wide n Tryd.prog 72 #[.func (.yield lr) #[] #[], .pointer (some ⟨B, 0, none⟩)] W fun e W' => (∃ v, e = .returned v) ∧
      ((∃ ys, ys.map (·.1) = bvs f room ws ∧ J ys W') ∨ (∃ pre, (∃ r, pre.map (·.1) ++ r = bvs f room ws) ∧ Jx pre W')) := by
  have z1 := hz.lo; have z2 := hz.one; have z3 := hz.most; have z4 := hz.hi
  have HZ : Hid (Sz f room ws) := hz
  have HC : Hid (Cl room ws) := hc
  have cB := hB.cell
  have hJd : ∀ pre W' m, J pre W' → J pre (W'.drewN m) := fun pre W' m h => hJ _ _ _ none h (grown_drewN W' m) (fun r e => by cases e)
  clear hz hc
  refine callsIn_of_wp Tryd.func72 rfl trivial ?_ rfl
  simp only [Tryd.ntmps72, List.size_toArray, List.length_cons, List.length_nil, Nat.reduceAdd, Nat.reduceSub, Array.replicate_succ, Array.replicate_zero, List.push_toArray, List.append_toArray, List.nil_append, List.cons_append]
  gi_wp2_with fail
  refine ⟨trivial, (callsIn_wide.2 (min_any b g c f room ws W hS HZ.out HC.out hT)).mono ?_⟩
  rintro e w1 ⟨⟨r, ok, rfl, hnx⟩, m1, rfl⟩
  have hst : St (fun q : { x : Int // p x } => q.1) J B b g c f room ws (.int .i64 r) (.bool ok) (W.drewN m1) :=
    ⟨0, r, ok, [], rfl, rfl, by omega, hnx.from (by omega), rfl, hJd _ _ _ h0, hB, hS.drawn m1, hT.drawn m1⟩
  clear hnx cB hB hS hT h0
  gi_wp2
  gi_loopw [3, 4] (fun v o wr => St (fun q : { x : Int // p x } => q.1) J B b g c f room ws v o wr) (fun v o _ => ms f room v o)
  case atStart => exact hst
  case round =>
    clear hst
    obtain ⟨L, r, t, pre, rfl, rfl, hL, hnx, hpre, hJp, hB, hS, hT⟩ := hrel
    have HPRE : Hid (pre.map (fun q : { x : Int // p x } => q.1) = bv f (pb ws) L) := hpre
    clear hpre
    cases t
    · have he := next_no HC.out hL hnx
      have HE : Hid (bv f (pb ws) L = bvs f room ws) := he
      clear he hnx
      gi_wp2
      go_end0
      exact ⟨⟨_, rfl⟩, .inl ⟨pre, by rw [← HE.out]; exact HPRE.out, hJp⟩⟩
    · obtain ⟨k, rfl, hk1, hk2, hk3, hk4⟩ := next_yes HC.out hnx
      have hpk : p (f + (k : Int)) := hp _ (by rw [hasB_pb HC.out]; exact hk3)
      have hlen : pre.length < 10000000 := by
        have e1 : pre.length = (bv f (pb ws) L).length := by rw [← HPRE.out, List.length_map]
        have e2 := bv_length f (pb ws) L
        omega
      obtain ⟨fn, tmps, assign, body, hy, hRd⟩ := hY pre ⟨f + (k : Int), hpk⟩ wr hJp hlen
      dsimp only at hy
      have HPR2 : Hid ((pre ++ [(⟨f + (k : Int), hpk⟩ : { x : Int // p x })]).map (fun q : { x : Int // p x } => q.1) = bv f (pb ws) (k + 1)) := by
        unfold Hid; rw [List.map_append, HPRE.out, bv_hit f _ k hk3, hk4]; rfl
      clear hlen hnx hk3 hk4
      gi_wp2
      refine hRd.mono ?_
      rintro e W3 (⟨rfl, hJ3, hk3'⟩ | ⟨rfl, hJx3⟩)
      · have hB3 : Boxed W3 B 24 (.pointer (some ⟨b, 0, none⟩)) := hk3'.1.trans hB
        have hS3 := hS.keep hk3'.2.1 hk3'.2.2.1
        have hT3 := hT.keep hk3'.2.2.2.1 hk3'.2.2.2.2
        have cB3 := hB3.cell
        gi_wp2_with fail
        refine ⟨trivial, (callsIn_wide.2 (next_any b g c f room (f + (k : Int) + 1) ws W3 hS3 HZ.out HC.out hT3)).mono ?_⟩
        rintro e w4 ⟨⟨r, ok, rfl, hn4⟩, m4, rfl⟩
        have hn5 : NextIs f room ws (f + ((k + 1 : Nat) : Int)) r ok := by rw [show f + ((k + 1 : Nat) : Int) = f + (k : Int) + 1 by omega]; exact hn4
        have hst : St (fun q : { x : Int // p x } => q.1) J B b g c f room ws (.int .i64 r) (.bool ok) (W3.drewN m4) :=
          ⟨k + 1, r, ok, _, rfl, rfl, by omega, hn5, HPR2.out, hJd _ _ _ hJ3, hB3, hS3.drawn m4, hT3.drawn m4⟩
        have hms : ms f room (.int .i64 r) (.bool ok) < ms f room (.int .i64 (f + (k : Int))) (.bool true) := by
          cases ok
          · simp [ms, intOf]; omega
          · obtain ⟨k', rfl, q1, q2, _⟩ := next_yes HC.out hn5
            simp [ms, intOf]; omega
        have HST : Hid (St (fun q : { x : Int // p x } => q.1) J B b g c f room ws (.int .i64 r) (.bool ok) (W3.drewN m4)) := hst
        have HMS : Hid (ms f room (.int .i64 r) (.bool ok) < ms f room (.int .i64 (f + (k : Int))) (.bool true)) := hms
        clear hst hms hn4 hn5
        gi_wp2
        go_roundw
        case rel => exact HST.out
        case measure => exact HMS.out
      · gi_wp2
        refine bodyPost_ret (results_none rfl _ _ _) rfl ?_
        refine ⟨⟨_, rfl⟩, .inr ⟨_, ?_, hJx3⟩⟩
        obtain ⟨r, hr⟩ := bv_prefix f (pb ws) (k + 1) room.toNat (by omega)
        exact ⟨r, by rw [HPR2.out]; exact hr.symm⟩
end Go.Proofs.YtgcgomofmicchaaDoor
