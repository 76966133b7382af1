/-
  What is proved here: all names, as the iterator of package cons tells them.
-/
import Derived.Test.YtaeobgajhieajaaGreatDoorCe
namespace Go.Proofs.YtaeobgajhieajaaGreatDoor
open Go.RowKit Go.Shelf
set_option linter.unusedVariables false
set_option linter.unusedSimpArgs false

attribute [local go_sem] Oper.semAt_some
/-- All that lies from a block on is as it was. -/
structure KA (B : Nat) (W W' : World) : Prop where
  size : W.heap.size ≤ W'.heap.size
  same : ∀ (k : Nat) (o : Obj), B ≤ k → W.heap[k]? = some o → W'.heap[k]? = some o
theorem KA.from {B B' : Nat} {W W' : World} (h : KA B W W') (hb : B ≤ B') : KeepsFrom B' W W' := ⟨h.size, fun k o hk ho _ => h.same k o (Nat.le_trans hb hk) ho⟩
theorem KeepsFrom.less {B B' : Nat} {W W' : World} (h : KeepsFrom B W W') (hb : B ≤ B') : KeepsFrom B' W W' := ⟨h.size, fun k o hk ho hc => h.same k o (Nat.le_trans hb hk) ho hc⟩
/-- The names of the first rows. -/
def preN (k : Nat) : List (List UInt8) := (List.range k).flatMap fun j => nmL (rowK j).2.2
theorem preN_succ (k : Nat) : preN (k + 1) = preN k ++ nmL (rowK k).2.2 := by unfold preN; rw [List.range_succ]; simp
theorem preN_le {k : Nat} (hk : k < 48) : ∃ r, preN (k + 1) ++ r = preN 48 := by
  unfold preN
  obtain ⟨m, hm⟩ : ∃ m, 48 = (k + 1) + m := ⟨48 - (k + 1), by omega⟩
  have e : List.range 48 = List.range (k + 1) ++ (List.range m).map (fun x => k + 1 + x) := by rw [hm]; exact List.range_add
  rw [e, List.flatMap_append]
  exact ⟨_, rfl⟩

set_option maxRecDepth 100000 in
set_option maxHeartbeats 4000000 in
theorem names37 (n lr : Nat) (W : World) (J : List (List UInt8) → World → Prop) (Jx : World → Prop) (hJM : ∀ p w, J p w → MaxL w) (hJb : ∀ p w w', J p w → Below w.heap.size w w' → J p w')
    (hJp : ∀ p X k o o', W.heap.size ≤ k → J p X → X.heap[k]? = some o → o.isCells = false → J p (X.putObj k o')) (hXp : ∀ X k o o', W.heap.size ≤ k → Jx X → X.heap[k]? = some o → o.isCells = false → Jx (X.putObj k o'))
    (hY : ∀ m p l w, (∃ r, p ++ [l] ++ r = preN 48) → W.heap.size ≤ w.heap.size → J p w → ∃ fn tmps assign body, (Instr.yield lr #[.string ⟨l.toArray⟩]).run Tryz.prog w = .ok (.round lr fn tmps assign body) w ∧
      RoundIn Fence.wide m Tryz.prog lr fn tmps assign body w fun e w' => ((e = .returned (.bool true) ∧ J (p ++ [l]) w') ∨ (e = .returned (.bool false) ∧ Jx w')) ∧ KA W.heap.size w w') (h0 : J [] W) :
    CallsIn Fence.wide n Tryz.prog 37 #[.func (.yield lr) #[] #[]] W fun e w' => (∃ v, e = .returned v) ∧ (J (preN 48) w' ∨ Jx w') := by
  obtain ⟨w0, hW0⟩ : ∃ X, W.alloc (Obj.cells #[.func (.yield lr) #[] #[]] 29) = X := ⟨_, rfl⟩
  have hb0 : Below W.heap.size W w0 := by rw [← hW0]; exact (Below.refl _ W).alloc (Nat.le_refl _) _
  have HN0 : Hid (C1 w0 W.heap.size (.func (.yield lr) #[] #[]) 29) := by rw [← hW0]; exact ⟨World.alloc_heap_new W _⟩
  have hW0s : W.heap.size < w0.heap.size := HN0.out.lt
  have HW0 : Hid _ := hW0
  have HJ0 : Hid (J [] w0) := hJb _ _ _ h0 hb0
  have HJM : Hid _ := hJM
  have HJb : Hid _ := hJb
  have HJp : Hid _ := hJp
  have HXp : Hid _ := hXp
  have HY : Hid _ := hY
  clear hW0 hJM hJb hJp hXp hY h0
  refine callsIn_of_wp_marks Tryz.func37 rfl trivial ?_ rfl
  simp only [Tryz.ntmps37, List.size_toArray, List.length_cons, List.length_nil, Nat.reduceAdd, Nat.reduceSub, Array.replicate_succ, Array.replicate_zero, List.push_toArray, List.append_toArray, List.nil_append, List.cons_append]
  gi_wp2
  rw [HW0.out]
  clear HW0
  have mixed : Tryz.prog.follows .mixedOrders = true := by kernel_rfl
  refine range_rows (w := w0) n rfl
    (fun k X => J (preN k) X ∧ C1 X W.heap.size (.func (.yield lr) #[] #[]) 29 ∧ W.heap.size ≤ X.heap.size) Jx
    ?ib ?ip ?xp ⟨HJ0.out, HN0.out, Nat.le_of_lt hW0s⟩ (fun k B => { tmps := #[.func (.yield lr) #[] #[], .pointer (some ⟨W.heap.size, 0, none⟩), .pointer (some ⟨B, 0, none⟩), undef, .agg #[.string ⟨(rowK k).1.toArray⟩, .string ⟨(rowK k).2.1.toArray⟩, .string ⟨(rowK k).2.2.toArray⟩], undef, undef, undef, undef, undef, undef, undef], defers := [] }) ?assign ?body ?left ?done
  case ib => exact fun p X Y _ h hb => ⟨HJb.out _ _ _ h.1 hb, h.2.1.below hb, Nat.le_trans h.2.2 hb.size⟩
  case ip => exact fun p X k o o' hk h ho hc => ⟨HJp.out _ _ _ _ _ (by omega) h.1 ho hc, h.2.1.put (by omega) _, by rw [World.putObj_size]; exact h.2.2⟩
  case xp => exact fun X k o o' hk h ho hc => HXp.out _ _ _ _ (by omega) h ho hc
  case assign =>
    intro l m k X K hk hK
    simp only [rowA] at hK ⊢
    gi_wp2
    exact hK
  case body =>
    rintro l m k B X hk hl hB ⟨rl, hrl⟩ hBX hsX ⟨i1, i2, i3⟩
    simp only [rowA] at hBX
    have HPN : Hid (preN (k + 1) = preN k ++ nmL (rowK k).2.2) := preN_succ k
    have HPL : Hid (∃ r, preN k ++ nmL (rowK k).2.2 ++ r = preN 48) := by rw [← preN_succ k]; exact preN_le hk
    obtain ⟨r0, hr0⟩ : ∃ x, (rowK k).1 = x := ⟨_, rfl⟩
    obtain ⟨r1, hr1⟩ : ∃ x, (rowK k).2.1 = x := ⟨_, rfl⟩
    obtain ⟨r2, hr2⟩ : ∃ x, (rowK k).2.2 = x := ⟨_, rfl⟩
    have hlen := row_len k hk
    rw [hr0, hr1, hr2] at hBX
    rw [hr2] at hlen HPN HPL
    simp only [hr0, hr1, hr2]
    have c0 : X.cell? ⟨B, 0, none⟩ = some (.string ⟨r0.toArray⟩) := (cell_row hBX 0).trans rfl
    have c1 : X.cell? ⟨B, 1, none⟩ = some (.string ⟨r1.toArray⟩) := (cell_row hBX 1).trans rfl
    have c2 : X.cell? ⟨B, 2, none⟩ = some (.string ⟨r2.toArray⟩) := (cell_row hBX 2).trans rfl
    have hea := each39 ⟨r0.toArray⟩ ⟨r1.toArray⟩ ⟨r2.toArray⟩ X
    have hdep : Fence.wide.depth.isSome = false := rfl
    have hfn : ∀ f, Fence.wide.fn f = True := fun _ => rfl
    clear hr0 hr1 hr2 hBX
    gi_wp2
    refine (CallsIn.inRound l (callsIn_wide.2 hea)).mono ?_
    rintro e X2 ⟨Bc, rfl, hcc, hb2⟩
    have HJ2 : Hid (J (preN k ++ []) X2) := by unfold Hid; rw [List.append_nil]; exact HJb.out _ _ _ i1 hb2
    have j2 := i2.below hb2
    have hrl2 := (hb2.block l (Array.getElem?_eq_some_iff.1 hrl).1).trans hrl
    have HKX : Hid (KeepsOthers X X2) := keeps_below hb2
    have hX2 : w0.heap.size ≤ X2.heap.size := Nat.le_trans hsX hb2.size
    clear c0 c1 c2 hea
    gi_wp2
    refine range_names (w := X2) m l Bc r2 hlen rfl hcc ⟨rl, hrl2⟩
      (fun p Y => J (preN k ++ p) Y ∧ C1 Y W.heap.size (.func (.yield lr) #[] #[]) 29 ∧ KeepsFrom w0.heap.size X2 Y)
      (fun Y => Jx Y ∧ KeepsFrom w0.heap.size X2 Y)
      ?jm ?jb ?jp ?jxp ⟨HJ2.out, j2, KeepsFrom.refl _ _⟩ ?b1 ?bassign ?bbody ?bleft ?bdone
    case jm => exact fun p Y h => HJM.out _ _ h.1
    case jb => exact fun p Y Z _ h hb => ⟨HJb.out _ _ _ h.1 hb, h.2.1.below hb, h.2.2.trans ((keeps_below hb).from _)⟩
    case jp =>
      intro p Y q o o' hq h ho hc
      have hg := grownBy_putObj' Y q o'
      refine ⟨HJp.out _ _ _ _ _ (by omega) h.1 ho hc, h.2.1.put (by omega) _, ⟨Nat.le_trans h.2.2.size hg.size, fun i oo hB hi hoo => ?_⟩⟩
      have hil := (Array.getElem?_eq_some_iff.1 hi).1
      exact (World.putObj_heap_other (by omega)).trans (h.2.2.same i oo hB hi hoo)
    case jxp =>
      intro Y q o o' hq h ho hc
      have hg := grownBy_putObj' Y q o'
      refine ⟨HXp.out _ _ _ _ (by omega) h.1 ho hc, ⟨Nat.le_trans h.2.size hg.size, fun i oo hB hi hoo => ?_⟩⟩
      have hil := (Array.getElem?_eq_some_iff.1 hi).1
      exact (World.putObj_heap_other (by omega)).trans (h.2.same i oo hB hi hoo)
    case bassign =>
      intro l' m' v Y K hK
      gi_wp2
      exact hK
    case bbody =>
      rintro l' m' p x Y ⟨rr, hrr⟩ hsY ⟨k1, k2, k3⟩
      have cn := k2.cell
      obtain ⟨rest, hrest⟩ := HPL.out
      obtain ⟨fn, tmps, assign, body, hy, hRd⟩ := HY.out (m' - 1) (preN k ++ p) x Y ⟨rr ++ rest, by rw [← hrest, ← hrr]; simp⟩ (by omega) k1
      have HRD : Hid _ := hRd
      have HK3 : Hid _ := k3
      clear hRd hrest hrr
      gi_wp2
      refine RoundIn.mono (show RoundIn (Fence.wide.inRound l') _ _ _ _ _ _ _ _ _ from HRD.out) ?_
      rintro e Y' ⟨(⟨rfl, hJ'⟩ | ⟨rfl, hJ'⟩), hka⟩
      · have HKA : Hid _ := hka
        clear hka cn
        gi_wp2
        exact ⟨KA.from HKA.out (by omega), by rw [← List.append_assoc]; exact hJ', ⟨KA.same HKA.out _ _ (Nat.le_refl _) k2.h⟩, KeepsFrom.trans HK3.out (KA.from HKA.out (Nat.le_of_lt hW0s))⟩
      · have HKA : Hid _ := hka
        clear hka cn
        gi_wp2
        exact ⟨KA.from HKA.out (by omega), hJ', KeepsFrom.trans HK3.out (KA.from HKA.out (Nat.le_of_lt hW0s))⟩
    case bleft =>
      rintro Y ⟨h1, h2⟩
      gi_wp2
      exact ⟨(HKX.out.from _).trans h2, h1⟩
    case bdone =>
      rintro Y ⟨h1, h2, h3⟩
      gi_wp2
      exact ⟨(HKX.out.from _).trans h3, by rw [HPN.out]; exact h1, h2, by have := h2.lt; omega⟩
  case left =>
    rintro D X hD h1 hDX
    have HDX : Hid _ := hDX
    clear hDX
    gi_wp2
    refine ⟨by simp, .inl ⟨_, _, rfl, run_takeDeferred HDX.out, ?_⟩⟩
    exact ⟨_, results_none rfl _ _ _, ⟨_, rfl⟩, .inr (HXp.out _ _ _ _ (by omega) h1 HDX.out rfl)⟩
  case done =>
    rintro D X hD ⟨h1, h2, h3⟩ hDX
    have HDX : Hid _ := hDX
    clear hDX
    gi_wp2
    refine ⟨by simp, .inl ⟨_, _, rfl, run_takeDeferred HDX.out, ?_⟩⟩
    exact ⟨_, results_none rfl _ _ _, ⟨_, rfl⟩, .inl (HJp.out _ _ _ _ _ (by omega) h1 HDX.out rfl)⟩
end Go.Proofs.YtaeobgajhieajaaGreatDoor
