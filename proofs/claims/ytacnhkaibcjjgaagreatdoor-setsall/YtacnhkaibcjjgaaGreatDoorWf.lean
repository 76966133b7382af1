/-
  What is proved here: sets.walk.from, where a round may write the sets that it is handed.
-/
import Derived.Test.YtacnhkaibcjjgaaGreatDoorFf
import Derived.Test.YtacnhkaibcjjgaaGreatDoorWp
namespace Go.Proofs.YtacnhkaibcjjgaaGreatDoor
open Go.RowKit Go.Shelf
set_option linter.unusedVariables false
set_option linter.unusedSimpArgs false

/-- A block that rounds leave as it is: an old one, or one that holds no numbers. -/
def Sd (base : Nat) (W : World) (b : Nat) : Prop := b < base ∨ (b < W.heap.size ∧ ∀ cur, W.heap[b]? ≠ some (.cells cur 95 (0, 0)))
theorem Sd.of_type {base : Nat} {W : World} {b : Nat} {cs : Array Value} {t : TypeId} {fz : Nat × Nat} (h : W.heap[b]? = some (.cells cs t fz)) (ht : t ≠ 95) : Sd base W b :=
  .inr ⟨(Array.getElem?_eq_some_iff.1 h).1, fun cur e => by rw [h] at e; injection e with e; injection e with _ e _; exact ht e⟩
/-- What a round keeps: all steady blocks but A. -/
def Kq (A base : Nat) (W W' : World) : Prop := W.heap.size ≤ W'.heap.size ∧ ∀ b, b ≠ A → Sd base W b → Sd base W' b ∧ ∀ o v, W.cell? ⟨b, o, none⟩ = some v → W'.cell? ⟨b, o, none⟩ = some v
theorem Kq.cell {A base : Nat} {W W' : World} (h : Kq A base W W') {b o : Nat} {v : Value} (hb : b ≠ A) (hs : Sd base W b) (hc : W.cell? ⟨b, o, none⟩ = some v) : W'.cell? ⟨b, o, none⟩ = some v := (h.2 b hb hs).2 o v hc
theorem Kq.refl (A base : Nat) (W : World) : Kq A base W W := ⟨Nat.le_refl _, fun _ _ h => ⟨h, fun _ _ h => h⟩⟩
theorem Kq.trans {A base : Nat} {X Y Z : World} (h : Kq A base X Y) (k : Kq A base Y Z) : Kq A base X Z :=
  ⟨Nat.le_trans h.1 k.1, fun b hb hs => ⟨(k.2 b hb (h.2 b hb hs).1).1, fun o v hc => (k.2 b hb (h.2 b hb hs).1).2 o v ((h.2 b hb hs).2 o v hc)⟩⟩
theorem cell_lt {W : World} {b o : Nat} {v : Value} (hc : W.cell? ⟨b, o, none⟩ = some v) : b < W.heap.size := by
  apply Classical.byContradiction; intro hn
  have : W.heap[b]? = none := Array.getElem?_eq_none (by simpa using hn)
  simp [World.cell?, this] at hc
theorem Kq.below {A base : Nat} {W W' : World} (h : Below W.heap.size W W') : Kq A base W W' :=
  ⟨h.size, fun b _ hs => ⟨hs.imp id fun ⟨h1, h2⟩ => ⟨Nat.lt_of_lt_of_le h1 h.size, fun cur => by rw [h.block b h1]; exact h2 cur⟩,
    fun o v hc => (h.cell (p := ⟨b, o, none⟩) (cell_lt hc)).trans hc⟩⟩
theorem Kq.alloc (A base : Nat) (W : World) (o : Obj) : Kq A base W (W.alloc o) := Kq.below ((Below.refl _ W).alloc (Nat.le_refl _) o)
theorem beg_rangeQ {A base : Nat} {W0 w : World} {B : Nat} {T : Array Value} (hBA : B ≠ A) (h : W0.heap[B]? = some (.cells T 91 (0, 0))) (hk : Kq A base W0 w) : w.rangeAt B 0 T.toList := by
  intro j v hj
  rw [Array.getElem?_toList] at hj
  rw [Nat.zero_add]
  exact hk.cell hBA (Sd.of_type h (by decide)) ((cell_row h j).trans hj)
theorem beg_bitsQ {A base : Nat} {W0 w : World} {B : Nat} {f : Nat → Bool} {a h n : Int} (hBA : B ≠ A) (h : W0.heap[B]? = some (.cells (begV f a h n) 91 (0, 0))) (hk : Kq A base W0 w) : w.rangeAt B 0 (bits64 f).toList :=
  bits_range fun j hj => hk.cell hBA (Sd.of_type h (by decide)) ((cell_row h j).trans ((beg_get f a _ n).1 j hj))

/-- How a walk ends: all was told, or it was left. -/
def FromOutQ (A base : Nat) (W : World) (J Jx : List (List Int) → World → Prop) (p L : List (List Int)) (e : Ending) (w' : World) : Prop :=
  ∃ b, e = .returned (.bool b) ∧ Kq A base W w' ∧ (if b = true then J (p ++ L) w' else ∃ q r, q ++ r = L ∧ Jx (p ++ q) w')

set_option maxRecDepth 100000 in
set_option maxHeartbeats 4000000 in
theorem from2_any (A base Wb lr : Nat) (hWA : Wb ≠ A) (up : List Int) (hul : up.length ≤ 64) (mustF : Nat → Bool) (least most : Int) (ad : Option Addr) (cap : Nat) (G : World → Prop)
    (hG : ∀ w, G w → w.cell? ⟨Wb, 3, none⟩ = some (.slice ad up.length cap) ∧ w.cell? ⟨Wb, 4, none⟩ = some (.int .i64 least) ∧ w.cell? ⟨Wb, 5, none⟩ = some (.int .i64 most) ∧ w.cell? ⟨Wb, 70, none⟩ = some (.func (.yield lr) #[] #[]))
    (hGm : ∀ w, G w → ∀ i, i < 64 → w.cell? ⟨Wb, 6 + i, none⟩ = some (.bool (mustF i))) (hGs : ∀ w, G w → Si w (.slice ad up.length cap) up) (hGA : ∀ w, G w → A < w.heap.size) (hGz : ∀ w, G w → base ≤ w.heap.size)
    (hGk : ∀ w w', G w → Kq A base w w' → G w') (J Jx : List (List Int) → World → Prop) (hJb : ∀ p w w', J p w → Below w.heap.size w w' → J p w') (FULL : List (List Int))
    (hY : ∀ m p l v w, (∃ r, p ++ [l] ++ r = FULL) → J p w → G w → Si w v l → Wr95 w base v → ∃ fn tmps assign body, (Instr.yield lr #[v]).run Tryz.prog w = .ok (.round lr fn tmps assign body) w ∧
      RoundIn Fence.wide m Tryz.prog lr fn tmps assign body w fun e w' => (e = .returned (.bool true) ∧ J (p ++ [l]) w' ∧ Kq A base w w') ∨ (e = .returned (.bool false) ∧ Jx (p ++ [l]) w' ∧ Kq A base w w')) :
    ∀ (k n at_ : Nat) (f : Nat → Bool) (h needed : Int) (p : List (List Int)) (W : World), at_ ≤ up.length → up.length - at_ = k → 0 ≤ h → h ≤ at_ → -(at_ : Int) ≤ needed → needed ≤ 64 → G W → J p W → (∃ r, p ++ (ownS up least f h needed ++ lp up mustF least most k f at_ h needed) ++ r = FULL) →
      CallsIn Fence.wide n Tryz.prog 83 #[.pointer (some ⟨Wb, 0, none⟩), .agg (begV f at_ h needed)] W (FromOutQ A base W J Jx p (ownS up least f h needed ++ lp up mustF least most k f at_ h needed)) := by
  intro k
  induction k using Nat.strongRecOn with
  | _ k ih =>
  intro n at_ f h needed p W hat hk hh0 hh1 hn0 hn1 hGW hJW hFU
  obtain ⟨own, hown⟩ : ∃ o, ownS up least f h needed = o := ⟨_, rfl⟩
  obtain ⟨L, hL⟩ : ∃ L, own ++ lp up mustF least most k f at_ h needed = L := ⟨_, rfl⟩
  rw [hown, hL]
  rw [hown, hL] at hFU
  obtain ⟨rF, hFU⟩ := hFU
  obtain ⟨m, hm⟩ : ∃ m, up.length = m := ⟨_, rfl⟩
  have hBs := beg_size f at_ h needed
  obtain ⟨BV, hBV⟩ : ∃ B, begV f at_ h needed = B := ⟨_, rfl⟩
  rw [hBV] at hBs ⊢
  have hA := hGA W hGW
  refine callsIn_of_wp Tryz.func83 rfl trivial ?_ rfl
  simp only [Tryz.ntmps83, List.size_toArray, List.length_cons, List.length_nil, Nat.reduceAdd, Nat.reduceSub, Array.replicate_succ, Array.replicate_zero, List.push_toArray, List.append_toArray, List.nil_append, List.cons_append]
  gi_upto_region 1 with (fail)
  have hR : (W.alloc (Obj.cells BV 91)).heap[W.heap.size]? = some (.cells BV 91 (0, 0)) := World.alloc_heap_new W _
  have hKW : Kq A base W (W.alloc (Obj.cells BV 91)) := Kq.alloc _ _ _ _
  have hbW : Below W.heap.size W (W.alloc (Obj.cells BV 91)) := (Below.refl _ W).alloc (Nat.le_refl _) _
  have hBA : W.heap.size ≠ A := by omega
  generalize W.heap.size = B at hR hBA hbW hA ⊢
  generalize hW0 : W.alloc (Obj.cells BV 91) = W0 at hR hKW hbW ⊢
  have hG0 : G W0 := hGk _ _ hGW hKW
  have hJ0 : J p W0 := by rw [← hW0]; exact hJb _ _ _ hJW ((Below.refl _ W).alloc (Nat.le_refl _) _)
  have hR' : W0.heap[B]? = some (.cells (begV f at_ h needed) 91 (0, 0)) := by rw [hBV]; exact hR
  obtain ⟨g1, g2, g3, g4⟩ := beg_get f at_ h needed
  have hcells : ∀ w, Kq A base W0 w → w.cell? ⟨B, 64, none⟩ = some (.int .i64 at_) ∧ w.cell? ⟨B, 65, none⟩ = some (.int .i64 h) ∧ w.cell? ⟨B, 66, none⟩ = some (.int .i64 needed) := fun w hw =>
    ⟨hw.cell hBA (Sd.of_type hR' (by decide)) ((cell_row hR' 64).trans g2), hw.cell hBA (Sd.of_type hR' (by decide)) ((cell_row hR' 65).trans g3), hw.cell hBA (Sd.of_type hR' (by decide)) ((cell_row hR' 66).trans g4)⟩
  have hGall : ∀ w, Kq A base W0 w → G w := fun w hw => hGk _ _ hG0 hw
  refine r1_any95 n lr Wb B base f h least needed (.slice ad up.length cap) up hul (Kq A base W0) (fun b w => if b = true then J (p ++ own) w else Jx (p ++ own) w)
    (fun w hw => ⟨(hcells w hw).2.2, (hcells w hw).2.1, (hG w (hGall w hw)).2.1, (hG w (hGall w hw)).1, (hG w (hGall w hw)).2.2.2⟩)
    (fun w hw => beg_bitsQ hBA hR' hw) (fun w hw => hGs w (hGall w hw)) (fun w w' hw hb => hw.trans (Kq.below hb)) (J p) (hJb p) (fun w hw => hGz w (hGall w hw)) ?_ ?_ _ ?_ ?_ W0 (Kq.refl _ _ _) hJ0
  · intro e1 e2 v w hw hJw hv hv2
    have ho : own = [pickL up f true up.length] := by rw [← hown]; unfold ownS; rw [if_pos ⟨e1, e2⟩]
    obtain ⟨fn, tmps, assign, body, hy, hRd⟩ := hY (n - 1) p _ v w ⟨lp up mustF least most k f at_ h needed ++ rF, by rw [← hFU, ← hL, ho]; simp⟩ hJw (hGall w hw) hv hv2
    refine ⟨fn, tmps, assign, body, hy, hRd.mono ?_⟩
    rintro e w' (⟨rfl, h1, h2⟩ | ⟨rfl, h1, h2⟩)
    · exact ⟨true, rfl, hw.trans h2, by rw [if_pos rfl, ho]; exact h1⟩
    · exact ⟨false, rfl, hw.trans h2, by rw [if_neg (by simp), ho]; exact h1⟩
  · intro hno w hJw
    have ho : own = [] := by rw [← hown]; unfold ownS; rw [if_neg hno]
    rw [if_pos rfl, ho, List.append_nil]; exact hJw
  · intro c a d v w h; cases d <;> exact h
  rintro b w1 y7 y8 y9 y10 y11 y12 y13 y14 y15 y16 y17 y18 y19 y20 y21 y22 y23 y24 y25 y26 y27 y28 y29 y30 y31 y32 y33 y34 hKw1 hU
  cases b
  · rw [if_neg (by simp)] at hU
    gi_wp2
    go_ret
    exact ⟨false, rfl, hKW.trans hKw1, by rw [if_neg (by simp)]; exact ⟨own, _, hL, hU⟩⟩
  rw [if_pos rfl] at hU
  obtain ⟨c64, c65, c66⟩ := hcells w1 hKw1
  have HC : Hid (∀ w, Kq A base W0 w → w.cell? ⟨B, 64, none⟩ = some (.int .i64 at_) ∧ w.cell? ⟨B, 65, none⟩ = some (.int .i64 h) ∧ w.cell? ⟨B, 66, none⟩ = some (.int .i64 needed)) := hcells
  clear c65 c66 hcells
  gi_wp2
  gi_loopw [5] (fun i wr => ∃ j : Nat, at_ ≤ j ∧ j ≤ m ∧ i = .int .i64 j ∧ Kq A base W0 wr ∧ ∃ done, J (p ++ done) wr ∧ done ++ lp up mustF least most (m - j) f j h needed = L) (fun i _ => m - (intOf i).toNat)
  case atStart => exact ⟨at_, Nat.le_refl _, by omega, rfl, hKw1, own, hU, by rw [show m - at_ = k by omega]; exact hL⟩
  case round =>
    obtain ⟨j, hj1, hj2, rfl, hKj, done, hJj, hLj⟩ := hrel
    by_cases hc : j < up.length ∧ least ≤ h + (up.length : Int) - (j : Int)
    · obtain ⟨hc1, hc2⟩ := hc
      have hw1 : IntKind.i64.wrap (h + (up.length : Int)) = h + (up.length : Int) := wrap_small (by omega) (by omega)
      have hw2 : IntKind.i64.wrap (h + (up.length : Int) - (j : Int)) = h + (up.length : Int) - (j : Int) := wrap_small (by omega) (by omega)
      obtain ⟨k', hk'⟩ : ∃ k', m - j = k' + 1 := ⟨m - j - 1, by omega⟩
      rw [hk'] at hLj
      have hlp : lp up mustF least most (k' + 1) f j h needed = (if h + 1 + decN needed (mustF j) ≤ most then ownS up least (setF f j) (h + 1) (decN needed (mustF j)) ++ lp up mustF least most k' (setF f j) (j + 1) (h + 1) (decN needed (mustF j)) else []) ++ (if mustF j = true then [] else lp up mustF least most k' f (j + 1) h needed) := by
        rw [lp]; rw [if_pos ⟨hc1, hc2⟩]
      rw [hlp] at hLj
      clear hlp
      obtain ⟨sub, hsub⟩ : ∃ s, (if h + 1 + decN needed (mustF j) ≤ most then ownS up least (setF f j) (h + 1) (decN needed (mustF j)) ++ lp up mustF least most k' (setF f j) (j + 1) (h + 1) (decN needed (mustF j)) else []) = s := ⟨_, rfl⟩
      rw [hsub] at hLj
      have hmb : decN needed (mustF j) = needed ∨ decN needed (mustF j) = needed - 1 := by unfold decN; cases mustF j <;> simp
      have hwT := fun w => with_any f j (by omega) at_ h needed (mustF j) ⟨hh0, by omega⟩ ⟨by omega, by omega⟩ w
      obtain ⟨n1, hn1⟩ : ∃ x, decN needed (mustF j) = x := ⟨_, rfl⟩
      rw [hn1] at hsub hmb hwT
      rw [hBV] at hwT
      have hTs := beg_size (setF f j) ((j : Int) + 1) (h + 1) n1
      have hTo := beg_one (setF f j) ((j : Int) + 1) (h + 1) n1
      obtain ⟨t1, t2, t3, t4⟩ := beg_get (setF f j) ((j : Int) + 1) (h + 1) n1
      have hw3 : IntKind.i64.wrap (h + 1 + n1) = h + 1 + n1 := wrap_small (by omega) (by omega)
      have hKb : ∀ w w', Kq A base W0 w → Below w.heap.size w w' → Kq A base W0 w' := fun w w' hw hb => hw.trans (Kq.below hb)
      gi_upto_region 4 with (fail)
      refine r4_in n Wb B j up.length cap ad h least (by omega) hw1 hw2 (Kq A base W0) (fun w hw => ⟨(HC.out w hw).2.1, (hG w (hGall w hw)).2.1, (hG w (hGall w hw)).1⟩) hKb _ (by intro c a d v w h; cases d <;> exact h) _ hKj ?_
      intro z38 z39 z40 z41 z42 z43 z44 z45 z46 z47 z48 z49 z50 z51 z52 z53 z54 z55 z56 z57 z58 z59 z60 z61 z62 z63
      rw [decide_eq_true hc2]
      have hK4 : Kq A base W0 wr.drew := hKb _ _ hKj (Below.drew (Below.refl _ wr))
      have hJ4 : J (p ++ done) wr.drew := hJb _ _ _ hJj (Below.drew (Below.refl _ wr))
      generalize wr.drew = w4 at hK4 hJ4 ⊢
      gi_upto_region 6 with (fail)
      refine r6 n Wb B j (by omega) BV (begV (setF f j) ((j : Int) + 1) (h + 1) n1) hBs hTs hTo (mustF j) (Kq A base W0) (fun w hw => hGm w (hGall w hw) j (by omega)) (fun w hw => beg_rangeQ hBA hR hw) hKb hwT _ (by intro c a d v w h; cases d <;> exact h) _ hK4 ?_
      intro R w6 z67 z68 z69 z70 z71 z72 z73 z74 z75 hR6 hg6 hb6
      have hK6 : Kq A base W0 w6 := hKb _ _ hK4 hb6
      have hJ6 : J (p ++ done) w6 := hJb _ _ _ hJ4 hb6
      have hRA : R ≠ A := by have := hGA _ (hGall _ hK4); omega
      gi_upto_region 7 with (fail)
      refine r7_any n Wb R (h + 1) n1 most hw3 (begV (setF f j) ((j : Int) + 1) (h + 1) n1) hTs (fun w => Kq A base W0 w ∧ Kq A base w6 w) (fun b w => if b = true then J (p ++ (done ++ sub)) w else ∃ q r, q ++ r = done ++ sub ∧ Jx (p ++ q) w)
        (fun w hw => ⟨hw.2.cell hRA (Sd.of_type hg6 (by decide)) ((cell_row hg6 65).trans t3), hw.2.cell hRA (Sd.of_type hg6 (by decide)) ((cell_row hg6 66).trans t4), (hG w (hGall w hw.1)).2.2.1⟩)
        (fun w w' hw hb => ⟨hw.1.trans (Kq.below hb), hw.2.trans (Kq.below hb)⟩) (fun w hw => beg_rangeQ hRA hg6 hw.2) (J (p ++ done)) (hJb _) ?_ ?_ _ (by intro c a d v w h; cases d <;> exact h) w6 ⟨hK6, Kq.refl _ _ _⟩ hJ6 ?_
      · intro hle w hw hJw
        have hs : sub = ownS up least (setF f j) (h + 1) n1 ++ lp up mustF least most k' (setF f j) (j + 1) (h + 1) n1 := by rw [← hsub, if_pos hle]
        refine (ih k' (by omega) (n - 1) (j + 1) (setF f j) (h + 1) n1 (p ++ done) w (by omega) (by omega) (by omega) (by omega) (by omega) (by omega) (hGall w hw.1) hJw ⟨(if mustF j = true then [] else lp up mustF least most k' f (j + 1) h needed) ++ rF, by rw [← hs, ← hFU, ← hLj]; simp⟩).mono ?_
        rintro e w' ⟨b, rfl, hk9, hif⟩
        refine ⟨b, rfl, ⟨hw.1.trans hk9, hw.2.trans hk9⟩, ?_⟩
        rw [← hs] at hif
        cases b
        · rw [if_neg (by simp)] at hif ⊢
          obtain ⟨q, r, hqr, hx⟩ := hif
          exact ⟨done ++ q, r, by rw [List.append_assoc, hqr], by rw [← List.append_assoc]; exact hx⟩
        · rw [if_pos rfl] at hif ⊢
          rw [← List.append_assoc]; exact hif
      · intro hgt w hJw
        have hs : sub = [] := by rw [← hsub, if_neg hgt]
        rw [if_pos rfl, hs, List.append_nil]; exact hJw
      intro b w7 z76 z77 z78 z79 z80 z81 z82 z83 z84 z85 z86 z87 z88 z89 z90 z91 hS7 hU7
      cases b
      · rw [if_neg (by simp)] at hU7
        gi_wp2
        go_ret
        refine ⟨false, rfl, hKW.trans hS7.1, ?_⟩
        rw [if_neg (by simp)]
        obtain ⟨q, r, hqr, hx⟩ := hU7
        exact ⟨q, r ++ _, by rw [← List.append_assoc q, hqr, List.append_assoc]; exact hLj, hx⟩
      · rw [if_pos rfl] at hU7
        have hm7 := hGm w7 (hGall w7 hS7.1) j (by omega)
        have hj64 : (j : Int) < 64 := by omega
        obtain ⟨mu, hmu⟩ : ∃ x, mustF j = x := ⟨_, rfl⟩
        rw [hmu] at hm7 hLj
        have hj1w : IntKind.i64.wrap ((j : Int) + 1) = (j : Int) + 1 := wrap_small (by omega) (by omega)
        cases mu
        · rw [if_neg (by simp), ← List.append_assoc] at hLj
          gi_wp2
          go_roundw
          case rel => exact ⟨j + 1, by omega, by omega, by go_num, hS7.1, done ++ sub, hU7, by rw [show m - (j + 1) = k' by omega]; exact hLj⟩
          case measure => simp [intOf]; omega
        · rw [if_pos rfl, List.append_nil] at hLj
          gi_wp2
          go_ret
          exact ⟨true, rfl, hKW.trans hS7.1, by rw [if_pos rfl, ← hLj]; exact hU7⟩
    · have hdone : done = L := by rw [← hLj, lp_stop (by omega) hc, List.append_nil]
      have hend : ∀ w, Kq A base W0 w → J (p ++ done) w → FromOutQ A base W J Jx p L (Ending.returned (Value.bool true)) w := fun w hw hJw =>
        ⟨true, rfl, hKW.trans hw, by rw [if_pos rfl, ← hdone]; exact hJw⟩
      have hdr : Kq A base W0 wr.drew := hKj.trans (Kq.below (Below.drew (Below.refl _ wr)))
      have hJdr : J (p ++ done) wr.drew := hJb _ _ _ hJj (Below.drew (Below.refl _ wr))
      have hw1 : IntKind.i64.wrap (h + (up.length : Int)) = h + (up.length : Int) := wrap_small (by omega) (by omega)
      have hw2 : IntKind.i64.wrap (h + (up.length : Int) - (j : Int)) = h + (up.length : Int) - (j : Int) := wrap_small (by omega) (by omega)
      gi_upto_region 4 with (fail)
      by_cases hlt : (j : Int) < (up.length : Int)
      · refine r4_in n Wb B j up.length cap ad h least hlt hw1 hw2 (Kq A base W0) (fun w hw => ⟨(HC.out w hw).2.1, (hG w (hGall w hw)).2.1, (hG w (hGall w hw)).1⟩) (fun w w' hw hb => hw.trans (Kq.below hb)) _ (by intro c a d v w h; cases d <;> exact h) _ hKj ?_
        intro z38 z39 z40 z41 z42 z43 z44 z45 z46 z47 z48 z49 z50 z51 z52 z53 z54 z55 z56 z57 z58 z59 z60 z61 z62 z63
        rw [decide_eq_false (fun h => hc ⟨by omega, h⟩)]
        gi_wp2
        go_ret
        exact hend _ hdr hJdr
      · refine r4_out n Wb B j up.length cap ad h least hlt hw1 hw2 (Kq A base W0) (fun w hw => ⟨(HC.out w hw).2.1, (hG w (hGall w hw)).2.1, (hG w (hGall w hw)).1⟩) (fun w w' hw hb => hw.trans (Kq.below hb)) _ (by intro c a d v w h; cases d <;> exact h) _ hKj ?_
        intro z38 z39 z40 z41 z42 z43 z44 z45 z46 z47 z48 z49 z50 z51 z52 z53 z54 z55 z56 z57 z58 z59 z60 z61 z62 z63
        gi_wp2
        go_ret
        exact hend _ hdr hJdr
end Go.Proofs.YtacnhkaibcjjgaaGreatDoor
