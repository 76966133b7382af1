/-
  What is proved here: the tokens of any text, as package lex reads them.
-/
import Derived.Test.YtokcbiafajpmoaaDoorLs
namespace Go.Proofs.YtokcbiafajpmoaaDoor
open Go.RowKit
set_option linter.unusedVariables false
set_option linter.unusedSimpArgs false
/-- The cells of a token, of tokens. -/
def tokC (t : Tok) : List Value := [.int .i64 t.k, .string (bs t.tx), .int .i64 t.n, .int .i64 (t.p : Int)]
def flatT (l : List Tok) : List Value := l.flatMap tokC
theorem flatT_len (l : List Tok) : (flatT l).length = l.length * 4 := by
  induction l with
  | nil => rfl
  | cons t r ih => simp only [flatT, List.flatMap_cons, List.length_append, List.length_cons] at ih ⊢; rw [ih]; simp [tokC]; omega
theorem flatT_app (l r : List Tok) : flatT (l ++ r) = flatT l ++ flatT r := by simp [flatT]
theorem flatT_one (t : Tok) : flatT [t] = tokC t := by simp [flatT]
theorem tokC_one {t : Tok} : ∀ u ∈ tokC t, u.oneCell' = true := by intro u hu; simp [tokC] at hu; rcases hu with rfl | rfl | rfl | rfl <;> rfl
theorem Tryd.info23 : (Tryd.prog.info? 23).map (fun i => (i.zero, i.size, i.bytes)) = some (some (.agg #[.int .i64 0, .string ⟨#[]⟩, .int .i64 0, .int .i64 0]), 4, 40) := by kernel_rfl
theorem Rw.keep {w w' : World} {g : Nat} {t : TypeId} {cs : Array Value} {row : Option Nat} (h : Rw w g t cs) (hg : w.grownBy w' row) (hne : some g ≠ row) : Rw w' g t cs := ⟨(hg.block g h.lt hne).trans h.h⟩
theorem own_below {w w' : World} {B : Nat} {e : TypeId} {s : Nat} {v : Value} {n : Nat} {xs : List Value} (h : w.ownsRow B e s v n xs) (hb : Below w.heap.size w w') : w'.ownsRow B e s v n xs :=
  ⟨h.1, by
    rcases h.2 with h2 | ⟨g, cap, cur, e1, hB, hg, r⟩
    · exact .inl h2
    · exact .inr ⟨g, cap, cur, e1, hB, (hb.block g (Array.getElem?_eq_some_iff.1 hg).1).trans hg, r⟩⟩
theorem own_setRow {w : World} {B : Nat} {e t : TypeId} {s : Nat} {v : Value} {n g : Nat} {xs : List Value} {old : Array Value} (h : w.ownsRow B e s v n xs) (hg : Rw w g t old) (ht : t ≠ e) (cs : Array Value) : (w.setRow g cs).ownsRow B e s v n xs :=
  ⟨h.1, by
    rcases h.2 with h2 | ⟨g', cap, cur, e1, hB, hgb, r⟩
    · exact .inl h2
    · refine .inr ⟨g', cap, cur, e1, hB, ?_, r⟩
      rw [setRow_other w g g' cs (fun e2 => by subst e2; rw [hg.h] at hgb; simp only [Option.some.injEq, Obj.cells.injEq] at hgb; exact ht hgb.2.1)]
      exact hgb⟩
theorem own_base {w : World} {B B' : Nat} {e : TypeId} {s : Nat} {v : Value} {n : Nat} {xs : List Value} (h : w.ownsRow B e s v n xs) (hB : B' ≤ B) : w.ownsRow B' e s v n xs :=
  ⟨h.1, by
    rcases h.2 with h2 | ⟨g, cap, cur, e1, hb, r⟩
    · exact .inl h2
    · exact .inr ⟨g, cap, cur, e1, Nat.le_trans hB hb, r⟩⟩
/-- A token is put behind tokens. -/
theorem wpList_app_t {ops : Array Oper} {rest : List Oper} {o : Oper} {a : Act} {Q : Exit → Act → World → Prop} {w : World} (hgd : o.guard = none) (s x : Operand)
    (ho : o.op = .call { callee := .builtin .append, args := #[s, x], argTypes := #[24, 24] })
    (base : Nat) (v : Value) (D : List Tok) (t : Tok) (hs : a.eval s = v) (hown : w.ownsRow base 23 4 v D.length (flatT D))
    (g : Nat) (hx : a.eval x = .slice (some ⟨g, 0, none⟩) 1 1) (hR : Rw w g 23 (tokC t).toArray) (hlen : D.length ≤ 1000000) (hbase : base ≤ w.heap.size)
    (h : ∀ v' w', w'.ownsRow base 23 4 v' (D ++ [t]).length (flatT (D ++ [t])) → w.grownBy w' v.ownBlock → Below base w w' → wpList Tryd.prog ops Q rest (a.put o.dst v') w') : wpList Tryd.prog ops Q (o :: rest) a w := by
  obtain ⟨i0, hi0, hz0, hz1, hz2⟩ := info_parts Tryd.info23
  refine wpList_append_own w hgd s x 24 ho base 23 i0 _ 4 40 Tryd.underlying24 hi0 hz0 hz1 hz2 rfl (by decide) v D.length (flatT D) hs hown ⟨g, 0, none⟩ 1 1 (tokC t) hx rfl ?_ tokC_one (by unfold maxLen; omega) (by omega) hbase ?_
  · intro j u hj
    rw [Addr.add_lit, Nat.zero_add]
    exact hR.cell j u (by simpa using hj)
  · intro v' w' h1 h2 _
    refine h v' w' ?_ h2 ((Below.refl base w).grown h2 hbase (fun k e => (World.ownsRow.lt hown k e).1))
    rw [List.length_append, flatT_app, flatT_one]
    exact h1
theorem res18 (tmps : Array Value) (X : World) (g : Nat) (v x y : Value) (hR : Rw X g 40 #[x, y]) (h2 : tmps.getD 2 undef = v) (h3 : tmps.getD 3 undef = .pointer (some ⟨g, 0, none⟩)) :
    (results Tryd.f18 tmps).run Tryd.prog X = .ok (.tuple #[v, .agg #[x, y]]) X := by
  have c0 : X.cell? ⟨g, 0, none⟩ = some x := hR.cell 0 _ rfl
  have c1 : X.cell? ⟨g, 1, none⟩ = some y := hR.cell 1 _ rfl
  have h2' : tmps[2]?.getD undef = v := by simpa using h2
  have h3' : tmps[3]?.getD undef = .pointer (some ⟨g, 0, none⟩) := by simpa using h3
  simp [results, Tryd.results18, h2', h3', asAddr, Sem.run_bind, Result.andThen, go_sem, c0, c1]

set_option maxRecDepth 100000 in
set_option maxHeartbeats 4000000 in
theorem tokens_long (b : List UInt8) (hb : 65536 < b.length) (W : World) :
    Calls Tryd.prog 18 #[.string (bs b)] W fun e w' => e = .returned (.tuple #[.slice none 0 0, .agg #[.int .i64 3, .int .i64 0]]) ∧ Below W.heap.size W w' := by
  have hmf : ∀ (fn : Fn) (first cap : Array Value) (w : World), (Instr.makeFunc fn first cap).run Tryd.prog w = .ok (.func fn first cap) w := fun _ _ _ _ => rfl
  have hsz : (65536 : Int) < ((bs b).size : Int) := by have := bs_size b; omega
  go_enter_defers Tryd.func18, Tryd.ntmps18
  go_wp2
  refine leaves_cons (f := 27) (args := #[.pointer (some ⟨W.heap.size, 0, none⟩)]) (by simp) (by simp [go_sem]) ?_
  refine (catch_panicking W.heap.size 3 0 (.int .i64 0) (.int .i64 0) [] _ (Rw.new _ _ _)).mono ?_
  rintro e u' w'' ⟨rfl, rfl, rfl⟩
  have hR := (Rw.new W 40 #[.int .i64 0, .int .i64 0]).set #[.int .i64 3, .int .i64 ((0 : Nat) : Int)]
  have hbel := below_setRow ((Below.refl W.heap.size W).alloc (Nat.le_refl _) (Obj.cells #[.int .i64 0, .int .i64 0] 40)) (Nat.le_refl _) #[.int .i64 3, .int .i64 ((0 : Nat) : Int)]
  simp only [Leaves, settle]
  exact ⟨_, res18 _ _ _ _ _ _ hR rfl rfl, rfl, hbel⟩

/-- What is known while a text is read: the tokens so far, and what is still to come. -/
def Sofar (b : List UInt8) (D : List Tok) (a : Nat) : Prop := D ++ (toks (b.drop a) a).1 = (toks b 0).1 ∧ (toks (b.drop a) a).2 = (toks b 0).2

set_option maxRecDepth 100000 in
set_option maxHeartbeats 4000000 in
theorem tokens_short (b : List UInt8) (hb : b.length ≤ 65536) (W : World) (hE : ErrV W) :
    Calls Tryd.prog 18 #[.string (bs b)] W fun e w' => ∃ v, e = .returned (.tuple #[v, .agg #[.int .i64 (toks b 0).2.1, .int .i64 ((toks b 0).2.2 : Int)]]) ∧ w'.ownsRow W.heap.size 23 4 v (toks b 0).1.length (flatT (toks b 0).1) ∧ Below W.heap.size W w' := by
  have hmf : ∀ (fn : Fn) (first cap : Array Value) (w : World), (Instr.makeFunc fn first cap).run Tryd.prog w = .ok (.func fn first cap) w := fun _ _ _ _ => rfl
  have hsz : (bs b).size = b.length := bs_size b
  obtain ⟨n, hn⟩ : ∃ n, b.length = n := ⟨_, rfl⟩
  have HN : Hid (b.length = n) := hn
  have hbl := fun (a : Nat) (h : a ≤ b.length) X => blanks_any b a h (by omega) X
  have hnx := fun (a : Nat) (h : a ≤ b.length) X (hX : ErrV X) => next_any b a h hb X hX
  rw [hn] at hsz hb
  simp only [hn] at hbl hnx
  have hlt : ¬ (65536 : Int) < (n : Int) := by omega
  obtain ⟨w1, hW1⟩ : ∃ X, W.alloc (Obj.cells #[.int .i64 0, .int .i64 0] 40) = X := ⟨_, rfl⟩
  have hb1 : Below W.heap.size W w1 := by rw [← hW1]; exact (Below.refl _ W).alloc (Nat.le_refl _) _
  have hs1 : w1.heap.size = W.heap.size + 1 := by rw [← hW1]; simp
  have HROW : Hid (Rw w1 W.heap.size 40 #[.int .i64 0, .int .i64 0]) := by unfold Hid; rw [← hW1]; exact Rw.new _ _ _
  have HW1 : Hid _ := hW1
  have HB1 : Hid _ := hb1
  have HE1 : Hid (ErrV w1) := hE.self hb1
  have HS1 : Hid (w1.heap.size = W.heap.size + 1) := hs1
  have HBL : Hid _ := hbl
  have HNX : Hid _ := hnx
  clear hn hW1 hb1 hE hs1 hbl hnx
  go_enter_defers Tryd.func18, Tryd.ntmps18
  go_upto_region 2 with (fail)
  rw [HW1.out]
  clear HW1
  go_wp2
  go_loopw [2, 4] (fun lv i wr => ∃ (D : List Tok) (a : Nat), i = .int .i64 (a : Int) ∧ a ≤ n ∧ D.length ≤ a ∧ wr.ownsRow w1.heap.size 23 4 lv D.length (flatT D) ∧ Hid (Sofar b D a) ∧ Hid (Below w1.heap.size w1 wr)) (fun _ i _ => n - (intOf i).toNat)
  case atStart => exact ⟨[], 0, rfl, by omega, by simp, World.ownsRow_nil _ _ _ _, ⟨rfl, rfl⟩, Below.refl _ _⟩
  case round =>
    obtain ⟨D, a, rfl, han, hDa, hown, HS, HB⟩ := hrel
    have hqb := HBL.out a han wr
    have hskl := skp_le false (b.drop a)
    rw [List.length_drop, HN.out] at hskl
    obtain ⟨q, hq⟩ : ∃ q, skp false (b.drop a) = q := ⟨_, rfl⟩
    obtain ⟨p, hp⟩ : ∃ p, a + q = p := ⟨_, rfl⟩
    rw [hq] at hqb hskl
    rw [hp] at hqb
    have hdp : (b.drop a).drop (skp false (b.drop a)) = b.drop p := by rw [List.drop_drop, hq, hp]
    have hnq := HNX.out p (by omega) wr (HE1.out.self HB.out)
    have HOWN : Hid _ := hown
    cases hr : oneR (b.drop p) with
    | bad x =>
      have htk := toks_bad (b.drop a) a x (by rw [hdp]; exact hr)
      rw [hq, hp] at htk
      rw [hr] at hnq
      have HFIN : Hid (D = (toks b 0).1 ∧ (toks b 0).2 = (x, p)) := by
        obtain ⟨s1, s2⟩ := HS.out
        rw [htk] at s1 s2
        exact ⟨by simpa using s1, s2.symm⟩
      clear hown hr htk hdp hq hp HS
      go_wp2_with (go_at_call 29; refine hqb.mono ?_; rintro e w' ⟨rfl, rfl⟩)
      refine hnq.mono ?_
      rintro e w2 ⟨rfl, hb2⟩
      unfold endOf thrown
      have HB2 : Hid _ := hb2
      clear hb2 hnq hqb
      go_wp2
      have hR2 : Rw w2 W.heap.size 40 #[.int .i64 0, .int .i64 0] := (HROW.out.belowB HB.out (by rw [HS1.out]; omega)).below HB2.out
      refine leaves_cons (f := 27) (args := #[.pointer (some ⟨W.heap.size, 0, none⟩)]) (by simp) (by simp [go_sem]) ?_
      refine (catch_panicking W.heap.size x p _ _ [] _ hR2).mono ?_
      rintro e u' w'' ⟨rfl, rfl, rfl⟩
      simp only [Leaves, settle]
      have ho2 := own_setRow (own_below HOWN.out HB2.out) hR2 (by decide) #[.int .i64 x, .int .i64 (p : Int)]
      obtain ⟨f1, f2⟩ := HFIN.out
      refine ⟨_, res18 _ _ _ _ _ _ (hR2.set _) rfl rfl, ⟨_, by rw [f2], ?_, ?_⟩⟩
      · rw [← f1]; exact own_base ho2 (by rw [HS1.out]; omega)
      · exact below_setRow (HB1.out.trans ((HB.out.trans (HB2.out.mono HB.out.size)).mono HB1.out.size)) (Nat.le_refl _) _
    | ok k m v =>
      rw [hr] at hnq
      obtain ⟨hml, hm1, h5l⟩ := oneR_len _ _ _ _ hr
      rw [List.length_drop, HN.out] at hml
      obtain ⟨tk, htk⟩ : ∃ tk : Tok, (⟨k, (b.drop p).take m, v, p⟩ : Tok) = tk := ⟨_, rfl⟩
      have HTK : Hid _ := htk
      have HTC : Hid (tokC tk = [.int .i64 k, .string (bs ((b.drop p).take m)), .int .i64 v, .int .i64 (p : Int)]) := by unfold Hid; rw [← htk]; rfl
      have htl : (bs ((b.drop p).take m)).size = m := by rw [bs_size, List.length_take, List.length_drop, HN.out]; omega
      have HEND : Hid (k = 5 → (toks b 0).1 = D ++ [tk] ∧ (toks b 0).2 = (0, 0)) := by
        intro h5
        subst h5
        have hte := toks_end (b.drop a) a m v (by rw [hdp]; exact hr)
        have h5n := h5l.1 rfl
        have hr' := hr
        rw [h5n] at hr'
        simp only [oneR, Res.ok.injEq] at hr'
        obtain ⟨_, hm0, hv0⟩ := hr'
        have hpn : p = n := by
          have := congrArg List.length h5n
          rw [List.length_drop, HN.out] at this
          simp at this; omega
        obtain ⟨s1, s2⟩ := HS.out
        rw [hte] at s1 s2
        refine ⟨?_, s2.symm⟩
        rw [← s1, ← htk, h5n, ← hm0, ← hv0]
        simp only [List.length_drop, HN.out, List.take_nil]
        rw [show a + (n - a) = p by omega]
      have HNEXT : Hid (k ≠ 5 → Sofar b (D ++ [tk]) (p + m)) := by
        intro h5
        have hte := toks_next (b.drop a) a k m v (by rw [hdp]; exact hr) h5
        rw [hdp, hq, List.drop_drop, hp, show a + (q + m) = p + m by omega] at hte
        obtain ⟨s1, s2⟩ := HS.out
        rw [hte] at s1 s2
        refine ⟨?_, s2⟩
        rw [← s1, ← htk]; simp
      have HM1 : Hid (k ≠ 5 → 1 ≤ m) := hm1
      clear hown htk hdp hq HS hr hm1 h5l
      go_wp2_with (go_at_call 29; refine hqb.mono ?_; rintro e w' ⟨rfl, rfl⟩)
      refine hnq.mono ?_
      rintro e w2 ⟨rfl, hb2⟩
      unfold endOf tokV
      have HB2 : Hid _ := hb2
      clear hb2 hnq hqb
      go_upto_region 6 with (fail)
      obtain ⟨tx, htx⟩ : ∃ tx, bs ((b.drop p).take m) = tx := ⟨_, rfl⟩
      rw [htx] at HTC htl ⊢
      obtain ⟨w3, hW3⟩ : ∃ X, w2.alloc (Obj.cells #[.int .i64 k, .string tx, .int .i64 v, .int .i64 (p : Int)] 23) = X := ⟨_, rfl⟩
      rw [hW3]
      have hb3 : Below w2.heap.size w2 w3 := by rw [← hW3]; exact (Below.refl _ w2).alloc (Nat.le_refl _) _
      have hR3 : Rw w3 w2.heap.size 23 #[.int .i64 k, .string tx, .int .i64 v, .int .i64 (p : Int)] := by rw [← hW3]; exact Rw.new _ _ _
      have c0 : w3.cell? ⟨w2.heap.size, 0, none⟩ = some (.int .i64 k) := hR3.cell 0 _ rfl
      have c1 : w3.cell? ⟨w2.heap.size, 1, none⟩ = some (.string tx) := hR3.cell 1 _ rfl
      have c2 : w3.cell? ⟨w2.heap.size, 2, none⟩ = some (.int .i64 v) := hR3.cell 2 _ rfl
      have c3 : w3.cell? ⟨w2.heap.size, 3, none⟩ = some (.int .i64 (p : Int)) := hR3.cell 3 _ rfl
      have HR3 : Hid _ := hR3
      have HB3 : Hid _ := hb3
      have HO3 : Hid (w3.ownsRow w1.heap.size 23 4 u2 D.length (flatT D)) := own_below (own_below HOWN.out HB2.out) hb3
      have hD : D.length ≤ 1000000 := by omega
      clear hW3 hb3 hR3 htx
      have HR4 : Hid (Rw (w3.alloc (Obj.cells #[.int .i64 k, .string tx, .int .i64 v, .int .i64 (p : Int)] 23)) w3.heap.size 23 (tokC tk).toArray) := by unfold Hid; rw [HTC.out]; exact Rw.new _ _ _
      have HO4 : Hid ((w3.alloc (Obj.cells #[.int .i64 k, .string tx, .int .i64 v, .int .i64 (p : Int)] 23)).ownsRow w1.heap.size 23 4 u2 D.length (flatT D)) := own_below HO3.out ((Below.refl _ w3).alloc (Nat.le_refl _) _)
      have hsz4 : w1.heap.size ≤ (w3.alloc (Obj.cells #[.int .i64 k, .string tx, .int .i64 v, .int .i64 (p : Int)] 23)).heap.size := by
        have h1 := HB.out.size; have h2 := HB2.out.size; have h3 := HB3.out.size
        rw [World.size_alloc]; omega
      have HB13 : Hid (Below w1.heap.size w1 w3) := HB.out.trans ((HB2.out.trans (HB3.out.mono HB2.out.size)).mono HB.out.size)
      go_upto_region 7 with (at_builtin; refine wpList_app_t rfl (.tmp 17) (.tmp 19) rfl w1.heap.size _ D tk rfl HO4.out w3.heap.size rfl HR4.out hD hsz4 ?_; intro lv5 w5 hown5 hgrow5 hb5)
      have hrb : ∀ j, u2.ownBlock = some j → j < w2.heap.size := fun j e => (World.ownsRow.lt (own_below HOWN.out HB2.out) j e).2
      have hR5 := (HR3.out.alloc (Obj.cells #[.int .i64 k, .string tx, .int .i64 v, .int .i64 (p : Int)] 23)).keep hgrow5 (fun e => by have := hrb _ e.symm; omega)
      have HB15 : Hid (Below w1.heap.size w1 w5) := (HB13.out.alloc HB13.out.size _).trans hb5
      have hf5 : Rw w5 W.heap.size 40 #[.int .i64 0, .int .i64 0] := HROW.out.belowB HB15.out (by rw [HS1.out]; omega)
      have HO5 : Hid _ := hown5
      have d0 : w5.cell? ⟨w2.heap.size, 0, none⟩ = some (.int .i64 k) := hR5.cell 0 _ rfl
      have d1 : w5.cell? ⟨w2.heap.size, 1, none⟩ = some (.string tx) := hR5.cell 1 _ rfl
      have d3 : w5.cell? ⟨w2.heap.size, 3, none⟩ = some (.int .i64 (p : Int)) := hR5.cell 3 _ rfl
      have HF5 : Hid _ := hf5
      clear hrb hR5 hown5 hgrow5 hb5 hf5 c0 c1 c2 c3 HR4 HO4 hsz4 HO3 HR3 HB3
      by_cases h5 : k = 5
      · obtain ⟨f1, f2⟩ := HEND.out h5
        have HF1 : Hid _ := f1
        have HF2 : Hid _ := f2
        have h5b : (k == 5) = true := by simpa using h5
        clear f1 f2 h5
        go_wp2_with (with_reducible refine st40 rfl (.tmp 3) (.tmp 25) rfl W.heap.size _ _ (by with_unfolding_all rfl) (by with_unfolding_all rfl) HF5.out rfl ⟨rfl, rfl⟩ ?_)
        refine leaves_cons (f := 27) (args := #[.pointer (some ⟨W.heap.size, 0, none⟩)]) (by simp) (by simp [go_sem]) ?_
        refine (catch_idle ⟨W.heap.size, 0, none⟩ _).mono ?_
        rintro e u' w'' ⟨rfl, rfl, rfl⟩
        have ho6 := own_setRow HO5.out HF5.out (by decide) #[.int .i64 0, .int .i64 0]
        simp only [Leaves, settle]
        refine ⟨_, res18 _ _ _ _ _ _ (HF5.out.set _) rfl rfl, ⟨_, by rw [HF2.out]; rfl, ?_, ?_⟩⟩
        · rw [HF1.out]; exact own_base ho6 (by rw [HS1.out]; omega)
        · exact below_setRow (HB1.out.trans (HB15.out.mono HB1.out.size)) (Nat.le_refl _) _
      · have h5b : (k == 5) = false := by simpa using h5
        have hm1 := HM1.out h5
        have HNX2 : Hid _ := HNEXT.out h5
        have hw : IntKind.i64.wrap ((p : Int) + (m : Int)) = ((p + m : Nat) : Int) := by rw [IntKind.wrap_i64]; omega
        clear h5
        go_wp2
        go_roundw
        case rel => exact ⟨D ++ [tk], p + m, by first | rfl | go_num, by omega, by rw [List.length_append]; simp; omega, HO5.out, HNX2, HB15⟩
        case measure => simp [intOf]; omega
theorem tokens_any (b : List UInt8) (W : World) (hE : ErrV W) :
    Calls Tryd.prog 18 #[.string (bs b)] W fun e w' => ∃ v, e = .returned (.tuple #[v, .agg #[.int .i64 (allT b).2.1, .int .i64 ((allT b).2.2 : Int)]]) ∧ w'.ownsRow W.heap.size 23 4 v (allT b).1.length (flatT (allT b).1) ∧ Below W.heap.size W w' := by
  by_cases h : 65536 < b.length
  · refine (tokens_long b h W).mono fun e w' ⟨he, hb⟩ => ?_
    unfold allT
    rw [if_pos h]
    exact ⟨_, he, World.ownsRow_nil _ _ _ _, hb⟩
  · have := tokens_short b (by omega) W hE
    unfold allT
    rw [if_neg h]
    exact this
end Go.Proofs.YtokcbiafajpmoaaDoor
