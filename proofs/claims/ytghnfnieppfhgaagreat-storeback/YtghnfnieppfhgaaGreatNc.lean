/-
  What is proved here: the mathematics of StoreBack: what is saved of each depth brings the domains back.
-/
import Derived.Test.YtghnfnieppfhgaaGreatMjj
import Derived.Test.YtghnfnieppfhgaaGreatNaj
namespace Go.Proofs.YtghnfnieppfhgaaGreat
open Go.RowKit Go.Shelf
set_option linter.unusedVariables false
set_option linter.unusedSimpArgs false

/-- Elements are set, one behind the other. -/
def unG {α β : Type} (ix : β → Nat) (g : β → α) (l : List β) (D : List α) : List α := l.foldl (fun D t => D.set (ix t) (g t)) D
section
variable {α β : Type} {ix : β → Nat} {g : β → α}
theorem unG_cons (t : β) (l : List β) (D : List α) : unG ix g (t :: l) D = unG ix g l (D.set (ix t) (g t)) := rfl
theorem unG_snoc (l : List β) (t : β) (D : List α) : unG ix g (l ++ [t]) D = (unG ix g l D).set (ix t) (g t) := by simp [unG]
theorem unG_len : ∀ (l : List β) (D : List α), (unG ix g l D).length = D.length
  | [], D => rfl
  | t :: l, D => by rw [unG_cons, unG_len l]; simp
theorem unG_out {v : Nat} : ∀ (l : List β) (D : List α) (x : α), (∀ t ∈ l, ix t ≠ v) → unG ix g l (D.set v x) = (unG ix g l D).set v x ∧ (unG ix g l D)[v]? = D[v]?
  | [], D, x, _ => ⟨rfl, rfl⟩
  | t :: l, D, x, h => by
    have h1 := h t (by simp)
    have ih := unG_out l (D.set (ix t) (g t)) x (fun s hs => h s (by simp [hs]))
    rw [unG_cons, unG_cons]
    refine ⟨?_, ?_⟩
    · rw [List.set_comm _ _ h1.symm]; exact ih.1
    · rw [ih.2, List.getElem?_set_ne h1]
theorem unG_mem {v : Nat} : ∀ (l : List β) (D : List α) (x : α), (∃ t ∈ l, ix t = v) → unG ix g l (D.set v x) = unG ix g l D
  | [], D, x, h => by obtain ⟨t, ht, _⟩ := h; cases ht
  | t :: l, D, x, h => by
    rw [unG_cons, unG_cons]
    by_cases h1 : ix t = v
    · subst h1; rw [List.set_set]
    · rw [List.set_comm _ _ (Ne.symm h1)]
      obtain ⟨s, hs, he⟩ := h
      rcases List.mem_cons.1 hs with rfl | hs
      · exact absurd he h1
      · exact unG_mem l _ x ⟨s, hs, he⟩
end
theorem set_self {α : Type} {D : List α} {v : Nat} {x : α} (h : D[v]? = some x) : D.set v x = D := by
  apply List.ext_getElem?
  intro i
  by_cases hi : v = i
  · subst hi; rw [List.getElem?_set_self (List.getElem?_eq_some_iff.1 h).1, h]
  · rw [List.getElem?_set_ne hi]
abbrev K3 := Int × MD × Int
def undD (l : List K3) (D : List MD) : List MD := unG (fun t : K3 => t.1.toNat) (fun t => t.2.1) l D
def undS (l : List K3) (S : List Int) : List Int := unG (fun t : K3 => t.1.toNat) (fun t => t.2.2) l S
/-- A depth: the domains and the stamps as it began, and what was saved there. -/
structure Fr where
  D : List MD
  S : List Int
  seg : List K3
def sav : List Fr → List K3
  | [] => []
  | f :: fr => sav fr ++ f.seg
def mrk : List Fr → List Int
  | [] => []
  | f :: fr => mrk fr ++ [((sav fr).length : Int)]
theorem mrk_len : ∀ fr : List Fr, (mrk fr).length = fr.length
  | [] => rfl
  | f :: fr => by simp [mrk, mrk_len fr]
structure Fok (n : Nat) (dep : Nat) (D : List MD) (S : List Int) (f : Fr) : Prop where
  ix : ∀ t ∈ f.seg, 0 ≤ t.1 ∧ t.1 < n
  d : undD f.seg D = f.D
  s : undS f.seg S = f.S
  m : ∀ v : Nat, S.getD v 0 = (dep : Int) ↔ ∃ t ∈ f.seg, t.1.toNat = v
  le : ∀ v : Nat, S.getD v 0 ≤ (dep : Int)
def J (n : Nat) : List MD → List Int → List Fr → Prop
  | _, S, [] => ∀ v : Nat, S.getD v 0 = 0
  | D, S, f :: fr => Fok n (fr.length + 1) D S f ∧ J n f.D f.S fr
theorem J.le {n : Nat} {D : List MD} {S : List Int} {fr : List Fr} (h : J n D S fr) (v : Nat) : S.getD v 0 ≤ (fr.length : Int) := by
  cases fr with
  | nil => have := h v; simp only [List.length_nil]; omega
  | cons f fr => have := h.1.le v; simpa using this
def emS (D : List MD) : Int := (D.map fun d => emptI (emptyA d)).sum
theorem emS_bd : ∀ D : List MD, 0 ≤ emS D ∧ emS D ≤ D.length
  | [] => by simp [emS]
  | d :: D => by
    have h1 := emS_bd D
    have h2 := emptI_01 (emptyA d)
    unfold emS at h1 ⊢
    simp only [List.map_cons, List.sum_cons, List.length_cons]
    omega
theorem emS_zero : ∀ {D : List MD}, emS D = 0 → ∀ o ∈ D, emptyA o = false
  | [], _, o, ho => by cases ho
  | d :: D, h, o, ho => by
    have h1 := emS_bd D
    have h2 := emptI_01 (emptyA d)
    have h3 : emS (d :: D) = emptI (emptyA d) + emS D := by simp [emS]
    rw [h3] at h
    rcases List.mem_cons.1 ho with rfl | ho
    · have h4 : emptI (emptyA o) = 0 := by omega
      cases he : emptyA o
      · rfl
      · rw [he] at h4; simp [emptI] at h4
    · exact emS_zero (by omega) o ho
theorem emS_set : ∀ {D : List MD} {v : Nat} {o : MD} (x : MD), D[v]? = some o → emS (D.set v x) = emS D + (emptI (emptyA x) - emptI (emptyA o))
  | [], v, o, x, h => by cases h
  | d :: D, 0, o, x, h => by
    injection h with h
    subst h
    have e1 : emS (x :: D) = emptI (emptyA x) + emS D := by simp [emS]
    have e2 : emS (d :: D) = emptI (emptyA d) + emS D := by simp [emS]
    rw [List.set_cons_zero, e1, e2]
    omega
  | d :: D, v + 1, o, x, h => by
    have ih := emS_set (D := D) (v := v) x h
    have e1 : emS (d :: D.set v x) = emptI (emptyA d) + emS (D.set v x) := by simp [emS]
    have e2 : emS (d :: D) = emptI (emptyA d) + emS D := by simp [emS]
    rw [List.set_cons_succ, e1, e2, ih]
    omega
/-- A store and its depths. -/
structure Tk (st : StM) (fr : List Fr) : Prop where
  sv : st.saved = sav fr
  mr : st.marks = mrk fr
  j : J st.D.length st.D st.since fr
  ls : st.since.length = st.D.length
  e : st.e = emS st.D
theorem Tk.why {st : StM} {fr : List Fr} (h : Tk st fr) (w : List Int) : Tk { st with why := w } fr := ⟨h.sv, h.mr, h.j, h.ls, h.e⟩
theorem Tk.push {st : StM} {fr : List Fr} (h : Tk st fr) : Tk { st with marks := st.marks ++ [(st.saved.length : Int)] } (⟨st.D, st.since, []⟩ :: fr) := by
  refine ⟨by rw [sav, List.append_nil]; exact h.sv, by rw [mrk, ← h.sv, ← h.mr], ⟨⟨fun t ht => (by cases ht), rfl, rfl, fun v => ⟨fun e => ?_, fun ⟨t, ht, _⟩ => (by cases ht)⟩, fun v => ?_⟩, h.j⟩, h.ls, h.e⟩
  · have h1 := h.j.le v
    have h2 : st.since.getD v 0 = ((fr.length + 1 : Nat) : Int) := e
    omega
  · have h1 := h.j.le v
    show st.since.getD v 0 ≤ ((fr.length + 1 : Nat) : Int)
    omega
theorem getD_at {S : List Int} {v : Nat} (h : v < S.length) : S[v]? = some (S.getD v 0) := by simp [List.getD, h]
theorem getD_set {S : List Int} {v : Nat} (h : v < S.length) (x : Int) (u : Nat) : (S.set v x).getD u 0 = if v = u then x else S.getD u 0 := by
  simp only [List.getD, List.getElem?_set]
  by_cases hu : v = u
  · subst hu; simp [h]
  · simp [hu]
theorem Tk.put {st : StM} {fr : List Fr} (h : Tk st fr) {v : Nat} {o : MD} (hv : st.D[v]? = some o) (nx : MD) : ∃ fr', fr'.map Fr.D = fr.map Fr.D ∧ Tk (putA (saveM st v o) v o nx) fr' := by
  have hvl : v < st.D.length := (List.getElem?_eq_some_iff.1 hv).1
  have hvs : v < st.since.length := by rw [h.ls]; exact hvl
  have hml : st.marks.length = fr.length := by rw [h.mr, mrk_len]
  have hes : ∀ s : StM, s.D = st.D → s.e = st.e → (putA s v o nx).e = emS (putA s v o nx).D := fun s e1 e2 => by
    show s.e + _ = emS (s.D.set v nx)
    rw [e1, e2, emS_set nx hv, h.e]
  unfold saveM
  by_cases hs : st.since.getD v 0 = st.marks.length
  · rw [if_pos hs]
    refine ⟨fr, rfl, h.sv, h.mr, ?_, by show st.since.length = (st.D.set v nx).length; rw [List.length_set]; exact h.ls, hes st rfl rfl⟩
    show J (st.D.set v nx).length (st.D.set v nx) st.since fr
    rw [List.length_set]
    have hj := h.j
    cases fr with
    | nil => exact hj
    | cons f fr =>
      obtain ⟨hf, hj⟩ := hj
      refine ⟨⟨hf.ix, ?_, hf.s, hf.m, hf.le⟩, hj⟩
      rw [← hf.d]
      exact unG_mem _ _ _ ((hf.m v).1 (by rw [hs, hml]; simp))
  · rw [if_neg hs]
    cases fr with
    | nil => exact absurd (by rw [h.j v, h.mr]; rfl) hs
    | cons f fr =>
      obtain ⟨hf, hj⟩ := h.j
      have hnm : ∀ t ∈ f.seg, t.1.toNat ≠ v := fun t ht e => hs (by rw [hml]; simpa using (hf.m v).2 ⟨t, ht, e⟩)
      refine ⟨⟨f.D, f.S, f.seg ++ [((v : Int), o, st.since.getD v 0)]⟩ :: fr, rfl, ?_, ?_, ?_, ?_, hes _ rfl rfl⟩
      · show st.saved ++ _ = sav fr ++ (f.seg ++ _)
        rw [h.sv, sav, List.append_assoc]
      · show st.marks = _
        rw [h.mr]; rfl
      · show J (st.D.set v nx).length (st.D.set v nx) (st.since.set v st.marks.length) _
        rw [List.length_set, hml]
        refine ⟨⟨fun t ht => ?_, ?_, ?_, fun u => ?_, fun u => ?_⟩, hj⟩
        · rcases List.mem_append.1 ht with ht | ht
          · exact hf.ix t ht
          · obtain rfl : t = ((v : Int), o, st.since.getD v 0) := by simpa using ht
            exact ⟨by simp, by simpa using hvl⟩
        · have q := unG_out (ix := fun t : K3 => t.1.toNat) (g := fun t => t.2.1) f.seg st.D nx hnm
          show unG _ _ (f.seg ++ [_]) (st.D.set v nx) = f.D
          rw [unG_snoc, q.1]
          show ((unG _ _ f.seg st.D).set v nx).set v o = f.D
          rw [List.set_set, set_self (by rw [q.2]; exact hv)]
          exact hf.d
        · have q := unG_out (ix := fun t : K3 => t.1.toNat) (g := fun t => t.2.2) f.seg st.since (((f :: fr).length : Nat) : Int) hnm
          show unG _ _ (f.seg ++ [_]) (st.since.set v _) = f.S
          rw [unG_snoc, q.1]
          show ((unG _ _ f.seg st.since).set v _).set v (st.since.getD v 0) = f.S
          rw [List.set_set, set_self (by rw [q.2]; exact getD_at hvs)]
          exact hf.s
        · rw [getD_set hvs]
          by_cases hu : v = u
          · rw [if_pos hu]
            exact ⟨fun _ => ⟨_, List.mem_append_right _ (List.mem_singleton.2 rfl), by simpa using hu⟩, fun _ => by simp⟩
          · rw [if_neg hu, hf.m u]
            refine ⟨fun ⟨t, ht, e⟩ => ⟨t, List.mem_append_left _ ht, e⟩, fun ⟨t, ht, e⟩ => ?_⟩
            rcases List.mem_append.1 ht with ht | ht
            · exact ⟨t, ht, e⟩
            · obtain rfl : t = ((v : Int), o, st.since.getD v 0) := by simpa using ht
              exact absurd (by simpa using e) hu
        · rw [getD_set hvs]
          split
          · simp
          · exact hf.le u
      · show (st.since.set v _).length = (st.D.set v nx).length
        rw [List.length_set, List.length_set]; exact h.ls
theorem narA_put (st : StM) (v : Nat) (o nx : MD) (c : Int) : ∃ w, narrowA st v o nx c = { putA (saveM st v o) v o nx with why := w } := by
  unfold narrowA
  split
  · exact ⟨_, rfl⟩
  · exact ⟨_, rfl⟩
theorem save_len (st : StM) (v : Nat) (o : MD) : (saveM st v o).saved.length ≤ st.saved.length + 1 ∧ (saveM st v o).marks = st.marks ∧ (saveM st v o).D = st.D ∧ (saveM st v o).e = st.e := by
  unfold saveM
  split
  · exact ⟨by omega, rfl, rfl, rfl⟩
  · exact ⟨by simp, rfl, rfl, rfl⟩
/-- What is within what was. -/
structure Wb (was D : List MD) : Prop where
  l : D.length = was.length
  h : ∀ (k : Nat) x y, D[k]? = some x → was[k]? = some y → Tt x ∧ x.set = y.set ∧ (emptyA x = true ∨ LeA x y)
theorem Wb.refl {D : List MD} (h : ∀ o ∈ D, Tt o) : Wb D D := ⟨rfl, fun k x y h1 h2 => by
  rw [h1] at h2; injection h2 with h2; subst h2
  exact ⟨h x (List.mem_of_getElem? h1), rfl, .inr (LeA.refl _)⟩⟩
theorem Wb.tt {was D : List MD} (h : Wb was D) : ∀ o ∈ D, Tt o := fun o ho => by
  obtain ⟨k, hk⟩ := List.mem_iff_getElem?.1 ho
  have hl := (List.getElem?_eq_some_iff.1 hk).1
  exact (h.h k o _ hk (List.getElem?_eq_getElem (by rw [← h.l]; exact hl))).1
/-- All that a Narrow does. -/
theorem Tk.nar {st : StM} {fr : List Fr} (h : Tk st fr) (v : Int) (d : MD) :
    (∃ fr', fr'.map Fr.D = fr.map Fr.D ∧ Tk (narM st v d) fr') ∧ (narM st v d).saved.length ≤ st.saved.length + 1 ∧ ∀ was, Wb was st.D → Wb was (narM st v d).D := by
  have stay : narM st v d = st → (∃ fr', fr'.map Fr.D = fr.map Fr.D ∧ Tk (narM st v d) fr') ∧ (narM st v d).saved.length ≤ st.saved.length + 1 ∧ ∀ was, Wb was st.D → Wb was (narM st v d).D := fun e => by
    rw [e]; exact ⟨⟨fr, rfl, h⟩, by omega, fun _ h => h⟩
  by_cases hth : thereB st v = false
  · exact stay (by unfold narM; rw [if_pos hth])
  · cases hv : st.D[v.toNat]? with
    | none => exact stay (by unfold narM; rw [if_neg hth, hv])
    | some o =>
      have e1 : narM st v d = if rightM d = false then st else if d.set ≠ o.set then st else if 0 < st.e then st else if sameA o (bothA o d) = true then st else narrowA st v.toNat o (bothA o d) (chM o (bothA o d)) := by
        unfold narM; rw [if_neg hth, hv]
      by_cases c1 : rightM d = false
      · exact stay (by rw [e1, if_pos c1])
      by_cases c2 : d.set ≠ o.set
      · exact stay (by rw [e1, if_neg c1, if_pos c2])
      by_cases c3 : 0 < st.e
      · exact stay (by rw [e1, if_neg c1, if_neg c2, if_pos c3])
      by_cases c4 : sameA o (bothA o d) = true
      · exact stay (by rw [e1, if_neg c1, if_neg c2, if_neg c3, if_pos c4])
      rw [e1, if_neg c1, if_neg c2, if_neg c3, if_neg c4]
      obtain ⟨w, hw⟩ := narA_put st v.toNat o (bothA o d) (chM o (bothA o d))
      rw [hw]
      obtain ⟨fr', e2, h2⟩ := h.put hv (bothA o d)
      have hsl := save_len st v.toNat o
      refine ⟨⟨fr', e2, h2.why w⟩, hsl.1, fun was hb => ?_⟩
      have hD : (putA (saveM st v.toNat o) v.toNat o (bothA o d)).D = st.D.set v.toNat (bothA o d) := by show (saveM st v.toNat o).D.set _ _ = _; rw [hsl.2.2.1]
      show Wb was (putA (saveM st v.toNat o) v.toNat o (bothA o d)).D
      rw [hD]
      have h0 : emS st.D = 0 := by have := (emS_bd st.D).1; have := h.e; omega
      have hoe := emS_zero h0 o (List.mem_of_getElem? hv)
      have hvl := (List.getElem?_eq_some_iff.1 hv).1
      refine ⟨by rw [List.length_set]; exact hb.l, fun k x y hx hy => ?_⟩
      by_cases hk : v.toNat = k
      · subst hk
        rw [List.getElem?_set_self hvl] at hx
        injection hx with hx
        subst hx
        obtain ⟨q1, q2, q3⟩ := hb.h _ o y hv hy
        refine ⟨both_tt q1.r, by rw [bothA_set]; exact q2, ?_⟩
        cases he : emptyA (bothA o d)
        · rcases q3 with q3 | q3
          · rw [hoe] at q3; cases q3
          · exact .inr ((both_left q1.r he).trans q3)
        · exact .inl rfl
      · rw [List.getElem?_set_ne hk] at hx
        exact hb.h k x y hx hy
theorem foldA_cons (st : StM) (t : K3) (l : List K3) : foldA st (t :: l) = foldA (stepA st t) l := rfl
theorem foldA_D : ∀ (l : List K3) (st : StM), (foldA st l).D = undD l st.D ∧ (foldA st l).since = undS l st.since
  | [], st => ⟨rfl, rfl⟩
  | t :: l, st => by rw [foldA_cons]; exact foldA_D l (stepA st t)
theorem foldA_e : ∀ (l : List K3) (st : StM), (∀ t ∈ l, 0 ≤ t.1 ∧ t.1 < st.D.length) → st.e = emS st.D → (foldA st l).e = emS (foldA st l).D
  | [], st, _, h => h
  | t :: l, st, hl, h => by
    rw [foldA_cons]
    have hD : (stepA st t).D = st.D.set t.1.toNat t.2.1 := rfl
    have ht := hl t (by simp)
    have hlt : t.1.toNat < st.D.length := by omega
    refine foldA_e l (stepA st t) (fun s hs => by rw [hD, List.length_set]; exact hl s (by simp [hs])) ?_
    rw [hD, emS_set t.2.1 (List.getElem?_eq_getElem hlt), ← h]
    show st.e + (_ - emptI (emptyA (st.D.getD t.1.toNat _))) = _
    rw [show st.D.getD t.1.toNat ⟨false, [], [], [], 0, 0⟩ = st.D[t.1.toNat] by simp [List.getD, hlt]]
/-- Pop ends the last depth. -/
theorem Tk.pop {st : StM} {f : Fr} {fr : List Fr} (h : Tk st (f :: fr)) : Tk (popA st (mrk fr) (sav fr).length) fr ∧ (popA st (mrk fr) (sav fr).length).D = f.D ∧ (∀ t ∈ st.saved.drop (sav fr).length, 0 ≤ t.1 ∧ t.1 < st.D.length) := by
  obtain ⟨hf, hj⟩ := h.j
  have hsv : st.saved = sav fr ++ f.seg := h.sv
  have e1 : st.saved.drop (sav fr).length = f.seg := by rw [hsv]; simp
  have e2 : st.saved.take (sav fr).length = sav fr := by rw [hsv]; simp
  have q := foldA_D f.seg st
  have qe := foldA_e f.seg st hf.ix h.e
  have hD : (popA st (mrk fr) (sav fr).length).D = f.D := by
    show (foldA st (st.saved.drop _)).D = _
    rw [e1, q.1]; exact hf.d
  have hl : f.D.length = st.D.length := by rw [← hf.d]; exact unG_len _ _
  refine ⟨⟨e2, rfl, ?_, ?_, ?_⟩, hD, fun t ht => hf.ix t (by rw [← e1]; exact ht)⟩
  · rw [hD]
    show J f.D.length f.D (foldA st (st.saved.drop _)).since fr
    rw [e1, q.2, hl, show undS f.seg st.since = f.S from hf.s]
    exact hj
  · rw [hD]
    show (foldA st (st.saved.drop _)).since.length = _
    rw [e1, q.2, hl]
    exact (unG_len _ _).trans h.ls
  · show (foldA st (st.saved.drop _)).e = emS (foldA st (st.saved.drop _)).D
    rw [e1]; exact qe
end Go.Proofs.YtghnfnieppfhgaaGreat
