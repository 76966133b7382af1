/-
  What is proved here: what is copied may be written.
-/
import Derived.Test.YtpgecdhieakilaaGreatDoorKalj
import Derived.Test.YtpgecdhieakilaaGreatDoorJbj
import Derived.Test.YtpgecdhieakilaaGreatDoorDaj
namespace Go.Proofs.YtpgecdhieakilaaGreatDoor
open Go.RowKit Go.Shelf
set_option linter.unusedVariables false
set_option linter.unusedSimpArgs false

/-- A set in blocks from B on, that may be written. -/
def OkS (B : Nat) (w : World) (sv : Value) : Prop := ∃ p n c, sv = .slice p n c ∧ n ≤ 140737488351232 ∧ (0 < n → ∃ h cs, p = some ⟨h, 0, none⟩ ∧ B ≤ h ∧ Blk w h cs 2 ∧ n ≤ cs.size)
/-- Terms that may be written. -/
def OkT (B : Nat) (w : World) (sv : Value) : Prop := ∃ p n c, sv = .slice p n c ∧ n ≤ 140737488351232 ∧ (0 < n → ∃ h cs, p = some ⟨h, 0, none⟩ ∧ B ≤ h ∧ Blk w h cs 46 ∧ n * 4 ≤ cs.size ∧ ∀ j, j < n → ∃ s, cs[j * 4 + 3]? = some s ∧ OkS B w s)
/-- Arguments that may be written. -/
def OkA (B : Nat) (w : World) (sv : Value) : Prop := ∃ p n c, sv = .slice p n c ∧ n ≤ 140737488351232 ∧ (0 < n → ∃ h cs, p = some ⟨h, 0, none⟩ ∧ B ≤ h ∧ Blk w h cs 54 ∧ n * 2 ≤ cs.size ∧ ∀ j, j < n → (∃ b, cs[j * 2]? = some (.bool b)) ∧ ∃ s, cs[j * 2 + 1]? = some s ∧ OkT B w s)
theorem OkS.below {B : Nat} {w w' : World} {s : Value} (h : OkS B w s) (hb : Below w.heap.size w w') : OkS B w' s := by
  obtain ⟨p, n, c, e, hn, h⟩ := h
  exact ⟨p, n, c, e, hn, fun h0 => by obtain ⟨g, cs, e1, e2, e3, e4⟩ := h h0; exact ⟨g, cs, e1, e2, e3.below hb, e4⟩⟩
theorem OkS.lower {B B' : Nat} {w : World} {s : Value} (h : OkS B w s) (hb : B' ≤ B) : OkS B' w s := by
  obtain ⟨p, n, c, e, hn, h⟩ := h
  exact ⟨p, n, c, e, hn, fun h0 => by obtain ⟨g, cs, e1, e2, e3, e4⟩ := h h0; exact ⟨g, cs, e1, Nat.le_trans hb e2, e3, e4⟩⟩
theorem OkS.set {B : Nat} {w : World} {s : Value} (h : OkS B w s) (k i : Nat) (v : Value) : OkS B (w.setCell ⟨k, i, none⟩ v) s := by
  obtain ⟨p, n, c, e, hn, h⟩ := h
  refine ⟨p, n, c, e, hn, fun h0 => ?_⟩
  obtain ⟨g, cs, e1, e2, e3, e4⟩ := h h0
  by_cases hk : g = k
  · subst hk; exact ⟨g, _, e1, e2, e3.set i v, by simpa using e4⟩
  · exact ⟨g, cs, e1, e2, e3.other hk i v, e4⟩
theorem OkT.below {B : Nat} {w w' : World} {s : Value} (h : OkT B w s) (hb : Below w.heap.size w w') : OkT B w' s := by
  obtain ⟨p, n, c, e, hn, h⟩ := h
  exact ⟨p, n, c, e, hn, fun h0 => by obtain ⟨g, cs, e1, e2, e3, e4, e5⟩ := h h0; exact ⟨g, cs, e1, e2, e3.below hb, e4, fun j hj => by obtain ⟨s, h1, h2⟩ := e5 j hj; exact ⟨s, h1, h2.below hb⟩⟩⟩
theorem OkT.lower {B B' : Nat} {w : World} {s : Value} (h : OkT B w s) (hb : B' ≤ B) : OkT B' w s := by
  obtain ⟨p, n, c, e, hn, h⟩ := h
  exact ⟨p, n, c, e, hn, fun h0 => by obtain ⟨g, cs, e1, e2, e3, e4, e5⟩ := h h0; exact ⟨g, cs, e1, Nat.le_trans hb e2, e3, e4, fun j hj => by obtain ⟨s, h1, h2⟩ := e5 j hj; exact ⟨s, h1, h2.lower hb⟩⟩⟩
theorem OkT.other {B : Nat} {w : World} {s : Value} (h : OkT B w s) {k : Nat} (hk : k < B) (i : Nat) (v : Value) : OkT B (w.setCell ⟨k, i, none⟩ v) s := by
  obtain ⟨p, n, c, e, hn, h⟩ := h
  exact ⟨p, n, c, e, hn, fun h0 => by obtain ⟨g, cs, e1, e2, e3, e4, e5⟩ := h h0; exact ⟨g, cs, e1, e2, e3.other (by omega) i v, e4, fun j hj => by obtain ⟨s, h1, h2⟩ := e5 j hj; exact ⟨s, h1, h2.set k i v⟩⟩⟩
theorem St.setO {B : Nat} {W : World} {s : Value} {l : List Tm} (h : St B W s l) {k : Nat} (hk : k < B) (i : Nat) (v : Value) : St B (W.setCell ⟨k, i, none⟩ v) s l := by
  obtain ⟨a, c, e, h⟩ := h
  refine ⟨a, c, e, fun h0 => ?_⟩
  obtain ⟨b, off, svl, e1, e0, e2, e3, e4⟩ := h h0
  refine ⟨b, off, svl, e1, e0, by rw [World.size_setCell]; exact e2, e3, fun j t sv h1 h2 => ⟨((e4 j t sv h1 h2).1).set hk i v, fun r u hu => ?_⟩⟩
  exact (World.cell?_of_block (w := W) (a := ⟨b, off + j * 4 + r, none⟩) (Below.heap_setCell W ⟨k, i, none⟩ v b (show b ≠ k by omega))).trans ((e4 j t sv h1 h2).2 r u hu)
theorem own_ge {w : World} {B e size n : Nat} {v : Value} {xs : List Value} (h : w.ownsRow B e size v n xs) : (v = .slice none 0 0 ∧ n = 0) ∨ ∃ g cap cs, v = .slice (some ⟨g, 0, none⟩) n cap ∧ B ≤ g ∧ Blk w g cs e ∧ n * size ≤ cs.size ∧ ∀ j, j < n * size → cs[j]? = xs[j]? := by
  rcases h.2 with ⟨e1, e2⟩ | ⟨g, cap, cur, e1, hg, hgb, hn, hm, hs, ht⟩
  · exact .inl ⟨e1, by have := h.1; rw [e2] at this; first | exact e2 | (simp at this; omega)⟩
  · refine .inr ⟨g, cap, cur, e1, hg, ⟨hgb⟩, ?_, fun j hj => ?_⟩
    · have h1 := h.1
      rw [← ht, List.length_take, Array.length_toList] at h1
      omega
    · rw [← ht, List.getElem?_take, if_pos hj, Array.getElem?_toList]
theorem own_oks {w : World} {B n : Nat} {v : Value} {xs : List Value} (h : w.ownsRow B 2 1 v n xs) (hn : n ≤ 140737488351232) : OkS B w v := by
  rcases own_ge h with ⟨e1, e2⟩ | ⟨g, cap, cs, e1, e2, e3, e4, _⟩
  · exact ⟨none, 0, 0, e1, by omega, fun h => by omega⟩
  · exact ⟨_, n, cap, e1, hn, fun _ => ⟨g, cs, rfl, e2, e3, by omega⟩⟩
theorem clone59s {B : Nat} {W : World} {s : Value} {l : List Int} (h : Si B W s l) (hl : l.length ≤ 17592186043904) : Calls Tryz.prog 59 #[s] W fun e w' => ∃ v, e = .returned v ∧ Si W.heap.size w' v l ∧ OkS W.heap.size w' v ∧ Below W.heap.size W w' :=
  (clone59o h hl).mono fun e w' ⟨v, e1, e2, e3⟩ => ⟨v, e1, own_si e2, own_oks e2 (by omega), e3⟩
set_option maxRecDepth 100000 in
set_option maxHeartbeats 4000000 in
theorem copyValS {B : Nat} {W : World} {s : Value} {l : List Int} (b : Bool) (n : Int) (h : Si B W s l) (hl : l.length ≤ 17592186043904) : Calls Tryz.prog 60 #[.agg #[.bool b, .int .i64 n, s]] W fun e w' => ∃ v, e = .returned (.agg #[.bool b, .int .i64 n, v]) ∧ Si W.heap.size w' v l ∧ OkS W.heap.size w' v ∧ Below W.heap.size W w' := by
  obtain ⟨a8, c8, rfl, h⟩ := h
  have H : Hid (Si B W (.slice a8 l.length c8) l) := ⟨a8, c8, rfl, h⟩
  clear h
  go_enter Tryz.func60, Tryz.ntmps60
  go_wp2_with fail
  have hbA : Below W.heap.size W ((W.alloc (Obj.cells #[Value.bool b, Value.int IntKind.i64 n, .slice a8 l.length c8] 44)).alloc (Obj.cells #[Value.bool false, Value.int IntKind.i64 0, Value.slice none 0 0] 44)) := ((Below.refl _ W).alloc (Nat.le_refl _) _).alloc (by simp) _
  refine (clone59s (H.out.below hbA) hl).mono ?_
  rintro e w1 ⟨v, rfl, ⟨a9, c9, rfl, hv⟩, hok, hb⟩
  have HOK := hid (show OkS (W.heap.size + 2) w1 (.slice a9 l.length c9) by simpa using hok)
  clear hok
  have HV : Hid (Si (W.heap.size + 2) w1 (.slice a9 l.length c9) l) := ⟨a9, c9, rfl, by simpa using hv⟩
  clear hv
  have k1 : Hid (Blk w1 W.heap.size #[Value.bool b, Value.int IntKind.i64 n, .slice a8 l.length c8] 44) := ((Blk.new W _ _).alloc _).below hb
  have k2 : Hid (Blk w1 (W.heap.size + 1) #[Value.bool false, Value.int IntKind.i64 0, Value.slice none 0 0] 44) := by
    have := (Blk.new (W.alloc (Obj.cells #[Value.bool b, Value.int IntKind.i64 n, .slice a8 l.length c8] 44)) #[Value.bool false, Value.int IntKind.i64 0, Value.slice none 0 0] 44).below hb
    rw [World.size_alloc] at this
    exact this
  have c0 : w1.cell? ⟨W.heap.size, 0, none⟩ = some (.bool b) := k1.out.cell 0
  have c1 : w1.cell? ⟨W.heap.size, 1, none⟩ = some (.int .i64 n) := k1.out.cell 1
  have c2 : w1.cell? ⟨W.heap.size, 2, none⟩ = some (.slice a8 l.length c8) := k1.out.cell 2
  have d0 : w1.cell? ⟨W.heap.size + 1, 0, none⟩ = some (.bool false) := k2.out.cell 0
  have d1 : w1.cell? ⟨W.heap.size + 1, 1, none⟩ = some (.int .i64 0) := k2.out.cell 1
  have d2 : w1.cell? ⟨W.heap.size + 1, 2, none⟩ = some (.slice none 0 0) := k2.out.cell 2
  have f0 := k1.out.frozen
  have f1 := k2.out.frozen
  have hbW : Hid (Below W.heap.size W w1) := hbA.trans (hb.mono (by simp; omega))
  clear hbA hb
  go_wp2
  exact ⟨rfl, _, results_cell_row (P := Tryz.prog) rfl _ _ (W.heap.size + 1) 44 _ (0, 0) _ rfl ((((k2.out.other (by omega) _ _).set 0 _).set 1 _).set 2 _).h Tryz.underlying44 rfl (by kernel_rfl), _, rfl, ((((HV.out.set (by omega) _ _).set (by omega) _ _).set (by omega) _ _).set (by omega) _ _).lower (by omega), ((((HOK.out.set _ _ _).set _ _ _).set _ _ _).set _ _ _).lower (by omega), hbW.out.trans (((((Below.refl _ w1).setCell (by simp) _).setCell (by simp) _).setCell (by simp) _).setCell (by simp) _)⟩

/-- The sets that were copied may be written. -/
def CpK (w : World) (g : Nat) (svl : List Value) (k : Nat) : Prop := ∀ (i : Nat) sv, i < k → svl[i]? = some sv → OkS (g + 1) w sv
theorem CpK.below {w w' : World} {g : Nat} {svl : List Value} {k : Nat} (h : CpK w g svl k) (hb : Below w.heap.size w w') : CpK w' g svl k := fun i sv h1 h2 => (h i sv h1 h2).below hb
theorem CpK.step {w : World} {g : Nat} {svl : List Value} {k : Nat} {v : Value} (h : CpK w g svl k) (hv : OkS (g + 1) w v) (a1 b1 a2 b2 a3 b3 : Nat) (v1 v2 v3 : Value) : CpK (((w.setCell ⟨a1, b1, none⟩ v1).setCell ⟨a2, b2, none⟩ v2).setCell ⟨a3, b3, none⟩ v3) g (svl.set k v) (k + 1) := fun i sv h1 h2 => by
  rw [List.getElem?_set] at h2
  by_cases e : k = i
  · rw [if_pos e] at h2
    split at h2
    · injection h2 with h2; subst h2; exact ((hv.set _ _ _).set _ _ _).set _ _ _
    · cases h2
  · rw [if_neg e] at h2
    exact (((h i sv (by omega) h2).set _ _ _).set _ _ _).set _ _ _
theorem CpK.done {B : Nat} {W w : World} {g : Nat} {l : List Tm} {svl : List Value} {n : Nat} (hK : CpK w g svl n) (hn : n ≤ 140737488351232) (h : Cp B W w g l svl n) (c : Nat) (hl : l.length = n := by first | exact HN.out | rfl | omega) : OkT W.heap.size w (.slice (some ⟨g, 0, none⟩) n c) := by
  obtain ⟨cur, hc, hr⟩ := h.row
  have row : ∀ j, j < n → ∃ s, cur[j * 4 + 3]? = some s ∧ OkS (g + 1) w s := fun j hj => by
    obtain ⟨t, h1⟩ : ∃ t, l[j]? = some t := ⟨_, List.getElem?_eq_getElem (by omega)⟩
    obtain ⟨sv, h2⟩ : ∃ sv, svl[j]? = some sv := ⟨_, List.getElem?_eq_getElem (by rw [h.len]; omega)⟩
    exact ⟨sv, hr j t sv h1 h2 3 (by omega), hK j sv hj h2⟩
  refine ⟨_, n, c, rfl, hn, fun h0 => ⟨g, cur, rfl, h.ge, hc, ?_, fun j hj => by obtain ⟨s, h1, h2⟩ := row j hj; exact ⟨s, h1, h2.lower (by have := h.ge; omega)⟩⟩⟩
  obtain ⟨s, h1, _⟩ := row (n - 1) (by omega)
  have := (Array.getElem?_eq_some_iff.1 h1).1
  omega
set_option maxRecDepth 100000 in
set_option maxHeartbeats 4000000 in
theorem copyTermsS {B : Nat} {W : World} {s : Value} {l : List Tm} (h : St B W s l) (hl : l.length ≤ 2932031007317) (hL : ∀ t ∈ l, t.s.length ≤ 17592186043904) : Calls Tryz.prog 58 #[s] W fun e w' => ∃ v, e = .returned v ∧ St W.heap.size w' v l ∧ OkT W.heap.size w' v ∧ Below W.heap.size W w' := by
  obtain ⟨a8, c8, rfl, h⟩ := h
  have H : Hid (St B W (.slice a8 l.length c8) l) := ⟨a8, c8, rfl, h⟩
  have HL : Hid (∀ t ∈ l, t.s.length ≤ 17592186043904) := hL
  clear h hL
  go_enter Tryz.func58, Tryz.ntmps58
  go_wp2_with fail
  refine (clone84 H.out hl).mono ?_
  rintro e w1 ⟨v, rfl, ⟨svl, hs, ho, hown⟩, hb⟩
  obtain ⟨n, hn⟩ : ∃ n, l.length = n := ⟨_, rfl⟩
  have HN : Hid (l.length = n) := hn
  have HO : Hid (w1.ownsRow W.heap.size 46 4 v n (tcells l svl)) := hn ▸ hown
  have HS : Hid (∀ (i : Nat) (t : Tm) sv, l[i]? = some t → svl[i]? = some sv → Si B W sv t.s) := ho
  have HB : Hid (Below W.heap.size W w1) := hb
  rw [hn] at hl
  clear hown ho hb hn
  rcases HO.out.2 with ⟨rfl, e2⟩ | ⟨g, cap, cur, rfl, hg, hgb, hn, hm, hs2, ht⟩
  · obtain rfl : n = 0 := by have := HO.out.1; rw [e2] at this; simp at this; omega
    clear e2
    have hl0 : l = [] := List.length_eq_zero_iff.1 HN.out
    go_wp2
    go_loopw [10] (fun i wr => i = .int .i64 0 ∧ w1 = wr) (fun i _ => 0)
    case atStart => exact ⟨rfl, rfl⟩
    case round =>
      obtain ⟨rfl, rfl⟩ := hrel
      go_wp2
      go_ret
      exact ⟨_, rfl, ⟨none, 0, by rw [hl0]; rfl, fun h => by rw [hl0] at h; simp at h⟩, ⟨none, 0, 0, rfl, by omega, fun h => by omega⟩, HB.out⟩
  · have HC : Hid (Cp B W w1 g l svl 0) := ⟨hs, hg, ⟨cur, ⟨hgb⟩, fun i t sv h1 h2 r hr => by
      have hi : i < n := by rw [← HN.out]; exact (List.getElem?_eq_some_iff.1 h1).1
      rw [← tcells_get l svl hs i t sv h1 h2 r hr, ← ht, List.getElem?_take, if_pos (by omega), Array.getElem?_toList]⟩, fun i t sv _ h1 h2 => HS.out i t sv h1 h2, fun i t sv h0 => by omega, HB.out⟩
    clear hgb ht hs hg
    go_wp2
    go_loopw [10, 4, 5] (fun i _ _ wr => ∃ k : Nat, k ≤ n ∧ i = .int .i64 (k : Int) ∧ ∃ sl, Hid (Cp B W wr g l sl k) ∧ Hid (CpK wr g sl k)) (fun i _ _ _ => n - (intOf i).toNat)
    case atStart => exact ⟨0, Nat.zero_le _, rfl, svl, HC, fun i sv h0 => by omega⟩
    case round =>
      obtain ⟨k, hk, rfl, sl, HK, HX⟩ := hrel
      by_cases hlt : k < n
      · have hlt' : (k : Int) < n := by omega
        obtain ⟨t, h1⟩ : ∃ t, l[k]? = some t := ⟨_, List.getElem?_eq_getElem (by rw [HN.out]; exact hlt)⟩
        obtain ⟨sv, h2⟩ : ∃ sv, sl[k]? = some sv := ⟨_, List.getElem?_eq_getElem (by rw [HK.out.len, HN.out]; exact hlt)⟩
        obtain ⟨av, cv, rfl, hsv⟩ := HK.out.old k t sv (Nat.le_refl _) h1 h2
        have HSV : Hid (Si B W (.slice av t.s.length cv) t.s) := ⟨av, cv, rfl, hsv⟩
        obtain ⟨d0, d1, d2, d3, df⟩ := HK.out.cells h1 h2
        have ht9 := HL.out t (List.mem_of_getElem? h1)
        obtain ⟨tv, htv⟩ : ∃ x, t.v = x := ⟨_, rfl⟩
        obtain ⟨ts, hts⟩ : ∃ x, t.set = x := ⟨_, rfl⟩
        obtain ⟨tn, htn⟩ : ∃ x, t.n = x := ⟨_, rfl⟩
        obtain ⟨sn, hsn⟩ : ∃ x, t.s.length = x := ⟨_, rfl⟩
        have HT : Hid (t.v = tv ∧ t.set = ts ∧ t.n = tn ∧ t.s.length = sn) := ⟨htv, hts, htn, hsn⟩
        rw [htv] at d0; rw [hts] at d1; rw [htn] at d2; rw [hsn] at d3
        have H1 : Hid (l[k]? = some t) := h1
        clear htv hts htn hsn h1 h2 hsv
        have hw2 : IntKind.i64.wrap ((k : Int) + 1) = (k : Int) + 1 := by rw [IntKind.wrap_i64]; omega
        have hbA : Below wr.heap.size wr (wr.alloc (Obj.cells #[.int .i64 tv, .bool ts, .int .i64 tn, .slice av sn cv] 46)) := (Below.refl _ wr).alloc (Nat.le_refl _) _
        have hbW : Hid (Below W.heap.size W (wr.alloc (Obj.cells #[.int .i64 tv, .bool ts, .int .i64 tn, .slice av sn cv] 46))) := HK.out.bel.trans (hbA.mono HK.out.bel.size)
        have HK2 : Hid (Cp B W (wr.alloc (Obj.cells #[.int .i64 tv, .bool ts, .int .i64 tn, .slice av sn cv] 46)) g l sl k) := HK.out.below hbA
        go_wp2_with fail
        obtain ⟨e1, e2, e3, e4⟩ := HT.out
        rw [e4] at HSV ht9
        have hcp := copyValS (l := t.s) ts tn (HSV.out.below hbW.out) (by rw [e4]; exact ht9)
        clear e1 e2 e3 e4
        refine hcp.mono ?_
        clear hcp
        rintro e w2 ⟨v2, rfl, ⟨a9, c9, rfl, hv⟩, hok, hb⟩
        have HOK := hid (hok.lower (show g + 1 ≤ _ by have := HK2.out.lt; omega))
        have HX3 : Hid (CpK w2 g sl k) := (HX.out.below hbA).below hb
        clear hok
        have HK3 : Hid (Cp B W w2 g l sl k) := HK2.out.below hb
        have HV : Hid (Si (g + 1) w2 (.slice a9 t.s.length c9) t.s) := Si.lower ⟨a9, c9, rfl, hv⟩ (by have := HK2.out.lt; omega)
        obtain ⟨_, h2⟩ : ∃ sv, sl[k]? = some sv := ⟨_, List.getElem?_eq_getElem (by rw [HK.out.len, HN.out]; exact hlt)⟩
        obtain ⟨x0, x1, x2, x3, xf⟩ := HK3.out.cells H1.out h2
        obtain ⟨e1, e2, e3, e4⟩ := HT.out
        have HS9 : Hid (Cp B W (((w2.setCell ⟨g, k * 4 + 1, none⟩ (.bool ts)).setCell ⟨g, k * 4 + 2, none⟩ (.int .i64 tn)).setCell ⟨g, k * 4 + 3, none⟩ (.slice a9 sn c9)) g l (sl.set k (.slice a9 sn c9)) (k + 1)) := by
          have := HK3.out.step H1.out HV.out
          rw [e2, e3, e4] at this
          exact this
        have HX9 : Hid (CpK (((w2.setCell ⟨g, k * 4 + 1, none⟩ (.bool ts)).setCell ⟨g, k * 4 + 2, none⟩ (.int .i64 tn)).setCell ⟨g, k * 4 + 3, none⟩ (.slice a9 sn c9)) g (sl.set k (.slice a9 sn c9)) (k + 1)) := HX3.out.step (by rw [← e4]; exact HOK.out) _ _ _ _ _ _ _ _ _
        rw [e4]
        clear e1 e2 e3 e4 h2 hv hb hbA d0 d1 d2 d3 df x0
        go_wp2
        go_roundw
        case rel => exact ⟨k + 1, by omega, by go_num, _, HS9, HX9⟩
        case measure => simp [intOf]; omega
      · have hlt' : ¬ (k : Int) < n := by omega
        obtain rfl : k = n := by omega
        go_wp2
        go_ret
        exact ⟨_, rfl, by have := HN.out; subst this; exact HK.out.done _, HX.out.done (by have := HN.out; omega) HK.out _, HK.out.bel⟩

theorem acells_length : ∀ (l : List Ag) (svl : List Value), svl.length = l.length → (acells l svl).length = l.length * 2
  | [], _, _ => by simp [acells]
  | g :: l, [], h => by simp at h
  | g :: l, sv :: svl, h => by simp [acells, acells_length l svl (by simpa using h)]; omega
theorem acells_all {l : List Ag} {svl : List Value} (h : svl.length = l.length) {j : Nat} {u : Value} (hu : (acells l svl)[j]? = some u) : ∃ i g sv, l[i]? = some g ∧ svl[i]? = some sv ∧ ((j = i * 2 ∧ u = .bool g.arr) ∨ (j = i * 2 + 1 ∧ u = sv)) := by
  have hj := (List.getElem?_eq_some_iff.1 hu).1
  rw [acells_length _ _ h] at hj
  have hi : j / 2 < l.length := by omega
  obtain ⟨g, hg⟩ : ∃ g, l[j / 2]? = some g := ⟨_, List.getElem?_eq_getElem hi⟩
  obtain ⟨sv, hs⟩ : ∃ sv, svl[j / 2]? = some sv := ⟨_, List.getElem?_eq_getElem (by omega)⟩
  have hh := acells_get l svl h (j / 2) g sv hg hs
  refine ⟨j / 2, g, sv, hg, hs, ?_⟩
  rcases Nat.mod_two_eq_zero_or_one j with e | e
  · have e' : j = j / 2 * 2 := by omega
    refine .inl ⟨e', ?_⟩
    have := hh.1
    rw [← e', hu] at this
    injection this
  · have e' : j = j / 2 * 2 + 1 := by omega
    refine .inr ⟨e', ?_⟩
    have := hh.2
    rw [← e', hu] at this
    injection this
theorem clone57s {B : Nat} {W0 W : World} {s : Value} {l : List Ag} (h : Sa B W0 s l) (hw : Below W0.heap.size W0 W) (hl : l.length ≤ 4398046510976) : Calls Tryz.prog 57 #[s] W fun e w' => ∃ v, e = .returned v ∧ (∃ svl : List Value, svl.length = l.length ∧ (∀ (i : Nat) (t : Ag) sv, l[i]? = some t → svl[i]? = some sv → St B W0 sv t.l) ∧ w'.ownsRow W.heap.size 54 2 v l.length (acells l svl)) ∧ Below W.heap.size W w' := by
  obtain ⟨a, c, rfl, h⟩ := h
  rcases Nat.eq_zero_or_pos l.length with h0 | h0
  · have : l = [] := List.length_eq_zero_iff.1 h0
    subst this
    exact (clone0_57 a c W).mono fun e w' ⟨v, e1, e2, e3⟩ => ⟨v, e1, ⟨[], rfl, by intro i t sv h1 _; simp at h1, e2⟩, e3⟩
  · obtain ⟨b, off, svl, rfl, hB, hb, hs, hc⟩ := h h0
    obtain ⟨i0, hi0, hz0, hz1, hz2⟩ := info_parts Tryz.info54
    refine (AnyE.slices_Clone Tryz.laysClone57 i0 _ 2 32 hi0 hz0 hz1 hz2 rfl (by omega) Tryz.sizeOf54 b off l.length c (acells l svl) W (acells_length _ _ hs) (by unfold maxLen; omega) (by omega) ?_ ?_).mono fun e w' ⟨v, e1, e2, _, e3⟩ => ⟨v, e1, ⟨svl, hs, fun i t sv h1 h2 => (hc i t sv h1 h2).1, e2⟩, e3⟩
    · intro j u hu
      obtain ⟨i, g, sv, h1, h2, ⟨rfl, rfl⟩ | ⟨rfl, rfl⟩⟩ := acells_all hs hu
      · exact (hw.cell (p := ⟨b, off + i * 2, none⟩) hb).trans (hc i g sv h1 h2).2.1
      · have := (hw.cell (p := ⟨b, off + i * 2 + 1, none⟩) hb).trans (hc i g u h1 h2).2.2
        rwa [Nat.add_assoc] at this
    · intro u hu
      obtain ⟨j, hj⟩ := List.mem_iff_getElem?.1 hu
      obtain ⟨i, g, sv, h1, h2, ⟨_, rfl⟩ | ⟨_, rfl⟩⟩ := acells_all hs hj
      · rfl
      · obtain ⟨⟨a', c', rfl, _⟩, _⟩ := hc i g u h1 h2
        rfl
end Go.Proofs.YtpgecdhieakilaaGreatDoor
