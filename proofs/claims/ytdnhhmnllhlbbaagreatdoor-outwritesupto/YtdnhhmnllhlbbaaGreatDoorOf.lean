/-
  What is proved here: valueOf of package out; the values that an output tells.
-/
import Derived.Test.YtdnhhmnllhlbbaaGreatDoorOe
namespace Go.Proofs.YtdnhhmnllhlbbaaGreatDoor
open Go.RowKit Go.Shelf
set_option linter.unusedVariables false
set_option linter.unusedSimpArgs false

/-- What a term is by an assignment, and whether that tells. -/
def voV (t : Tm) (vals : List Vl) : Vl × Bool := if t.v = -1 then (⟨t.set, t.n, t.s⟩, true) else match vals[t.v.toNat]? with
  | some v => (v, true)
  | none => (⟨false, 0, []⟩, false)
theorem res_val {fn : Func} {p u : Tmp} (hf : fn.results = #[.cell p 36, .tmp u]) (tmps : Array Value) (w : World) (g : Nat) {b : Bool} {n : Int} {s x : Value} (hp : tmps.getD p undef = .pointer (some ⟨g, 0, none⟩)) (hx : tmps.getD u undef = x) (h : Blk w g #[.bool b, .int .i64 n, s] 36) :
    (results fn tmps).run Tryz.prog w = .ok (.tuple #[.agg #[.bool b, .int .i64 n, s], x]) w := by
  have hp' : tmps[p]?.getD undef = .pointer (some ⟨g, 0, none⟩) := by simpa using hp
  have hx' : tmps[u]?.getD undef = x := by simpa using hx
  simp [results, hf, hp', hx', asAddr, run_loadVar_row w g 36 36 _ (0, 0) _ h.h Tryz.underlying36 rfl (by kernel_rfl)]

set_option maxRecDepth 100000 in
set_option maxHeartbeats 4000000 in
theorem vo30 {W : World} {sv vs : Value} (t : Tm) (vals : List Vl) (hs : Si 0 W sv t.s) (hv : Sv W vs vals) (hl : t.s.length ≤ 17592186043904) (hL : ∀ v ∈ vals, v.s.length ≤ 17592186043904) (hn : vals.length ≤ 17592186043904) (h0 : -1 ≤ t.v) :
    Calls Tryz.prog 30 #[.agg #[.int .i64 t.v, .bool t.set, .int .i64 t.n, sv], vs] W fun e w' => ∃ a9 c9, e = .returned (.tuple #[.agg #[.bool (voV t vals).1.set, .int .i64 (voV t vals).1.n, .slice a9 (voV t vals).1.s.length c9], .bool (voV t vals).2]) ∧ Si 0 w' (.slice a9 (voV t vals).1.s.length c9) (voV t vals).1.s ∧ Below W.heap.size W w' := by
  obtain ⟨tv, ts, tn, tl⟩ := t
  simp only at hs hl h0 ⊢
  obtain ⟨a8, c8, rfl, hs'⟩ := hs
  have HS : Hid (Si 0 W (.slice a8 tl.length c8) tl) := ⟨_, _, rfl, hs'⟩
  obtain ⟨a7, c7, rfl, hv'⟩ := hv
  have HV : Hid (Sv W (.slice a7 vals.length c7) vals) := ⟨_, _, rfl, hv'⟩
  have hb2 : Below W.heap.size W ((W.alloc (Obj.cells #[.int .i64 tv, .bool ts, .int .i64 tn, .slice a8 tl.length c8] 67)).alloc (Obj.cells #[.bool false, .int .i64 0, .slice none 0 0] 36)) := ((Below.refl _ W).alloc (Nat.le_refl _) _).alloc (by simp) _
  have HB2 : Hid _ := hb2
  obtain ⟨m, hm⟩ : ∃ m, vals.length = m := ⟨_, rfl⟩
  have HM : Hid (vals.length = m) := hm
  clear hs' hv'
  by_cases h1 : tv = -1
  · subst h1
    have e : voV ⟨-1, ts, tn, tl⟩ vals = (⟨ts, tn, tl⟩, true) := rfl
    rw [e]
    simp only
    obtain ⟨q, hq⟩ : ∃ q, tl.length = q := ⟨_, rfl⟩
    rw [hq] at HS HB2 ⊢
    clear hb2 e hq hm
    rw [HM.out] at HV ⊢
    go_enter Tryz.func30, Tryz.ntmps30
    go_wp2
    exact ⟨rfl, _, res_val rfl _ _ (W.heap.size + 1) rfl rfl (Blk.new2 W _ _ _), a8, c8, rfl, HS.out.below (((Below.refl _ W).alloc (Nat.le_refl _) _).alloc (by simp) _), (((Below.refl _ W).alloc (Nat.le_refl _) _).alloc (by simp) _)⟩
  · have h1' : (tv == -1) = false := by simpa using h1
    by_cases h2 : (vals.length : Int) ≤ tv
    · have e : voV ⟨tv, ts, tn, tl⟩ vals = (⟨false, 0, []⟩, false) := by
        unfold voV
        rw [if_neg h1, List.getElem?_eq_none (by simp only; omega)]
      rw [e]
      simp only
      rw [hm] at h2 ⊢
      have HZ : Hid (∀ X, Si 0 X (.slice none 0 0) []) := fun X => ⟨none, 0, rfl, fun h => absurd h (by simp)⟩
      obtain ⟨q, hq⟩ : ∃ q, tl.length = q := ⟨_, rfl⟩
      rw [hq] at HS HB2 ⊢
      clear hb2 e hq hm
      go_enter Tryz.func30, Tryz.ntmps30
      go_wp2
      exact ⟨rfl, _, res_val rfl _ _ (W.heap.size + 1) rfl rfl (Blk.new2 W _ _ _), none, 0, rfl, HZ.out _, (((Below.refl _ W).alloc (Nat.le_refl _) _).alloc (by simp) _)⟩
    · obtain ⟨k, rfl⟩ : ∃ k : Nat, tv = (k : Int) := ⟨tv.toNat, by omega⟩
      have hk : k < vals.length := by omega
      obtain ⟨x, hx⟩ : ∃ x, vals[k]? = some x := ⟨_, List.getElem?_eq_getElem hk⟩
      have e : voV ⟨(k : Int), ts, tn, tl⟩ vals = (x, true) := by
        unfold voV
        rw [if_neg h1]
        simp only [Int.toNat_natCast, hx]
      rw [e]
      simp only
      obtain ⟨b, off, a6, c6, rfl, hb, hsx, x0, x1, x2⟩ := HV.out.at hx
      have HX : Hid (Si 0 W (.slice a6 x.s.length c6) x.s) := hsx
      have hz := hL x (List.mem_of_getElem? hx)
      obtain ⟨n6, hn6⟩ : ∃ q, x.s.length = q := ⟨_, rfl⟩
      have HN6 : Hid (x.s.length = n6) := hn6
      rw [hn6] at HX x2 ⊢
      have h3 : (k : Int) < m := by omega
      have h4 : ¬ (m : Int) ≤ k := by omega
      have hm17 : m ≤ 17592186043904 := by omega
      have y0 := (hb2.cell (p := ⟨b, off + k * 3, none⟩) hb).trans x0
      have y1 := (hb2.cell (p := ⟨b, off + k * 3 + 1, none⟩) hb).trans x1
      have y2 := (hb2.cell (p := ⟨b, off + k * 3 + 2, none⟩) hb).trans x2
      have hne : b ≠ W.heap.size + 1 := by omega
      have hne2 : b ≠ W.heap.size := by omega
      rw [hm]
      obtain ⟨q, hq⟩ : ∃ q, tl.length = q := ⟨_, rfl⟩
      rw [hq] at HS HB2 y0 y1 y2 ⊢
      clear hb2 e hq hm hsx hx hn6 x0 x1 x2 hz hb h2 hk
      go_enter Tryz.func30, Tryz.ntmps30
      go_wp2
      exact ⟨rfl, _, res_val rfl _ _ (W.heap.size + 1) rfl rfl (Blk.new2 W _ _ _), a6, c6, rfl, HX.out.below (((Below.refl _ W).alloc (Nat.le_refl _) _).alloc (by simp) _), (((Below.refl _ W).alloc (Nat.le_refl _) _).alloc (by simp) _)⟩
/-- The values that an output tells: nothing, where one of them is none of its kind. -/
def ouV (o : Ou) (vals : List Vl) : Option (List Vl) := if o.l.all (fun t => (voV t vals).2 && isVal (voV t vals).1.set (voV t vals).1.n (voV t vals).1.s o.kind) then some (o.l.map fun t => (voV t vals).1) else none
def ousV : List Ou → List Vl → Option (List (List Vl))
  | [], _ => some []
  | o :: r, vals => match ouV o vals, ousV r vals with
    | some x, some y => some (x :: y)
    | _, _ => none
end Go.Proofs.YtdnhhmnllhlbbaaGreatDoor
