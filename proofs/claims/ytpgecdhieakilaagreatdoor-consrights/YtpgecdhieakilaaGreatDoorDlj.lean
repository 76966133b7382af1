/-
  What is proved here: cons.Text of a constraint that holds no set.
  What is proved here: shaped, tooLong; slices.EqualFunc of arguments and parts.
  What is proved here: slices.EqualFunc of arguments and parts.
  What is proved here: slices.IndexFunc and slices.ContainsFunc of arguments of which none is too long.
  What is proved here: the place of each letter.
  What is proved here: takes, of a number and of a variable.
-/
import Derived.Test.YtpgecdhieakilaaGreatDoorDk
import Derived.Laws.IdiomStrings
import Derived.BigQuiet
namespace Go.Proofs.YtpgecdhieakilaaGreatDoor
open Go.RowKit Go.Shelf
set_option linter.unusedVariables false
set_option linter.unusedSimpArgs false
/-- A constraint as text. -/
def cnT (nm : List UInt8) (ags : List Ag) : List UInt8 := nm ++ [40] ++ tsP agT ags ags.length ++ [41]
theorem Ob.string {B : Nat} {w : World} {v : Value} {L : List UInt8} (h : Ob B w v L) : (convert 98 9 v).run Tryz.prog w = .ok (.string ⟨L.toArray⟩) w := by
  obtain ⟨g, cap, cur, fz, rfl, _, hh, _, _, _, _, hc⟩ := h
  refine run_convert_bytes_back (P := Tryz.prog) w 98 9 5 ⟨g, 0, none⟩ cap L Tryz.underlying98 Tryz.underlying5 Tryz.underlying9 (fun j hj => ?_)
  rw [Addr.add_lit, cell_row hh, Nat.zero_add]
  exact hc j _ (List.getElem?_eq_getElem hj)
/-- []byte(s). -/
theorem bytes_conv (w : World) (L : List UInt8) (hl : L.length ≤ 1000000000000) : ∃ p c w', (convert 9 98 (.string ⟨L.toArray⟩)).run Tryz.prog w = .ok (.slice p L.length c) w' ∧ Ob w.heap.size w' (.slice p L.length c) L ∧ Below w.heap.size w w' := by
  have hsz : (ByteArray.mk L.toArray).size = L.length := by simp [ByteArray.size]
  have h := run_bytes_of_string (P := Tryz.prog) w 9 98 5 ⟨L.toArray⟩ Tryz.underlying9 Tryz.underlying98 Tryz.underlying5
  rw [hsz] at h
  have hge := grownCap_ge w L.length 0 5
  have hcs : (bytesRow ⟨L.toArray⟩ (grownCap w L.length 0 5)).size = grownCap w L.length 0 5 := by simp [bytesRow, hsz]; omega
  refine ⟨_, _, _, h, ⟨w.heap.size, _, _, _, rfl, Nat.le_refl _, World.alloc_heap_new w.drew _, .inr (by rw [hcs]; exact Nat.le_refl _), hge, grownCap_le_maxLen w _ 0 5 (by unfold maxLen; omega), hcs, fun j x hx => ?_⟩, (Below.drew (Below.refl _ w)).alloc (Nat.le_refl _) _⟩
  have hj : j < L.length := (List.getElem?_eq_some_iff.1 hx).1
  have hx2 : L[j] = x := by rw [List.getElem?_eq_getElem hj] at hx; exact Option.some.inj hx
  rw [bytesRow, Array.getElem?_append_left (by simpa using hj)]
  simp [hj, hx2]

set_option maxRecDepth 100000 in
set_option maxHeartbeats 4000000 in
theorem text_any {B0 : Nat} {W : World} {s : Value} {ags : List Ag} (nm : List UInt8) (h : Sa B0 W s ags) (hn2 : 2 ≤ nm.length) (hn9 : nm.length ≤ 1000) (hlen : ags.length ≤ 100) (hll : ∀ g ∈ ags, g.l.length ≤ 100) (hsm : ∀ g ∈ ags, ∀ t ∈ g.l, t.small) :
    Calls Tryz.prog 42 #[.agg #[.string ⟨nm.toArray⟩, s]] W fun e w' => e = .returned (.string ⟨(cnT nm ags).toArray⟩) ∧ Below W.heap.size W w' := by
  obtain ⟨a8, c8, rfl, h⟩ := h
  have HE : Hid (cnT nm ags = nm ++ [40] ++ tsP agT ags ags.length ++ [41]) := rfl
  obtain ⟨n, hn0⟩ : ∃ n, ags.length = n := ⟨_, rfl⟩
  have HA : Hid (Sa B0 W (.slice a8 n c8) ags) := ⟨a8, c8, by rw [hn0], h⟩
  have HTL : Hid (∀ k, (tsP agT ags k).length ≤ (2402 + 2) * k) := tsP_len agT ags 2402 (fun g hg => by have := agT_length (hsm g hg); have := hll g hg; omega)
  rw [hn0] at hlen HE ⊢
  have HN : Hid (ags.length = n) := hn0
  have HLL0 : Hid (∀ g ∈ ags, g.l.length ≤ 100) := hll
  have HSM : Hid (∀ g ∈ ags, ∀ t ∈ g.l, t.small) := hsm
  obtain ⟨T, hT⟩ : ∃ T, cnT nm ags = T := ⟨_, rfl⟩
  rw [hT] at HE ⊢
  clear h hn0 hll hsm hT
  obtain ⟨p, c, w1, hcv, hob1, hb1⟩ := bytes_conv (W.alloc (Obj.cells #[.string ⟨nm.toArray⟩, .slice a8 n c8] 32)) nm (by omega)
  have hbA : Below W.heap.size W (W.alloc (Obj.cells #[.string ⟨nm.toArray⟩, .slice a8 n c8] 32)) := (Below.refl _ W).alloc (Nat.le_refl _) _
  have hB1 : Below W.heap.size W w1 := hbA.trans (hb1.mono (by simp))
  have hnew := ((Blk.new W #[.string ⟨nm.toArray⟩, .slice a8 n c8] 32).below hb1).alloc (Obj.cells #[.int .u8 40] 5)
  have hob2 : Ob W.heap.size (w1.alloc (Obj.cells #[.int .u8 40] 5)) (.slice p nm.length c) nm := by
    obtain ⟨g, cap, cur, fz, e, h1, h2⟩ := hob1.alloc (Obj.cells #[.int .u8 40] 5)
    exact ⟨g, cap, cur, fz, e, by rw [World.size_alloc] at h1; omega, h2⟩
  have hB2 := Below.alloc1 hB1 hB1.size (Obj.cells #[.int .u8 40] 5)
  have hcA : (w1.alloc (Obj.cells #[.int .u8 40] 5)).cell? ⟨w1.heap.size, 0, none⟩ = some (.int .u8 (40 : UInt8).toNat) := (Blk.new w1 #[.int .u8 40] 5).cell 0
  have HB1 : Hid _ := hb1
  have HOB1 : Hid _ := hob1
  clear hb1 hob1 hbA hB1
  go_enter Tryz.func42, Tryz.ntmps42
  go_upto_region 2 with (at_builtin; refine wpList_app_b _ rfl _ _ rfl W.heap.size _ nm rfl hob2 w1.heap.size 40 rfl hcA hB2.size (by omega) hn2 ?_; intro v3 w3 hob3 hb3 hk3; refine Hid.out ?_)
  refine (show Hid _ from ?_)
  unfold Hid
  have hB3 := hB2.trans hb3
  have hN3 := hnew.kept hk3 (by intro h; cases h)
  have x1 : w3.cell? ⟨W.heap.size, 1, none⟩ = some (.slice a8 n c8) := hN3.cell 1
  have HO3 : Hid (Ob W.heap.size w3 v3 (nm ++ [40])) := hob3
  have HB3 : Hid (Below W.heap.size W w3) := hB3
  clear hob3 hb3 hk3 hob2 hB2 hcA hcv hnew hB3 hN3
  go_wp2
  go_loopw [3, 14] (fun o i wr => ∃ k : Nat, k ≤ n ∧ i = .int .i64 (k : Int) ∧ Hid (Ob W.heap.size wr o (nm ++ [40] ++ tsP agT ags k)) ∧ Hid (Below W.heap.size W wr)) (fun _ i _ => n - (intOf i).toNat)
  case atStart => exact ⟨0, Nat.zero_le _, rfl, by simpa [tsP] using HO3, HB3⟩
  case round =>
    clear x1
    obtain ⟨k, hk, rfl, HOB, HB⟩ := hrel
    by_cases hlt : k < n
    · have hlt' : (k : Int) < n := by omega
      obtain ⟨g, hg⟩ : ∃ g, ags[k]? = some g := ⟨_, List.getElem?_eq_getElem (by rw [HN.out]; exact hlt)⟩
      have HSU : Hid _ := tsP_succ agT hg
      obtain ⟨b, off, a2, c2, rfl, hb, hst, d0, d1⟩ := HA.out.at hg
      have HSG : Hid (St B0 W (.slice a2 g.l.length c2) g.l) := hst
      have y0 := (HB.out.cell (p := ⟨b, off + k * 2, none⟩) hb).trans d0
      have y1 := (HB.out.cell (p := ⟨b, off + k * 2 + 1, none⟩) hb).trans d1
      have HSMG : Hid (∀ t ∈ g.l, t.small) := HSM.out g (List.mem_of_getElem? hg)
      have hgl := HLL0.out g (List.mem_of_getElem? hg)
      clear d0 d1 hg hst
      have hw2 : IntKind.i64.wrap ((k : Int) + 1) = (k : Int) + 1 := by rw [IntKind.wrap_i64]; omega
      have hll : (nm ++ [40] ++ tsP agT ags k).length ≤ 1000000 := by have := HTL.out k; rw [List.length_append, List.length_append, List.length_singleton]; omega
      have hl2 : 2 ≤ (nm ++ [40] ++ tsP agT ags k).length := by rw [List.length_append, List.length_append]; omega
      obtain ⟨LL, hLL⟩ : ∃ x, nm ++ [40] ++ tsP agT ags k = x := ⟨_, rfl⟩
      have HLL : Hid (nm ++ [40] ++ tsP agT ags k = LL) := hLL
      rw [hLL] at hll hl2 HOB
      clear hLL
      have hbA : Below wr.heap.size wr (wr.alloc (Obj.cells #[.bool g.arr, .slice a2 g.l.length c2] 54)) := (Below.refl _ wr).alloc (Nat.le_refl _) _
      have hobA := HOB.out.below hbA
      have hBA := HB.out.trans (hbA.mono HB.out.size)
      have hnew := Blk.new wr #[.bool g.arr, .slice a2 g.l.length c2] 54
      clear hbA
      obtain ⟨wA, hWA⟩ : ∃ Y, wr.alloc (Obj.cells #[.bool g.arr, .slice a2 g.l.length c2] 54) = Y := ⟨_, rfl⟩
      have HWA : Hid (wr.alloc (Obj.cells #[.bool g.arr, .slice a2 g.l.length c2] 54) = wA) := hWA
      rw [hWA] at hobA hBA hnew
      have c0 : wA.cell? ⟨wr.heap.size, 0, none⟩ = some (.bool g.arr) := hnew.cell 0
      have c1 : wA.cell? ⟨wr.heap.size, 1, none⟩ = some (.slice a2 g.l.length c2) := hnew.cell 1
      clear hWA
      obtain ⟨po, co, rfl⟩ := HOB.out.shape
      by_cases hk0 : 0 < k
      · have hd0 : decide (0 < (k : Int)) = true := by simp; omega
        have HS2 : Hid (tsP agT ags (k + 1) = tsP agT ags k ++ ([44, 32] ++ agT g)) := by have := HSU.out; rw [if_pos hk0] at this; exact this
        go_upto_region 5 with (fail)
        rw [HWA.out]
        go_wp2_with (at_builtin; refine wpList_app_t _ rfl _ _ rfl W.heap.size _ LL rfl hobA [44, 32] rfl hBA.size (by omega) hl2 (by simp) ?_; intro v3 w3 hob3 hb3 hk3; refine Hid.out ?_)
        refine (show Hid _ from ?_)
        unfold Hid
        have hB3 := hBA.trans hb3
        have hN3 := hnew.kept hk3 (by intro h; cases h)
        have x0 : w3.cell? ⟨wr.heap.size, 0, none⟩ = some (.bool g.arr) := hN3.cell 0
        have x1 : w3.cell? ⟨wr.heap.size, 1, none⟩ = some (.slice a2 g.l.length c2) := hN3.cell 1
        clear c0 c1 hb3 hk3
        go_wp2_with fail
        refine (arg_any g HSG.out hB3 hob3 (by rw [List.length_append]; omega) HSMG.out (by simp; omega)).mono ?_
        rintro e w4 ⟨v4, rfl, hob4, hb4, hk4⟩
        have HZ : Hid (Ob W.heap.size w4 v4 (nm ++ [40] ++ tsP agT ags (k + 1)) ∧ Below W.heap.size W w4) := ⟨by rw [HS2.out, ← List.append_assoc, HLL.out]; simpa using hob4, hb4⟩
        clear hob4 hb4 hk4
        go_wp2
        go_roundw
        case rel => exact ⟨k + 1, by omega, by go_num, HZ.out.1, HZ.out.2⟩
        case measure => simp [intOf]; omega
      · have hd0 : decide (0 < (k : Int)) = false := by simp; omega
        have HS2 : Hid (tsP agT ags (k + 1) = tsP agT ags k ++ agT g) := by have := HSU.out; rw [if_neg hk0, List.nil_append] at this; exact this
        go_upto_region 5 with (fail)
        rw [HWA.out]
        go_wp2_with fail
        refine (arg_any g HSG.out hBA hobA hl2 HSMG.out (by omega)).mono ?_
        rintro e w4 ⟨v4, rfl, hob4, hb4, hk4⟩
        have HZ : Hid (Ob W.heap.size w4 v4 (nm ++ [40] ++ tsP agT ags (k + 1)) ∧ Below W.heap.size W w4) := ⟨by rw [HS2.out, ← List.append_assoc, HLL.out]; simpa using hob4, hb4⟩
        clear hob4 hb4 hk4
        go_wp2
        go_roundw
        case rel => exact ⟨k + 1, by omega, by go_num, HZ.out.1, HZ.out.2⟩
        case measure => simp [intOf]; omega
    · have hlt' : ¬ (k : Int) < n := by omega
      obtain rfl : k = n := by omega
      have hll : (nm ++ [40] ++ tsP agT ags k).length ≤ 1000000 := by have := HTL.out k; rw [List.length_append, List.length_append, List.length_singleton]; omega
      have hl2 : 2 ≤ (nm ++ [40] ++ tsP agT ags k).length := by rw [List.length_append, List.length_append]; omega
      obtain ⟨LL, hLL⟩ : ∃ x, nm ++ [40] ++ tsP agT ags k = x := ⟨_, rfl⟩
      rw [hLL] at hll hl2 HOB HE
      clear hLL
      have hobA := HOB.out.alloc (Obj.cells #[.int .u8 41] 5)
      have hBA := Below.alloc1 HB.out HB.out.size (Obj.cells #[.int .u8 41] 5)
      have hcA : (wr.alloc (Obj.cells #[.int .u8 41] 5)).cell? ⟨wr.heap.size, 0, none⟩ = some (.int .u8 (41 : UInt8).toNat) := (Blk.new wr #[.int .u8 41] 5).cell 0
      obtain ⟨po, co, rfl⟩ := HOB.out.shape
      go_wp2_with (at_builtin; refine wpList_app_b _ rfl _ _ rfl W.heap.size _ LL rfl hobA wr.heap.size 41 rfl hcA hBA.size (by omega) hl2 ?_; intro v3 w3 hob3 hb3 hk3; refine Hid.out ?_)
      refine (show Hid _ from ?_)
      unfold Hid
      rw [← HE.out] at hob3
      have hcv := hob3.string
      have HB9 : Hid (Below W.heap.size W w3) := hBA.trans hb3
      obtain ⟨p9, c9, rfl⟩ := hob3.shape
      clear hob3 hb3 hk3 hobA hBA hcA
      go_wp2
      go_ret
      exact ⟨rfl, HB9.out⟩
end Go.Proofs.YtpgecdhieakilaaGreatDoor

namespace Go.Proofs.YtpgecdhieakilaaGreatDoor
open Go.RowKit Go.Shelf
set_option linter.unusedVariables false
set_option linter.unusedSimpArgs false
/-- Is an argument an array where the part says so, and else one term? -/
def shapedB (g : Ag) (part : List UInt8) : Bool := if Lib.hasPrefix part [97] then g.arr else !g.arr && g.l.length == 1

set_option maxRecDepth 100000 in
set_option maxHeartbeats 4000000 in
theorem shaped_any (g : Ag) (a : Option Addr) (c : Nat) (part : List UInt8) (hl : g.l.length ≤ 4398046510976) (W : World) : Calls Tryz.prog 47 #[.agg #[.bool g.arr, .slice a g.l.length c], .string ⟨part.toArray⟩] W fun e w' => e = .returned (.bool (shapedB g part)) ∧ Below W.heap.size W w' := by
  have k := Any.strings_HasPrefix Tryz.laysHasPrefix68 ⟨part.toArray⟩ ⟨#[97]⟩
  have HE : Hid (shapedB g part = if Lib.hasPrefix part [97] then g.arr else !g.arr && g.l.length == 1) := rfl
  obtain ⟨r, hr⟩ : ∃ r, shapedB g part = r := ⟨_, rfl⟩
  obtain ⟨x, hx⟩ : ∃ x, Lib.hasPrefix part [97] = x := ⟨_, rfl⟩
  obtain ⟨ar, har⟩ : ∃ x, g.arr = x := ⟨_, rfl⟩
  obtain ⟨n, hn⟩ : ∃ n, g.l.length = n := ⟨_, rfl⟩
  rw [hr, hx, har, hn] at HE
  rw [hn] at hl
  rw [hr, har, hn]
  have k2 : ∀ w, Calls Tryz.prog 68 #[.string ⟨part.toArray⟩, .string ⟨#[97]⟩] w fun e w' => e = .returned (.bool x) ∧ w' = w := fun w => (k w).mono fun e w' ⟨he, hw⟩ => ⟨by rw [he]; have : Lib.hasPrefix part [97] = x := hx; rw [← this], hw⟩
  clear k hr hx har hn
  go_enter Tryz.func47, Tryz.ntmps47
  go_wp2_with fail
  refine (k2 _).mono ?_
  rintro e w1 ⟨rfl, rfl⟩
  by_cases h1 : n = 1
  · subst h1
    cases x <;> cases ar <;>
    · go_wp2
      go_ret
      exact ⟨by rw [HE.out]; rfl, (Below.refl _ W).alloc (Nat.le_refl _) _⟩
  · have h2 : ((n : Int) == 1) = false := by simp; omega
    have h3 : (n == 1) = false := by simp [h1]
    cases x <;> cases ar <;>
    · go_wp2
      go_ret
      exact ⟨by rw [HE.out]; simp [h3], (Below.refl _ W).alloc (Nat.le_refl _) _⟩

set_option maxRecDepth 100000 in
set_option maxHeartbeats 4000000 in
theorem tooLong_any (g : Ag) (a : Option Addr) (c : Nat) (hl : g.l.length ≤ 1000) (W : World) : Calls Tryz.prog 49 #[.agg #[.bool g.arr, .slice a g.l.length c]] W fun e w' => e = .returned (.bool false) ∧ Below W.heap.size W w' := by
  obtain ⟨ar, har⟩ : ∃ x, g.arr = x := ⟨_, rfl⟩
  obtain ⟨n, hn⟩ : ∃ n, g.l.length = n := ⟨_, rfl⟩
  rw [hn] at hl
  rw [har, hn]
  clear har hn
  have h1 : ¬ (1000 : Int) < n := by omega
  go_enter Tryz.func49, Tryz.ntmps49
  go_wp2
  go_ret
  exact ⟨by simp [h1], (Below.refl _ W).alloc (Nat.le_refl _) _⟩
end Go.Proofs.YtpgecdhieakilaaGreatDoor

namespace Go.Proofs.YtpgecdhieakilaaGreatDoor
open Go.RowKit Go.Shelf
set_option linter.unusedVariables false
set_option linter.unusedSimpArgs false
def eqF (ags : List Ag) (parts : List (List UInt8)) (n : Nat) : Bool := (List.range n).all fun k => match ags[k]?, parts[k]? with | some g, some p => shapedB g p | _, _ => true
theorem eqF_succ {ags : List Ag} {parts : List (List UInt8)} {k : Nat} {g : Ag} {p : List UInt8} (h1 : ags[k]? = some g) (h2 : parts[k]? = some p) : eqF ags parts (k + 1) = (eqF ags parts k && shapedB g p) := by
  simp [eqF, List.range_succ, h1, h2]
theorem eqF_false {ags : List Ag} {parts : List (List UInt8)} {k n : Nat} (hk : k ≤ n) (h : eqF ags parts k = false) : eqF ags parts n = false := by
  simp only [eqF, List.all_eq_false] at h ⊢
  obtain ⟨x, hx, h⟩ := h
  exact ⟨x, by simp at hx ⊢; omega, h⟩
theorem Ss.at {w : World} {a : Option Addr} {n c : Nat} {L : List (List UInt8)} (h : Ss w (.slice a n c) L) {i : Nat} {x : List UInt8} (hx : L[i]? = some x) : ∃ b, a = some ⟨b, 0, none⟩ ∧ b < w.heap.size ∧ w.cell? ⟨b, i, none⟩ = some (.string ⟨x.toArray⟩) := by
  obtain ⟨a0, c0, e, h⟩ := h
  injection e with ea en ec
  subst ea
  obtain ⟨b, e1, e2, e3⟩ := h (by have := (List.getElem?_eq_some_iff.1 hx).1; omega)
  exact ⟨b, e1, e2, e3 i x hx⟩

set_option maxRecDepth 100000 in
set_option maxHeartbeats 4000000 in
theorem equalF {B0 : Nat} {W : World} {s : Value} {ags : List Ag} {a9 : Option Addr} {c9 : Nat} {parts : List (List UInt8)} (h : Sa B0 W s ags) (hp : Ss W (.slice a9 parts.length c9) parts) (hlen : ags.length = parts.length) (hn : ags.length ≤ 4398046510976) (hl : ∀ g ∈ ags, g.l.length ≤ 4398046510976) :
    Calls Tryz.prog 46 #[s, .slice a9 parts.length c9, .func (.func 47) #[] #[]] W fun e w' => e = .returned (.bool (eqF ags parts ags.length)) ∧ Below W.heap.size W w' := by
  obtain ⟨a8, c8, rfl, h⟩ := h
  obtain ⟨n, hn0⟩ : ∃ n, ags.length = n := ⟨_, rfl⟩
  have HA : Hid (Sa B0 W (.slice a8 n c8) ags) := ⟨a8, c8, by rw [hn0], h⟩
  have hpn : parts.length = n := by omega
  rw [hpn] at hp ⊢
  rw [hn0] at hn ⊢
  have HP : Hid (Ss W (.slice a9 n c9) parts) := hp
  have HN : Hid (ags.length = n ∧ parts.length = n) := ⟨hn0, hpn⟩
  have HL : Hid (∀ g ∈ ags, g.l.length ≤ 4398046510976) := hl
  clear h hn0 hpn hp hl hlen
  go_enter Tryz.func46, Tryz.ntmps46
  go_wp2
  go_loopw [17] (fun i wr => ∃ k : Nat, k ≤ n ∧ i = .int .i64 (k : Int) ∧ Hid (eqF ags parts k = true) ∧ Hid (Below W.heap.size W wr)) (fun i _ => n - (intOf i).toNat)
  case atStart => exact ⟨0, Nat.zero_le _, rfl, rfl, Below.refl _ _⟩
  case round =>
    obtain ⟨k, hk, rfl, HQ, HB⟩ := hrel
    by_cases hlt : k < n
    · have hlt' : (k : Int) < n := by omega
      obtain ⟨g, hg⟩ : ∃ g, ags[k]? = some g := ⟨_, List.getElem?_eq_getElem (by rw [HN.out.1]; exact hlt)⟩
      obtain ⟨p, hp⟩ : ∃ p, parts[k]? = some p := ⟨_, List.getElem?_eq_getElem (by rw [HN.out.2]; exact hlt)⟩
      have HSU : Hid (eqF ags parts (k + 1) = (eqF ags parts k && shapedB g p)) := eqF_succ hg hp
      obtain ⟨b, off, a2, c2, rfl, hb, _, d0, d1⟩ := HA.out.at hg
      obtain ⟨b2, rfl, hb2, d2⟩ := HP.out.at hp
      have y0 := (HB.out.cell (p := ⟨b, off + k * 2, none⟩) hb).trans d0
      have y1 := (HB.out.cell (p := ⟨b, off + k * 2 + 1, none⟩) hb).trans d1
      have hgl := HL.out g (List.mem_of_getElem? hg)
      have hbA : Below wr.heap.size wr (wr.alloc (Obj.cells #[.bool g.arr, .slice a2 g.l.length c2] 54)) := (Below.refl _ wr).alloc (Nat.le_refl _) _
      have hBA := HB.out.trans (hbA.mono HB.out.size)
      have y2 := (hBA.cell (p := ⟨b2, k, none⟩) hb2).trans d2
      have HBA : Hid _ := hBA
      have hsh := fun X => shaped_any g a2 c2 p hgl X
      clear d0 d1 d2 hg hp hbA hBA
      have hw2 : IntKind.i64.wrap ((k : Int) + 1) = (k : Int) + 1 := by rw [IntKind.wrap_i64]; omega
      go_wp2_with fail
      refine (hsh _).mono ?_
      rintro e w1 ⟨rfl, hb1⟩
      have HB1 : Hid (Below W.heap.size W w1) := HBA.out.trans (hb1.mono HBA.out.size)
      clear hb1 hsh
      obtain ⟨q, hq⟩ : ∃ q, shapedB g p = q := ⟨_, rfl⟩
      rw [hq] at HSU ⊢
      rw [HQ.out] at HSU
      clear hq
      cases q with
      | true =>
        go_wp2
        go_roundw
        case rel => exact ⟨k + 1, by omega, by go_num, by rw [HSU.out]; rfl, HB1⟩
        case measure => simp [intOf]; omega
      | false =>
        have HF : Hid (eqF ags parts n = false) := eqF_false (k := k + 1) (by omega) (by rw [HSU.out]; rfl)
        go_wp2
        go_ret
        exact ⟨by rw [HF.out]; rfl, HB1.out⟩
    · have hlt' : ¬ (k : Int) < n := by omega
      obtain rfl : k = n := by omega
      go_wp2
      go_ret
      exact ⟨by rw [HQ.out]; rfl, HB.out⟩
end Go.Proofs.YtpgecdhieakilaaGreatDoor

namespace Go.Proofs.YtpgecdhieakilaaGreatDoor
open Go.RowKit Go.Shelf
set_option linter.unusedVariables false
set_option linter.unusedSimpArgs false

set_option maxRecDepth 100000 in
set_option maxHeartbeats 4000000 in
theorem indexF {B0 : Nat} {W : World} {a8 : Option Addr} {c8 n : Nat} {ags : List Ag} (h : Sa B0 W (.slice a8 n c8) ags) (hlen : ags.length = n) (hn : n ≤ 4398046510976) (hl : ∀ g ∈ ags, g.l.length ≤ 1000) :
    Calls Tryz.prog 69 #[.slice a8 n c8, .func (.func 49) #[] #[]] W fun e w' => e = .returned (.int .i64 (-1)) ∧ Below W.heap.size W w' := by
  have HA : Hid (Sa B0 W (.slice a8 n c8) ags) := h
  have HN : Hid (ags.length = n) := hlen
  have HL : Hid (∀ g ∈ ags, g.l.length ≤ 1000) := hl
  clear h hlen hl
  go_enter Tryz.func69, Tryz.ntmps69
  go_wp2
  go_loopw [8] (fun i wr => ∃ k : Nat, k ≤ n ∧ i = .int .i64 (k : Int) ∧ Hid (Below W.heap.size W wr)) (fun i _ => n - (intOf i).toNat)
  case atStart => exact ⟨0, Nat.zero_le _, rfl, Below.refl _ _⟩
  case round =>
    obtain ⟨k, hk, rfl, HB⟩ := hrel
    by_cases hlt : k < n
    · have hlt' : (k : Int) < n := by omega
      obtain ⟨g, hg⟩ : ∃ g, ags[k]? = some g := ⟨_, List.getElem?_eq_getElem (by rw [HN.out]; exact hlt)⟩
      obtain ⟨b, off, a2, c2, rfl, hb, _, d0, d1⟩ := HA.out.at hg
      have y0 := (HB.out.cell (p := ⟨b, off + k * 2, none⟩) hb).trans d0
      have y1 := (HB.out.cell (p := ⟨b, off + k * 2 + 1, none⟩) hb).trans d1
      have hgl := HL.out g (List.mem_of_getElem? hg)
      have hsh := fun X => tooLong_any g a2 c2 hgl X
      clear d0 d1 hg
      have hw2 : IntKind.i64.wrap ((k : Int) + 1) = (k : Int) + 1 := by rw [IntKind.wrap_i64]; omega
      go_wp2_with fail
      refine (hsh _).mono ?_
      rintro e w1 ⟨rfl, hb1⟩
      have HB1 : Hid (Below W.heap.size W w1) := HB.out.trans (hb1.mono HB.out.size)
      clear hb1 hsh
      go_wp2
      go_roundw
      case rel => exact ⟨k + 1, by omega, by go_num, HB1⟩
      case measure => simp [intOf]; omega
    · have hlt' : ¬ (k : Int) < n := by omega
      obtain rfl : k = n := by omega
      go_wp2
      go_ret
      exact ⟨rfl, HB.out⟩

set_option maxRecDepth 100000 in
set_option maxHeartbeats 4000000 in
theorem containsF {B0 : Nat} {W : World} {a8 : Option Addr} {c8 n : Nat} {ags : List Ag} (h : Sa B0 W (.slice a8 n c8) ags) (hlen : ags.length = n) (hn : n ≤ 4398046510976) (hl : ∀ g ∈ ags, g.l.length ≤ 1000) :
    Calls Tryz.prog 48 #[.slice a8 n c8, .func (.func 49) #[] #[]] W fun e w' => e = .returned (.bool false) ∧ Below W.heap.size W w' := by
  have k := indexF h hlen hn hl
  clear h hlen hl
  go_enter Tryz.func48, Tryz.ntmps48
  go_wp2_with fail
  refine k.mono ?_
  rintro e w1 ⟨rfl, hb1⟩
  go_wp2
  go_ret
  exact ⟨rfl, hb1⟩
end Go.Proofs.YtpgecdhieakilaaGreatDoor

namespace Go.Proofs.YtpgecdhieakilaaGreatDoor
open Go.RowKit Go.Shelf
set_option linter.unusedVariables false
set_option linter.unusedSimpArgs false

set_option maxRecDepth 100000 in
set_option maxHeartbeats 4000000 in
theorem place_i (a : Option Addr) (n c : Nat) (W : World) : Calls Tryz.prog 70 #[.string ⟨#[105]⟩, .slice a n c] W fun e w' => e = .returned (.agg #[.slice none 0 0, .bool false, .int .i64 (-1000000000), .int .i64 1000000000]) ∧ Below W.heap.size W w' := by
  go_enter Tryz.func70, Tryz.ntmps70
  go_wp2
  exact ⟨rfl, _, results_cell_row (P := Tryz.prog) rfl _ _ W.heap.size 108 _ (0, 0) _ rfl (World.alloc_heap_new W _) Tryz.underlying108 rfl (by kernel_rfl), rfl, (Below.refl _ W).alloc (Nat.le_refl _) _⟩

set_option maxRecDepth 100000 in
set_option maxHeartbeats 4000000 in
theorem place_b (a : Option Addr) (n c : Nat) (W : World) : Calls Tryz.prog 70 #[.string ⟨#[98]⟩, .slice a n c] W fun e w' => e = .returned (.agg #[.slice none 0 0, .bool false, .int .i64 0, .int .i64 1]) ∧ Below W.heap.size W w' := by
  go_enter Tryz.func70, Tryz.ntmps70
  go_wp2
  exact ⟨rfl, _, results_cell_row (P := Tryz.prog) rfl _ _ W.heap.size 108 _ (0, 0) _ rfl (World.alloc_heap_new W _) Tryz.underlying108 rfl (by kernel_rfl), rfl, (Below.refl _ W).alloc (Nat.le_refl _) _⟩

set_option maxRecDepth 100000 in
set_option maxHeartbeats 4000000 in
theorem place_s (a : Option Addr) (n c : Nat) (W : World) : Calls Tryz.prog 70 #[.string ⟨#[115]⟩, .slice a n c] W fun e w' => e = .returned (.agg #[.slice none 0 0, .bool true, .int .i64 0, .int .i64 0]) ∧ Below W.heap.size W w' := by
  go_enter Tryz.func70, Tryz.ntmps70
  go_wp2
  exact ⟨rfl, _, results_cell_row (P := Tryz.prog) rfl _ _ W.heap.size 108 _ (0, 0) _ rfl (World.alloc_heap_new W _) Tryz.underlying108 rfl (by kernel_rfl), rfl, (Below.refl _ W).alloc (Nat.le_refl _) _⟩

set_option maxRecDepth 100000 in
set_option maxHeartbeats 4000000 in
theorem place_I (a : Option Addr) (n c : Nat) (W : World) : Calls Tryz.prog 70 #[.string ⟨#[73]⟩, .slice a n c] W fun e w' => e = .returned (.agg #[.slice a n c, .bool false, .int .i64 (-1000000), .int .i64 1000000]) ∧ Below W.heap.size W w' := by
  go_enter Tryz.func70, Tryz.ntmps70
  go_wp2
  exact ⟨rfl, _, results_cell_row (P := Tryz.prog) rfl _ _ W.heap.size 108 _ (0, 0) _ rfl (World.alloc_heap_new W _) Tryz.underlying108 rfl (by kernel_rfl), rfl, (Below.refl _ W).alloc (Nat.le_refl _) _⟩

set_option maxRecDepth 100000 in
set_option maxHeartbeats 4000000 in
theorem place_B (a : Option Addr) (n c : Nat) (W : World) : Calls Tryz.prog 70 #[.string ⟨#[66]⟩, .slice a n c] W fun e w' => e = .returned (.agg #[.slice a n c, .bool false, .int .i64 0, .int .i64 1]) ∧ Below W.heap.size W w' := by
  go_enter Tryz.func70, Tryz.ntmps70
  go_wp2
  exact ⟨rfl, _, results_cell_row (P := Tryz.prog) rfl _ _ W.heap.size 108 _ (0, 0) _ rfl (World.alloc_heap_new W _) Tryz.underlying108 rfl (by kernel_rfl), rfl, (Below.refl _ W).alloc (Nat.le_refl _) _⟩

set_option maxRecDepth 100000 in
set_option maxHeartbeats 4000000 in
theorem place_S (a : Option Addr) (n c : Nat) (W : World) : Calls Tryz.prog 70 #[.string ⟨#[83]⟩, .slice a n c] W fun e w' => e = .returned (.agg #[.slice a n c, .bool true, .int .i64 0, .int .i64 0]) ∧ Below W.heap.size W w' := by
  go_enter Tryz.func70, Tryz.ntmps70
  go_wp2
  exact ⟨rfl, _, results_cell_row (P := Tryz.prog) rfl _ _ W.heap.size 108 _ (0, 0) _ rfl (World.alloc_heap_new W _) Tryz.underlying108 rfl (by kernel_rfl), rfl, (Below.refl _ W).alloc (Nat.le_refl _) _⟩
end Go.Proofs.YtpgecdhieakilaaGreatDoor

namespace Go.Proofs.YtpgecdhieakilaaGreatDoor
open Go.RowKit Go.Shelf
set_option linter.unusedVariables false
set_option linter.unusedSimpArgs false

set_option maxRecDepth 100000 in
set_option maxHeartbeats 4000000 in
theorem takes_num (vs : Value) (lo hi n : Int) (sa : Option Addr) (sc : Nat) (W : World) : Calls Tryz.prog 72 #[.agg #[vs, .bool false, .int .i64 lo, .int .i64 hi], .agg #[.int .i64 (-1), .bool false, .int .i64 n, .slice sa 0 sc]] W fun e w' => e = .returned (.bool (decide (lo ≤ n) && decide (n ≤ hi))) ∧ Below W.heap.size W w' := by
  by_cases h0 : n = 0
  · subst h0
    by_cases h1 : lo ≤ 0 <;> by_cases h2 : 0 ≤ hi <;>
    · go_enter Tryz.func72, Tryz.ntmps72
      go_wp2
      go_ret
      exact ⟨by simp [h1, h2], ((Below.refl _ W).alloc (Nat.le_refl _) _).alloc (by simp) _⟩
  · by_cases h1 : lo ≤ n <;> by_cases h2 : n ≤ hi <;>
    · go_enter Tryz.func72, Tryz.ntmps72
      go_wp2
      go_ret
      exact ⟨by simp [h1, h2], ((Below.refl _ W).alloc (Nat.le_refl _) _).alloc (by simp) _⟩
end Go.Proofs.YtpgecdhieakilaaGreatDoor
