/-
  What is proved here: the reference's Parts: a form's parts.
  What is proved here: the reference's equals: which arguments have as many terms.
-/
import Derived.Test.YtpgecdhieakilaaGreatDoorHaj
import Derived.Test.YtpgecdhieakilaaGreatDoorCl
import Derived.Test.YtpgecdhieakilaaGreatDoorDvj
import Derived.Laws.Strings
import Derived.Lib.Strings
namespace Go.Proofs.YtpgecdhieakilaaGreatDoor
open Go.RowKit Go.Shelf
set_option linter.unusedVariables false
set_option linter.unusedSimpArgs false

/-- A text of these bytes. -/
def bs (l : List UInt8) : ByteArray := ⟨l.toArray⟩
theorem bs_size (l : List UInt8) : (bs l).size = l.length := rfl
theorem bs_data (l : List UInt8) : (bs l).data.toList = l := by simp [bs]
theorem bs_of (s : ByteArray) : bs s.data.toList = s := by cases s; simp [bs]
theorem bs_toList (l : List UInt8) : (bs l).toList = l := by
  rw [show bs l = (⟨l.toArray⟩ : ByteArray) from rfl]
  first | exact List.toList_toByteArray | simp
theorem bs_ne (l : List UInt8) (h : l ≠ []) : ¬ (bs l).toList = [] := by rw [bs_toList]; exact h
theorem str_get (s : ByteArray) (i : Nat) (c : UInt8) (h : s.data.toList[i]? = some c) : ∃ h' : i < s.size, s[i] = c := by
  have hlt : i < s.size := by
    have := (List.getElem?_eq_some_iff.1 h).1
    simpa using this
  refine ⟨hlt, ?_⟩
  have e : s.data[i]'(by simpa using hlt) = c := by have := (List.getElem?_eq_some_iff.1 h).2; simpa using this
  exact e
theorem bs_get (l : List UInt8) (i : Nat) (c : UInt8) (h : l[i]? = some c) : ∃ h' : i < (bs l).size, (bs l)[i] = c := str_get _ _ _ (by rw [bs_data]; exact h)
theorem bs_cut (l : List UInt8) (a b : Nat) (h1 : a ≤ b) (h2 : b ≤ l.length) (X : World) :
    (Instr.slice 9 (.string (bs l)) (some (.int .i64 (a : Int))) (some (.int .i64 (b : Int))) none).run Tryz.prog X = .ok (.string (bs ((l.drop a).take (b - a)))) X := by
  rw [run_slice_string X 9 (bs l) .i64 .i64 a b Tryz.underlying9 (by omega) (by omega) (by rw [bs_size]; omega)]
  congr 2
  rw [← bs_of (ByteArray.extract _ _ _), Lib.extract_data, bs_data]
  simp

/-- The parts between commas. -/
def goP : List UInt8 → List UInt8 → List (List UInt8)
  | cur, [] => [cur]
  | cur, c :: t => if c = 44 then cur :: goP [] t else goP (cur ++ [c]) t
def partsR (s : List UInt8) : List (List UInt8) := goP [] s
theorem drop_at {s : List UInt8} {k : Nat} {c : UInt8} (h : s[k]? = some c) : s.drop k = c :: s.drop (k + 1) := by
  obtain ⟨h1, rfl⟩ := List.getElem?_eq_some_iff.1 h
  exact List.drop_eq_getElem_cons h1
/-- How far the parts are told. -/
def atP (s : List UInt8) (L : List (List UInt8)) (f k : Nat) : Prop := if k ≤ s.length then partsR s = L ++ goP ((s.drop f).take (k - f)) (s.drop k) else partsR s = L
theorem atP_0 (s : List UInt8) : atP s [] 0 0 := by unfold atP partsR; rw [if_pos (Nat.zero_le _)]; simp
theorem atP_end {s : List UInt8} {L : List (List UInt8)} {f k : Nat} (h : atP s L f k) (hk : k = s.length) : atP s (L ++ [(s.drop f).take (k - f)]) (k + 1) (k + 1) := by
  unfold atP at *
  rw [if_pos (by omega)] at h
  subst hk
  rw [if_neg (by omega), h, show s.drop s.length = [] from List.drop_length]
  rfl
theorem atP_comma {s : List UInt8} {L : List (List UInt8)} {f k : Nat} (h : atP s L f k) (hc : s[k]? = some 44) : atP s (L ++ [(s.drop f).take (k - f)]) (k + 1) (k + 1) := by
  have hk := (List.getElem?_eq_some_iff.1 hc).1
  unfold atP at *
  rw [if_pos (by omega)] at h
  rw [if_pos (by omega), h, drop_at hc, goP, if_pos rfl, Nat.sub_self]
  simp
theorem atP_other {s : List UInt8} {L : List (List UInt8)} {f k : Nat} {c : UInt8} (h : atP s L f k) (hf : f ≤ k) (hc : s[k]? = some c) (hn : c ≠ 44) : atP s L f (k + 1) := by
  have hk := (List.getElem?_eq_some_iff.1 hc).1
  unfold atP at *
  rw [if_pos (by omega)] at h
  rw [if_pos (by omega), h, drop_at hc, goP, if_neg hn]
  congr 2
  rw [show k + 1 - f = (k - f) + 1 by omega, List.take_add_one, List.getElem?_drop, show f + (k - f) = k by omega, hc]
  rfl

set_option maxRecDepth 100000 in
set_option maxHeartbeats 4000000 in
theorem parts_any (s : List UInt8) (hs : s.length ≤ 100) (W : World) :
    Calls Tryz.prog 52 #[.string ⟨s.toArray⟩] W fun e w' => ∃ v, e = .returned v ∧ w'.ownsRow W.heap.size 9 1 v (partsR s).length (strv (partsR s)) ∧ Below W.heap.size W w' := by
  have hat := fun (i : Nat) (c : UInt8) (h : s[i]? = some c) => bs_get s i c h
  have hcut := fun (a b : Nat) (h1 : a ≤ b) (h2 : b ≤ s.length) (X : World) => bs_cut s a b h1 h2 X
  have hbs : (⟨s.toArray⟩ : ByteArray) = bs s := rfl
  rw [hbs]
  obtain ⟨n, hn⟩ : ∃ n, (bs s).size = n := ⟨_, rfl⟩
  have HN : Hid (s.length = n) := hn
  have HAT : Hid _ := hat
  have HCUT : Hid _ := hcut
  rw [show s.length = n from hn] at hs
  clear hat hcut hbs
  go_enter Tryz.func52, Tryz.ntmps52
  go_wp2
  go_loopw [3, 4, 5] (fun out fr i wr => ∃ (f k : Nat) (L : List (List UInt8)), f ≤ k ∧ k ≤ n + 1 ∧ L.length ≤ k ∧ fr = .int .i64 (f : Int) ∧ i = .int .i64 (k : Int) ∧ Hid (atP s L f k) ∧ Hid (wr.ownsRow W.heap.size 9 1 out L.length (strv L)) ∧ Hid (Below W.heap.size W wr)) (fun _ _ i _ => n + 1 - (intOf i).toNat)
  case atStart => exact ⟨0, 0, [], Nat.le_refl _, Nat.zero_le _, Nat.zero_le _, rfl, rfl, atP_0 s, World.ownsRow_nil _ _ _ _, Below.refl _ _⟩
  case round =>
    obtain ⟨f, k, L, hfk, hkn, hLk, rfl, rfl, HP, HO, HB⟩ := hrel
    have HLK : Hid (L.length ≤ k) := hLk
    obtain ⟨x3, c3, rfl⟩ := own_shape HO.out
    obtain ⟨m, hm⟩ : ∃ z, L.length = z := ⟨_, rfl⟩
    have HM : Hid (L.length = m) := hm
    rw [hm] at hLk HO ⊢
    clear hm
    by_cases hle : k ≤ n
    · have hle' : (k : Int) ≤ (n : Int) := by omega
      have hwk : IntKind.i64.wrap ((k : Int) + 1) = (k : Int) + 1 := by rw [IntKind.wrap_i64]; omega
      obtain ⟨y, hy⟩ : ∃ y, (s.drop f).take (k - f) = y := ⟨_, rfl⟩
      have hx := HCUT.out f k hfk (by rw [HN.out]; exact hle)
      rw [hy] at hx
      by_cases hend : k = n
      · have HP1 : Hid (atP s (L ++ [y]) (k + 1) (k + 1)) := by rw [Hid, ← hy]; exact atP_end HP.out (by rw [HN.out]; exact hend)
        subst hend
        clear hy
        obtain ⟨bs9, hbs9⟩ : ∃ z, wr.heap.size = z := ⟨_, rfl⟩
        obtain ⟨w2, hw2⟩ : ∃ z, wr.alloc (Obj.cells #[.string (bs y)] 9) = z := ⟨_, rfl⟩
        have hb2 : Below wr.heap.size wr w2 := by rw [← hw2]; exact (Below.refl _ _).alloc (Nat.le_refl _) _
        have HBS : Hid (Blk w2 bs9 #[.string (bs y)] 9) := by rw [Hid, ← hw2, ← hbs9]; exact Blk.new _ _ _
        have HO2 : Hid (w2.ownsRow W.heap.size 9 1 (.slice x3 m c3) m (strv L)) := by rw [Hid, ← hw2]; exact World.ownsRow.alloc HO.out _
        have HB2 : Hid (Below W.heap.size W w2) := HB.out.trans (hb2.mono HB.out.size)
        have HW2 : Hid (wr.alloc (Obj.cells #[.string (bs y)] 9) = w2) := hw2
        have HBI : Hid (wr.heap.size = bs9) := hbs9
        clear hw2 hb2 hbs9
        go_wp2_with (at_builtin; (try rw [HW2.out]); (try rw [HBI.out]); refine wpList_app_s _ rfl _ _ rfl W.heap.size _ m L rfl HO2.out bs9 y rfl ((HBS.out.cell 0).trans rfl) HB2.out.size (by have := HLK.out; have := HM.out; omega) ?_; intro v9 w9 hown9 hb9; have HO9 : Hid (w9.ownsRow W.heap.size 9 1 v9 (m + 1) (strv (L ++ [y]))) := hown9; have HB9 : Hid (Below W.heap.size W w9) := HB2.out.trans hb9; clear hown9 hb9)
        go_roundw
        case rel => exact ⟨k + 1, k + 1, L ++ [y], Nat.le_refl _, by omega, by (rw [List.length_append]; have := HLK.out; simp only [List.length_cons, List.length_nil]; omega), by go_num, by go_num, HP1, (by rw [List.length_append, HM.out]; exact HO9), HB9⟩
        case measure => (simp [intOf]; try omega)
      · have hne : ((k : Int) == (n : Int)) = false := by simp; omega
        have hlt : k < n := by omega
        obtain ⟨c, hc⟩ : ∃ c, s[k]? = some c := ⟨_, List.getElem?_eq_getElem (by rw [HN.out]; exact hlt)⟩
        obtain ⟨hx0, hx1⟩ := HAT.out k c hc
        have HC : Hid (s[k]? = some c) := hc
        have hlt' : (k : Int) < (n : Int) := by omega
        clear hc
        by_cases h44 : c = 44
        · subst h44
          have HP1 : Hid (atP s (L ++ [y]) (k + 1) (k + 1)) := by rw [Hid, ← hy]; exact atP_comma HP.out HC.out
          clear hy
          obtain ⟨bs9, hbs9⟩ : ∃ z, wr.heap.size = z := ⟨_, rfl⟩
          obtain ⟨w2, hw2⟩ : ∃ z, wr.alloc (Obj.cells #[.string (bs y)] 9) = z := ⟨_, rfl⟩
          have hb2 : Below wr.heap.size wr w2 := by rw [← hw2]; exact (Below.refl _ _).alloc (Nat.le_refl _) _
          have HBS : Hid (Blk w2 bs9 #[.string (bs y)] 9) := by rw [Hid, ← hw2, ← hbs9]; exact Blk.new _ _ _
          have HO2 : Hid (w2.ownsRow W.heap.size 9 1 (.slice x3 m c3) m (strv L)) := by rw [Hid, ← hw2]; exact World.ownsRow.alloc HO.out _
          have HB2 : Hid (Below W.heap.size W w2) := HB.out.trans (hb2.mono HB.out.size)
          have HW2 : Hid (wr.alloc (Obj.cells #[.string (bs y)] 9) = w2) := hw2
          have HBI : Hid (wr.heap.size = bs9) := hbs9
          clear hw2 hb2 hbs9
          go_wp2_with (at_builtin; (try rw [HW2.out]); (try rw [HBI.out]); refine wpList_app_s _ rfl _ _ rfl W.heap.size _ m L rfl HO2.out bs9 y rfl ((HBS.out.cell 0).trans rfl) HB2.out.size (by have := HLK.out; have := HM.out; omega) ?_; intro v9 w9 hown9 hb9; have HO9 : Hid (w9.ownsRow W.heap.size 9 1 v9 (m + 1) (strv (L ++ [y]))) := hown9; have HB9 : Hid (Below W.heap.size W w9) := HB2.out.trans hb9; clear hown9 hb9)
          go_roundw
          case rel => exact ⟨k + 1, k + 1, L ++ [y], Nat.le_refl _, by omega, by (rw [List.length_append]; have := HLK.out; simp only [List.length_cons, List.length_nil]; omega), by go_num, by go_num, HP1, (by rw [List.length_append, HM.out]; exact HO9), HB9⟩
          case measure => (simp [intOf]; try omega)
        · have h45 : ((c.toNat : Int) == 44) = false := by
            simp only [beq_eq_false_iff_ne, ne_eq]
            intro q
            exact h44 (UInt8.toNat_inj.1 (by simpa using (by omega : c.toNat = 44)))
          have HP1 : Hid (atP s L f (k + 1)) := atP_other HP.out hfk HC.out h44
          go_wp2
          go_roundw
          case rel => exact ⟨f, k + 1, L, by omega, by omega, by have := HLK.out; omega, rfl, by go_num, HP1, (by rw [HM.out]; exact HO), HB⟩
          case measure => (simp [intOf]; try omega)
    · have hle' : ¬ (k : Int) ≤ (n : Int) := by omega
      have HPE : Hid (partsR s = L) := by have := HP.out; unfold atP at this; rw [if_neg (by rw [HN.out]; exact hle)] at this; exact this
      go_wp2
      go_ret
      exact ⟨_, rfl, by rw [HPE.out, HM.out]; exact HO.out, HB.out⟩
end Go.Proofs.YtpgecdhieakilaaGreatDoor

namespace Go.Proofs.YtpgecdhieakilaaGreatDoor
open Go.RowKit Go.Shelf
set_option linter.unusedVariables false
set_option linter.unusedSimpArgs false

/-- The arguments that have as many. -/
def eqL (l : List UInt8) : List Int :=
  if (Lib.hasPrefix l [105, 110, 116, 95, 108, 105, 110] || Lib.hasPrefix l [98, 111, 111, 108, 95, 108, 105, 110] || (l == [102, 122, 110, 95, 115, 111, 114, 116]) || (l == [102, 122, 110, 95, 105, 110, 118, 101, 114, 115, 101]) || (l == [102, 122, 110, 95, 100, 105, 115, 106, 117, 110, 99, 116, 105, 118, 101])) = true then [0, 1] else
  if (Lib.hasPrefix l [102, 122, 110, 95, 103, 108, 111, 98, 97, 108] || Lib.hasPrefix l [102, 122, 110, 95, 98, 105, 110]) = true then [1, 2] else
  if ((l == [102, 122, 110, 95, 99, 117, 109, 117, 108, 97, 116, 105, 118, 101]) || (l == [102, 122, 110, 95, 107, 110, 97, 112, 115, 97, 99, 107])) = true then [0, 1, 2] else
  if ((l == [102, 122, 110, 95, 100, 105, 102, 102, 110])) = true then [0, 1, 2, 3] else []
theorem begins_at (nm : List UInt8) (p : ByteArray) (l : List UInt8) (hp : p.data.toList = l) (X : World) : Calls Tryz.prog 79 #[.string (bs nm), .string p] X fun e w' => e = .returned (.bool (Lib.hasPrefix nm l)) ∧ w' = X := by
  have := begins_any (bs nm) p X
  rw [bs_data, hp] at this
  exact this
theorem own_build {W : World} {B : Nat} (L : List Int) (n : Nat) (hn : L.length = n) (hB : B ≤ W.heap.size) (h0 : 0 < n) (hm : n ≤ 1000) : (W.alloc (Obj.cells (intv L).toArray 3)).ownsRow B 3 1 (.slice (some ⟨W.heap.size, 0, none⟩) n n) n (intv L) := by
  refine ⟨by simp [intv, hn], .inr ⟨W.heap.size, n, (intv L).toArray, rfl, hB, World.alloc_heap_new W _, Nat.le_refl _, by unfold maxLen; omega, by simp [intv, hn], by simp [intv]; exact List.take_of_length_le (by simp; omega)⟩⟩

set_option maxRecDepth 100000 in
set_option maxHeartbeats 4000000 in
theorem equals_any (nm : List UInt8) (W : World) : Calls Tryz.prog 78 #[.string (bs nm)] W fun e w' => ∃ v, e = .returned v ∧ w'.ownsRow W.heap.size 3 1 v (eqL nm).length (intv (eqL nm)) ∧ Below W.heap.size W w' := by
  obtain ⟨b0, hb0⟩ : ∃ x, Lib.hasPrefix nm [105, 110, 116, 95, 108, 105, 110] = x := ⟨_, rfl⟩
  have k0 : ∀ X, Calls Tryz.prog 79 #[.string (bs nm), .string ⟨#[105, 110, 116, 95, 108, 105, 110]⟩] X fun e w' => e = .returned (.bool b0) ∧ w' = X := fun X => by rw [← hb0]; exact begins_at nm _ _ rfl X
  obtain ⟨b1, hb1⟩ : ∃ x, Lib.hasPrefix nm [98, 111, 111, 108, 95, 108, 105, 110] = x := ⟨_, rfl⟩
  have k1 : ∀ X, Calls Tryz.prog 79 #[.string (bs nm), .string ⟨#[98, 111, 111, 108, 95, 108, 105, 110]⟩] X fun e w' => e = .returned (.bool b1) ∧ w' = X := fun X => by rw [← hb1]; exact begins_at nm _ _ rfl X
  obtain ⟨b2, hb2⟩ : ∃ x, (nm == [102, 122, 110, 95, 115, 111, 114, 116]) = x := ⟨_, rfl⟩
  obtain ⟨b3, hb3⟩ : ∃ x, (nm == [102, 122, 110, 95, 105, 110, 118, 101, 114, 115, 101]) = x := ⟨_, rfl⟩
  obtain ⟨b4, hb4⟩ : ∃ x, (nm == [102, 122, 110, 95, 100, 105, 115, 106, 117, 110, 99, 116, 105, 118, 101]) = x := ⟨_, rfl⟩
  obtain ⟨b5, hb5⟩ : ∃ x, Lib.hasPrefix nm [102, 122, 110, 95, 103, 108, 111, 98, 97, 108] = x := ⟨_, rfl⟩
  have k5 : ∀ X, Calls Tryz.prog 79 #[.string (bs nm), .string ⟨#[102, 122, 110, 95, 103, 108, 111, 98, 97, 108]⟩] X fun e w' => e = .returned (.bool b5) ∧ w' = X := fun X => by rw [← hb5]; exact begins_at nm _ _ rfl X
  obtain ⟨b6, hb6⟩ : ∃ x, Lib.hasPrefix nm [102, 122, 110, 95, 98, 105, 110] = x := ⟨_, rfl⟩
  have k6 : ∀ X, Calls Tryz.prog 79 #[.string (bs nm), .string ⟨#[102, 122, 110, 95, 98, 105, 110]⟩] X fun e w' => e = .returned (.bool b6) ∧ w' = X := fun X => by rw [← hb6]; exact begins_at nm _ _ rfl X
  obtain ⟨b7, hb7⟩ : ∃ x, (nm == [102, 122, 110, 95, 99, 117, 109, 117, 108, 97, 116, 105, 118, 101]) = x := ⟨_, rfl⟩
  obtain ⟨b8, hb8⟩ : ∃ x, (nm == [102, 122, 110, 95, 107, 110, 97, 112, 115, 97, 99, 107]) = x := ⟨_, rfl⟩
  obtain ⟨b9, hb9⟩ : ∃ x, (nm == [102, 122, 110, 95, 100, 105, 102, 102, 110]) = x := ⟨_, rfl⟩
  have HE : Hid (eqL nm = if (b0 || b1 || b2 || b3 || b4) = true then [0, 1] else if (b5 || b6) = true then [1, 2] else if (b7 || b8) = true then [0, 1, 2] else if (b9) = true then [0, 1, 2, 3] else []) := by
    unfold Hid eqL
    rw [hb0, hb1, hb2, hb3, hb4, hb5, hb6, hb7, hb8, hb9]
  have hl : (bs nm).toList = nm := bs_toList nm
  obtain ⟨S, hS⟩ : ∃ S, bs nm = S := ⟨_, rfl⟩
  rw [hS] at hl k0 k1 k5 k6 ⊢
  have e2 : (S.toList == [102, 122, 110, 95, 115, 111, 114, 116]) = b2 := by rw [hl]; exact hb2
  have e3 : (S.toList == [102, 122, 110, 95, 105, 110, 118, 101, 114, 115, 101]) = b3 := by rw [hl]; exact hb3
  have e4 : (S.toList == [102, 122, 110, 95, 100, 105, 115, 106, 117, 110, 99, 116, 105, 118, 101]) = b4 := by rw [hl]; exact hb4
  have e7 : (S.toList == [102, 122, 110, 95, 99, 117, 109, 117, 108, 97, 116, 105, 118, 101]) = b7 := by rw [hl]; exact hb7
  have e8 : (S.toList == [102, 122, 110, 95, 107, 110, 97, 112, 115, 97, 99, 107]) = b8 := by rw [hl]; exact hb8
  have e9 : (S.toList == [102, 122, 110, 95, 100, 105, 102, 102, 110]) = b9 := by rw [hl]; exact hb9
  clear hS hl hb0 hb1 hb2 hb3 hb4 hb5 hb6 hb7 hb8 hb9
  cases b0 with
  | true =>
    go_enter Tryz.func78, Tryz.ntmps78
    go_wp2_with fail
    refine (k0 _).mono ?_
    rintro e w' ⟨rfl, hw'⟩
    rw [hw']
    clear hw' w'
    go_wp2
    go_ret
    exact ⟨_, rfl, by rw [HE.out]; exact own_build [0, 1] 2 rfl (Nat.le_refl _) (by omega) (by omega), (Below.refl _ W).alloc (Nat.le_refl _) _⟩
  | false =>
    cases b1 with
    | true =>
      go_enter Tryz.func78, Tryz.ntmps78
      go_wp2_with fail
      refine (k0 _).mono ?_
      rintro e w' ⟨rfl, hw'⟩
      rw [hw']
      clear hw' w'
      go_wp2_with fail
      refine (k1 _).mono ?_
      rintro e w' ⟨rfl, hw'⟩
      rw [hw']
      clear hw' w'
      go_wp2
      go_ret
      exact ⟨_, rfl, by rw [HE.out]; exact own_build [0, 1] 2 rfl (Nat.le_refl _) (by omega) (by omega), (Below.refl _ W).alloc (Nat.le_refl _) _⟩
    | false =>
      cases b2 with
      | true =>
        go_enter Tryz.func78, Tryz.ntmps78
        go_wp2_with fail
        refine (k0 _).mono ?_
        rintro e w' ⟨rfl, hw'⟩
        rw [hw']
        clear hw' w'
        go_wp2_with fail
        refine (k1 _).mono ?_
        rintro e w' ⟨rfl, hw'⟩
        rw [hw']
        clear hw' w'
        go_wp2
        go_ret
        exact ⟨_, rfl, by rw [HE.out]; exact own_build [0, 1] 2 rfl (Nat.le_refl _) (by omega) (by omega), (Below.refl _ W).alloc (Nat.le_refl _) _⟩
      | false =>
        cases b3 with
        | true =>
          go_enter Tryz.func78, Tryz.ntmps78
          go_wp2_with fail
          refine (k0 _).mono ?_
          rintro e w' ⟨rfl, hw'⟩
          rw [hw']
          clear hw' w'
          go_wp2_with fail
          refine (k1 _).mono ?_
          rintro e w' ⟨rfl, hw'⟩
          rw [hw']
          clear hw' w'
          go_wp2
          go_ret
          exact ⟨_, rfl, by rw [HE.out]; exact own_build [0, 1] 2 rfl (Nat.le_refl _) (by omega) (by omega), (Below.refl _ W).alloc (Nat.le_refl _) _⟩
        | false =>
          cases b4 with
          | true =>
            go_enter Tryz.func78, Tryz.ntmps78
            go_wp2_with fail
            refine (k0 _).mono ?_
            rintro e w' ⟨rfl, hw'⟩
            rw [hw']
            clear hw' w'
            go_wp2_with fail
            refine (k1 _).mono ?_
            rintro e w' ⟨rfl, hw'⟩
            rw [hw']
            clear hw' w'
            go_wp2
            go_ret
            exact ⟨_, rfl, by rw [HE.out]; exact own_build [0, 1] 2 rfl (Nat.le_refl _) (by omega) (by omega), (Below.refl _ W).alloc (Nat.le_refl _) _⟩
          | false =>
            cases b5 with
            | true =>
              go_enter Tryz.func78, Tryz.ntmps78
              go_wp2_with fail
              refine (k0 _).mono ?_
              rintro e w' ⟨rfl, hw'⟩
              rw [hw']
              clear hw' w'
              go_wp2_with fail
              refine (k1 _).mono ?_
              rintro e w' ⟨rfl, hw'⟩
              rw [hw']
              clear hw' w'
              go_wp2_with fail
              refine (k5 _).mono ?_
              rintro e w' ⟨rfl, hw'⟩
              rw [hw']
              clear hw' w'
              go_wp2
              go_ret
              exact ⟨_, rfl, by rw [HE.out]; exact own_build [1, 2] 2 rfl (Nat.le_refl _) (by omega) (by omega), (Below.refl _ W).alloc (Nat.le_refl _) _⟩
            | false =>
              cases b6 with
              | true =>
                go_enter Tryz.func78, Tryz.ntmps78
                go_wp2_with fail
                refine (k0 _).mono ?_
                rintro e w' ⟨rfl, hw'⟩
                rw [hw']
                clear hw' w'
                go_wp2_with fail
                refine (k1 _).mono ?_
                rintro e w' ⟨rfl, hw'⟩
                rw [hw']
                clear hw' w'
                go_wp2_with fail
                refine (k5 _).mono ?_
                rintro e w' ⟨rfl, hw'⟩
                rw [hw']
                clear hw' w'
                go_wp2_with fail
                refine (k6 _).mono ?_
                rintro e w' ⟨rfl, hw'⟩
                rw [hw']
                clear hw' w'
                go_wp2
                go_ret
                exact ⟨_, rfl, by rw [HE.out]; exact own_build [1, 2] 2 rfl (Nat.le_refl _) (by omega) (by omega), (Below.refl _ W).alloc (Nat.le_refl _) _⟩
              | false =>
                cases b7 with
                | true =>
                  go_enter Tryz.func78, Tryz.ntmps78
                  go_wp2_with fail
                  refine (k0 _).mono ?_
                  rintro e w' ⟨rfl, hw'⟩
                  rw [hw']
                  clear hw' w'
                  go_wp2_with fail
                  refine (k1 _).mono ?_
                  rintro e w' ⟨rfl, hw'⟩
                  rw [hw']
                  clear hw' w'
                  go_wp2_with fail
                  refine (k5 _).mono ?_
                  rintro e w' ⟨rfl, hw'⟩
                  rw [hw']
                  clear hw' w'
                  go_wp2_with fail
                  refine (k6 _).mono ?_
                  rintro e w' ⟨rfl, hw'⟩
                  rw [hw']
                  clear hw' w'
                  go_wp2
                  go_ret
                  exact ⟨_, rfl, by rw [HE.out]; exact own_build [0, 1, 2] 3 rfl (Nat.le_refl _) (by omega) (by omega), (Below.refl _ W).alloc (Nat.le_refl _) _⟩
                | false =>
                  cases b8 with
                  | true =>
                    go_enter Tryz.func78, Tryz.ntmps78
                    go_wp2_with fail
                    refine (k0 _).mono ?_
                    rintro e w' ⟨rfl, hw'⟩
                    rw [hw']
                    clear hw' w'
                    go_wp2_with fail
                    refine (k1 _).mono ?_
                    rintro e w' ⟨rfl, hw'⟩
                    rw [hw']
                    clear hw' w'
                    go_wp2_with fail
                    refine (k5 _).mono ?_
                    rintro e w' ⟨rfl, hw'⟩
                    rw [hw']
                    clear hw' w'
                    go_wp2_with fail
                    refine (k6 _).mono ?_
                    rintro e w' ⟨rfl, hw'⟩
                    rw [hw']
                    clear hw' w'
                    go_wp2
                    go_ret
                    exact ⟨_, rfl, by rw [HE.out]; exact own_build [0, 1, 2] 3 rfl (Nat.le_refl _) (by omega) (by omega), (Below.refl _ W).alloc (Nat.le_refl _) _⟩
                  | false =>
                    cases b9 with
                    | true =>
                      go_enter Tryz.func78, Tryz.ntmps78
                      go_wp2_with fail
                      refine (k0 _).mono ?_
                      rintro e w' ⟨rfl, hw'⟩
                      rw [hw']
                      clear hw' w'
                      go_wp2_with fail
                      refine (k1 _).mono ?_
                      rintro e w' ⟨rfl, hw'⟩
                      rw [hw']
                      clear hw' w'
                      go_wp2_with fail
                      refine (k5 _).mono ?_
                      rintro e w' ⟨rfl, hw'⟩
                      rw [hw']
                      clear hw' w'
                      go_wp2_with fail
                      refine (k6 _).mono ?_
                      rintro e w' ⟨rfl, hw'⟩
                      rw [hw']
                      clear hw' w'
                      go_wp2
                      go_ret
                      exact ⟨_, rfl, by rw [HE.out]; exact own_build [0, 1, 2, 3] 4 rfl (Nat.le_refl _) (by omega) (by omega), (Below.refl _ W).alloc (Nat.le_refl _) _⟩
                    | false =>
                      go_enter Tryz.func78, Tryz.ntmps78
                      go_wp2_with fail
                      refine (k0 _).mono ?_
                      rintro e w' ⟨rfl, hw'⟩
                      rw [hw']
                      clear hw' w'
                      go_wp2_with fail
                      refine (k1 _).mono ?_
                      rintro e w' ⟨rfl, hw'⟩
                      rw [hw']
                      clear hw' w'
                      go_wp2_with fail
                      refine (k5 _).mono ?_
                      rintro e w' ⟨rfl, hw'⟩
                      rw [hw']
                      clear hw' w'
                      go_wp2_with fail
                      refine (k6 _).mono ?_
                      rintro e w' ⟨rfl, hw'⟩
                      rw [hw']
                      clear hw' w'
                      go_wp2
                      go_ret
                      exact ⟨_, rfl, by rw [HE.out]; exact World.ownsRow_nil _ _ _ _, Below.refl _ _⟩
end Go.Proofs.YtpgecdhieakilaaGreatDoor
