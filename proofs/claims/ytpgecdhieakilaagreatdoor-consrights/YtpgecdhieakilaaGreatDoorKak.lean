/-
  What is proved here: the reference's Right of any constraint.
-/
import Derived.Test.YtpgecdhieakilaaGreatDoorKaij
import Derived.Test.YtpgecdhieakilaaGreatDoorKae
namespace Go.Proofs.YtpgecdhieakilaaGreatDoor
open Go.RowKit Go.Shelf
set_option linter.unusedVariables false
set_option linter.unusedSimpArgs false

theorem part_shape {p : List UInt8} (h : Lib.trimPrefix p [97] ∈ six) : ∃ x, [x] ∈ six ∧ Lib.trimPrefix p [97] = [x] ∧ ((p = [x] ∧ Lib.hasPrefix p [97] = false ∧ (x == 97) = false) ∨ (p = [97, x] ∧ Lib.hasPrefix p [97] = true)) := by
  unfold Lib.trimPrefix Lib.hasPrefix at h ⊢
  by_cases hp : [97].isPrefixOf p = true
  · rw [if_pos hp] at h ⊢
    obtain ⟨r, rfl⟩ : ∃ r, p = 97 :: r := by
      cases p with
      | nil => simp at hp
      | cons a r => simp at hp; exact ⟨r, by rw [hp]⟩
    simp only [List.length_cons, List.length_nil, Nat.zero_add, List.drop_succ_cons, List.drop_zero] at h ⊢
    have h' := h
    simp only [six, List.mem_cons, List.mem_nil_iff, or_false] at h'
    rcases h' with rfl | rfl | rfl | rfl | rfl | rfl <;> exact ⟨_, h, rfl, .inr ⟨rfl, hp⟩⟩
  · rw [if_neg hp] at h ⊢
    have h' := h
    simp only [six, List.mem_cons, List.mem_nil_iff, or_false] at h'
    rcases h' with rfl | rfl | rfl | rfl | rfl | rfl <;> exact ⟨_, h, rfl, .inl ⟨rfl, by decide, by decide⟩⟩
theorem eqB_no {ags : List Ag} {parts : List (List UInt8)} {k : Nat} {g : Ag} {p : List UInt8} (h1 : ags[k]? = some g) (h2 : parts[k]? = some p) (h : shapedB g p = false) : eqB ags parts = false := by
  have : eqF ags parts ags.length = false := List.all_eq_false.2 ⟨k, List.mem_range.2 (List.getElem?_eq_some_iff.1 h1).1, by rw [h1, h2]; simpa using h⟩
  unfold eqB; rw [this, Bool.and_false]
theorem eqB_yes {ags : List Ag} {parts : List (List UInt8)} (hl : ags.length = parts.length) (h : ∀ (k : Nat) g p, k < parts.length → ags[k]? = some g → parts[k]? = some p → shapedB g p = true) : eqB ags parts = true := by
  have : eqF ags parts ags.length = true := List.all_eq_true.2 fun k hk => by
    have hk := List.mem_range.1 hk
    rw [List.getElem?_eq_getElem hk, List.getElem?_eq_getElem (by omega)]
    exact h k _ _ (by omega) (List.getElem?_eq_getElem hk) (List.getElem?_eq_getElem (by omega))
  unfold eqB; rw [this, decide_eq_true hl]; rfl
theorem tkL_yes {tk : Nat → Tm → Bool} {ags : List Ag} : ∀ n, (∀ (k : Nat) g t, k < n → ags[k]? = some g → t ∈ g.l → tk k t = true) → tkL tk ags n = true
  | 0, _ => rfl
  | n + 1, h => by
    unfold tkL
    rw [tkL_yes n (fun k g t hk => h k g t (by omega)), Bool.true_and]
    cases hg : ags[n]? with
    | none => rfl
    | some g => exact List.all_eq_true.2 fun t ht => h n g t (by omega) hg ht
theorem tkL_no {tk : Nat → Tm → Bool} {ags : List Ag} {k : Nat} {g : Ag} {t : Tm} (h1 : ags[k]? = some g) (h2 : t ∈ g.l) (h : tk k t = false) : ∀ n, k < n → tkL tk ags n = false
  | 0, hk => by omega
  | n + 1, hk => by
    unfold tkL
    rcases Nat.lt_succ_iff_lt_or_eq.1 hk with q | rfl
    · rw [tkL_no h1 h2 h n q, Bool.false_and]
    · rw [h1]
      show (_ && g.l.all (tk k)) = false
      rw [show (g.l.all (tk k)) = false from List.all_eq_false.2 ⟨t, h2, by rw [h]; simp⟩, Bool.and_false]

theorem ruled_right {B : Nat} {W : World} {a8 : Option Addr} {n c : Nat} {ags : List Ag} (nm : List UInt8) (hF : (findT nm).2 ≠ []) (h : Sa B W (.slice a8 n c) ags) (hlen : ags.length = n) (hl : ∀ g ∈ ags, g.l.length ≤ 1000) (heq : eqB ags (partsF (findT nm).2) = true) :
    Calls Tryz.prog 54 #[.agg #[.string (bs nm), .slice a8 n c]] W fun e w' => e = .returned (.bool (fitsB nm ags)) ∧ Below W.heap.size W w' := by
  obtain ⟨hpl, hsh⟩ := eq_len heq
  obtain ⟨_, hp100, _, _⟩ := find_ok nm hF
  obtain ⟨hnm, _, hp1⟩ := find_ok2 nm hF
  rw [← ruled_fits nm hF ags hpl]
  by_cases hs : ∀ x ∈ special, nm ≠ x
  · rcases hnm with h1 | ⟨h1, h2⟩
    · exact absurd rfl (hs nm (by simpa using h1))
    simp only [plainN, Bool.and_eq_true, Bool.not_eq_true'] at h1
    obtain ⟨p1, p2, p3, p4, p5, p6, p7⟩ := h1
    refine ruled_any nm h hlen (by omega) (by omega) hl ?_ (by rw [p1]; exact nofun) (by rw [p2]; exact nofun) (by rw [p3]; exact nofun) (by rw [p4]; exact nofun) (by rw [p5]; exact nofun) (by rw [p6]; exact nofun) (by rw [p7]; exact nofun)
    by_cases hli : isLin nm = true
    · rw [if_pos hli] at h2
      simp only [Bool.and_eq_true, decide_eq_true_eq, beq_iff_eq] at h2
      rw [h2.1]
      intro x hx
      simp only [List.mem_cons, List.mem_nil_iff, or_false] at hx
      omega
    · rw [if_neg hli] at h2
      rw [show eqL nm = [] by simpa using h2]
      exact fun x hx => absurd hx (by simp)
  · have : nm ∈ special := by
      apply Classical.byContradiction
      intro hn
      exact hs (fun x hx e => hn (e ▸ hx))
    simp only [special, List.mem_cons, List.mem_nil_iff, or_false] at this
    clear hs hnm
    rcases this with rfl | rfl | rfl | rfl | rfl | rfl | rfl | rfl | rfl | rfl | rfl | rfl | rfl | rfl | rfl
    · have hk : (partsF (findT [102, 122, 110, 95, 115, 111, 114, 116]).2).length = 2 := by kernel_rfl
      have he : eqL [102, 122, 110, 95, 115, 111, 114, 116] = [0, 1] := by kernel_rfl
      refine ruled_any [102, 122, 110, 95, 115, 111, 114, 116] h hlen (by omega) (by omega) hl (fun x hx => by rw [he] at hx; simp only [List.mem_cons, List.mem_nil_iff, or_false] at hx <;> omega) (by rw [show Lib.hasPrefix [102, 122, 110, 95, 115, 111, 114, 116] [102, 122, 110, 95, 103, 108, 111, 98, 97, 108] = false from by kernel_rfl]; exact nofun) (by rw [show (([102, 122, 110, 95, 115, 111, 114, 116] : List UInt8) == [102, 122, 110, 95, 109, 97, 120, 105, 109, 117, 109, 95, 105, 110, 116]) = false from by kernel_rfl]; exact nofun) (by rw [show (([102, 122, 110, 95, 115, 111, 114, 116] : List UInt8) == [102, 122, 110, 95, 109, 105, 110, 105, 109, 117, 109, 95, 105, 110, 116]) = false from by kernel_rfl]; exact nofun) (by rw [show (([102, 122, 110, 95, 115, 111, 114, 116] : List UInt8) == [102, 122, 110, 95, 116, 97, 98, 108, 101, 95, 105, 110, 116]) = false from by kernel_rfl]; exact nofun) (by rw [show (([102, 122, 110, 95, 115, 111, 114, 116] : List UInt8) == [102, 122, 110, 95, 114, 101, 103, 117, 108, 97, 114]) = false from by kernel_rfl]; exact nofun) (by rw [show Lib.hasPrefix [102, 122, 110, 95, 115, 111, 114, 116] [102, 122, 110, 95, 98, 105, 110] = false from by kernel_rfl]; exact nofun) (by rw [show (([102, 122, 110, 95, 115, 111, 114, 116] : List UInt8) == [102, 122, 110, 95, 107, 110, 97, 112, 115, 97, 99, 107]) = false from by kernel_rfl]; exact nofun)
    · have hk : (partsF (findT [102, 122, 110, 95, 105, 110, 118, 101, 114, 115, 101]).2).length = 2 := by kernel_rfl
      have he : eqL [102, 122, 110, 95, 105, 110, 118, 101, 114, 115, 101] = [0, 1] := by kernel_rfl
      refine ruled_any [102, 122, 110, 95, 105, 110, 118, 101, 114, 115, 101] h hlen (by omega) (by omega) hl (fun x hx => by rw [he] at hx; simp only [List.mem_cons, List.mem_nil_iff, or_false] at hx <;> omega) (by rw [show Lib.hasPrefix [102, 122, 110, 95, 105, 110, 118, 101, 114, 115, 101] [102, 122, 110, 95, 103, 108, 111, 98, 97, 108] = false from by kernel_rfl]; exact nofun) (by rw [show (([102, 122, 110, 95, 105, 110, 118, 101, 114, 115, 101] : List UInt8) == [102, 122, 110, 95, 109, 97, 120, 105, 109, 117, 109, 95, 105, 110, 116]) = false from by kernel_rfl]; exact nofun) (by rw [show (([102, 122, 110, 95, 105, 110, 118, 101, 114, 115, 101] : List UInt8) == [102, 122, 110, 95, 109, 105, 110, 105, 109, 117, 109, 95, 105, 110, 116]) = false from by kernel_rfl]; exact nofun) (by rw [show (([102, 122, 110, 95, 105, 110, 118, 101, 114, 115, 101] : List UInt8) == [102, 122, 110, 95, 116, 97, 98, 108, 101, 95, 105, 110, 116]) = false from by kernel_rfl]; exact nofun) (by rw [show (([102, 122, 110, 95, 105, 110, 118, 101, 114, 115, 101] : List UInt8) == [102, 122, 110, 95, 114, 101, 103, 117, 108, 97, 114]) = false from by kernel_rfl]; exact nofun) (by rw [show Lib.hasPrefix [102, 122, 110, 95, 105, 110, 118, 101, 114, 115, 101] [102, 122, 110, 95, 98, 105, 110] = false from by kernel_rfl]; exact nofun) (by rw [show (([102, 122, 110, 95, 105, 110, 118, 101, 114, 115, 101] : List UInt8) == [102, 122, 110, 95, 107, 110, 97, 112, 115, 97, 99, 107]) = false from by kernel_rfl]; exact nofun)
    · have hk : (partsF (findT [102, 122, 110, 95, 100, 105, 115, 106, 117, 110, 99, 116, 105, 118, 101]).2).length = 2 := by kernel_rfl
      have he : eqL [102, 122, 110, 95, 100, 105, 115, 106, 117, 110, 99, 116, 105, 118, 101] = [0, 1] := by kernel_rfl
      refine ruled_any [102, 122, 110, 95, 100, 105, 115, 106, 117, 110, 99, 116, 105, 118, 101] h hlen (by omega) (by omega) hl (fun x hx => by rw [he] at hx; simp only [List.mem_cons, List.mem_nil_iff, or_false] at hx <;> omega) (by rw [show Lib.hasPrefix [102, 122, 110, 95, 100, 105, 115, 106, 117, 110, 99, 116, 105, 118, 101] [102, 122, 110, 95, 103, 108, 111, 98, 97, 108] = false from by kernel_rfl]; exact nofun) (by rw [show (([102, 122, 110, 95, 100, 105, 115, 106, 117, 110, 99, 116, 105, 118, 101] : List UInt8) == [102, 122, 110, 95, 109, 97, 120, 105, 109, 117, 109, 95, 105, 110, 116]) = false from by kernel_rfl]; exact nofun) (by rw [show (([102, 122, 110, 95, 100, 105, 115, 106, 117, 110, 99, 116, 105, 118, 101] : List UInt8) == [102, 122, 110, 95, 109, 105, 110, 105, 109, 117, 109, 95, 105, 110, 116]) = false from by kernel_rfl]; exact nofun) (by rw [show (([102, 122, 110, 95, 100, 105, 115, 106, 117, 110, 99, 116, 105, 118, 101] : List UInt8) == [102, 122, 110, 95, 116, 97, 98, 108, 101, 95, 105, 110, 116]) = false from by kernel_rfl]; exact nofun) (by rw [show (([102, 122, 110, 95, 100, 105, 115, 106, 117, 110, 99, 116, 105, 118, 101] : List UInt8) == [102, 122, 110, 95, 114, 101, 103, 117, 108, 97, 114]) = false from by kernel_rfl]; exact nofun) (by rw [show Lib.hasPrefix [102, 122, 110, 95, 100, 105, 115, 106, 117, 110, 99, 116, 105, 118, 101] [102, 122, 110, 95, 98, 105, 110] = false from by kernel_rfl]; exact nofun) (by rw [show (([102, 122, 110, 95, 100, 105, 115, 106, 117, 110, 99, 116, 105, 118, 101] : List UInt8) == [102, 122, 110, 95, 107, 110, 97, 112, 115, 97, 99, 107]) = false from by kernel_rfl]; exact nofun)
    · have hk : (partsF (findT [102, 122, 110, 95, 100, 105, 102, 102, 110]).2).length = 4 := by kernel_rfl
      have he : eqL [102, 122, 110, 95, 100, 105, 102, 102, 110] = [0, 1, 2, 3] := by kernel_rfl
      refine ruled_any [102, 122, 110, 95, 100, 105, 102, 102, 110] h hlen (by omega) (by omega) hl (fun x hx => by rw [he] at hx; simp only [List.mem_cons, List.mem_nil_iff, or_false] at hx <;> omega) (by rw [show Lib.hasPrefix [102, 122, 110, 95, 100, 105, 102, 102, 110] [102, 122, 110, 95, 103, 108, 111, 98, 97, 108] = false from by kernel_rfl]; exact nofun) (by rw [show (([102, 122, 110, 95, 100, 105, 102, 102, 110] : List UInt8) == [102, 122, 110, 95, 109, 97, 120, 105, 109, 117, 109, 95, 105, 110, 116]) = false from by kernel_rfl]; exact nofun) (by rw [show (([102, 122, 110, 95, 100, 105, 102, 102, 110] : List UInt8) == [102, 122, 110, 95, 109, 105, 110, 105, 109, 117, 109, 95, 105, 110, 116]) = false from by kernel_rfl]; exact nofun) (by rw [show (([102, 122, 110, 95, 100, 105, 102, 102, 110] : List UInt8) == [102, 122, 110, 95, 116, 97, 98, 108, 101, 95, 105, 110, 116]) = false from by kernel_rfl]; exact nofun) (by rw [show (([102, 122, 110, 95, 100, 105, 102, 102, 110] : List UInt8) == [102, 122, 110, 95, 114, 101, 103, 117, 108, 97, 114]) = false from by kernel_rfl]; exact nofun) (by rw [show Lib.hasPrefix [102, 122, 110, 95, 100, 105, 102, 102, 110] [102, 122, 110, 95, 98, 105, 110] = false from by kernel_rfl]; exact nofun) (by rw [show (([102, 122, 110, 95, 100, 105, 102, 102, 110] : List UInt8) == [102, 122, 110, 95, 107, 110, 97, 112, 115, 97, 99, 107]) = false from by kernel_rfl]; exact nofun)
    · have hk : (partsF (findT [102, 122, 110, 95, 103, 108, 111, 98, 97, 108, 95, 99, 97, 114, 100, 105, 110, 97, 108, 105, 116, 121]).2).length = 3 := by kernel_rfl
      have he : eqL [102, 122, 110, 95, 103, 108, 111, 98, 97, 108, 95, 99, 97, 114, 100, 105, 110, 97, 108, 105, 116, 121] = [1, 2] := by kernel_rfl
      refine ruled_any [102, 122, 110, 95, 103, 108, 111, 98, 97, 108, 95, 99, 97, 114, 100, 105, 110, 97, 108, 105, 116, 121] h hlen (by omega) (by omega) hl (fun x hx => by rw [he] at hx; simp only [List.mem_cons, List.mem_nil_iff, or_false] at hx <;> omega) (fun _ => by omega) (by rw [show (([102, 122, 110, 95, 103, 108, 111, 98, 97, 108, 95, 99, 97, 114, 100, 105, 110, 97, 108, 105, 116, 121] : List UInt8) == [102, 122, 110, 95, 109, 97, 120, 105, 109, 117, 109, 95, 105, 110, 116]) = false from by kernel_rfl]; exact nofun) (by rw [show (([102, 122, 110, 95, 103, 108, 111, 98, 97, 108, 95, 99, 97, 114, 100, 105, 110, 97, 108, 105, 116, 121] : List UInt8) == [102, 122, 110, 95, 109, 105, 110, 105, 109, 117, 109, 95, 105, 110, 116]) = false from by kernel_rfl]; exact nofun) (by rw [show (([102, 122, 110, 95, 103, 108, 111, 98, 97, 108, 95, 99, 97, 114, 100, 105, 110, 97, 108, 105, 116, 121] : List UInt8) == [102, 122, 110, 95, 116, 97, 98, 108, 101, 95, 105, 110, 116]) = false from by kernel_rfl]; exact nofun) (by rw [show (([102, 122, 110, 95, 103, 108, 111, 98, 97, 108, 95, 99, 97, 114, 100, 105, 110, 97, 108, 105, 116, 121] : List UInt8) == [102, 122, 110, 95, 114, 101, 103, 117, 108, 97, 114]) = false from by kernel_rfl]; exact nofun) (by rw [show Lib.hasPrefix [102, 122, 110, 95, 103, 108, 111, 98, 97, 108, 95, 99, 97, 114, 100, 105, 110, 97, 108, 105, 116, 121] [102, 122, 110, 95, 98, 105, 110] = false from by kernel_rfl]; exact nofun) (by rw [show (([102, 122, 110, 95, 103, 108, 111, 98, 97, 108, 95, 99, 97, 114, 100, 105, 110, 97, 108, 105, 116, 121] : List UInt8) == [102, 122, 110, 95, 107, 110, 97, 112, 115, 97, 99, 107]) = false from by kernel_rfl]; exact nofun)
    · have hk : (partsF (findT [102, 122, 110, 95, 103, 108, 111, 98, 97, 108, 95, 99, 97, 114, 100, 105, 110, 97, 108, 105, 116, 121, 95, 99, 108, 111, 115, 101, 100]).2).length = 3 := by kernel_rfl
      have he : eqL [102, 122, 110, 95, 103, 108, 111, 98, 97, 108, 95, 99, 97, 114, 100, 105, 110, 97, 108, 105, 116, 121, 95, 99, 108, 111, 115, 101, 100] = [1, 2] := by kernel_rfl
      refine ruled_any [102, 122, 110, 95, 103, 108, 111, 98, 97, 108, 95, 99, 97, 114, 100, 105, 110, 97, 108, 105, 116, 121, 95, 99, 108, 111, 115, 101, 100] h hlen (by omega) (by omega) hl (fun x hx => by rw [he] at hx; simp only [List.mem_cons, List.mem_nil_iff, or_false] at hx <;> omega) (fun _ => by omega) (by rw [show (([102, 122, 110, 95, 103, 108, 111, 98, 97, 108, 95, 99, 97, 114, 100, 105, 110, 97, 108, 105, 116, 121, 95, 99, 108, 111, 115, 101, 100] : List UInt8) == [102, 122, 110, 95, 109, 97, 120, 105, 109, 117, 109, 95, 105, 110, 116]) = false from by kernel_rfl]; exact nofun) (by rw [show (([102, 122, 110, 95, 103, 108, 111, 98, 97, 108, 95, 99, 97, 114, 100, 105, 110, 97, 108, 105, 116, 121, 95, 99, 108, 111, 115, 101, 100] : List UInt8) == [102, 122, 110, 95, 109, 105, 110, 105, 109, 117, 109, 95, 105, 110, 116]) = false from by kernel_rfl]; exact nofun) (by rw [show (([102, 122, 110, 95, 103, 108, 111, 98, 97, 108, 95, 99, 97, 114, 100, 105, 110, 97, 108, 105, 116, 121, 95, 99, 108, 111, 115, 101, 100] : List UInt8) == [102, 122, 110, 95, 116, 97, 98, 108, 101, 95, 105, 110, 116]) = false from by kernel_rfl]; exact nofun) (by rw [show (([102, 122, 110, 95, 103, 108, 111, 98, 97, 108, 95, 99, 97, 114, 100, 105, 110, 97, 108, 105, 116, 121, 95, 99, 108, 111, 115, 101, 100] : List UInt8) == [102, 122, 110, 95, 114, 101, 103, 117, 108, 97, 114]) = false from by kernel_rfl]; exact nofun) (by rw [show Lib.hasPrefix [102, 122, 110, 95, 103, 108, 111, 98, 97, 108, 95, 99, 97, 114, 100, 105, 110, 97, 108, 105, 116, 121, 95, 99, 108, 111, 115, 101, 100] [102, 122, 110, 95, 98, 105, 110] = false from by kernel_rfl]; exact nofun) (by rw [show (([102, 122, 110, 95, 103, 108, 111, 98, 97, 108, 95, 99, 97, 114, 100, 105, 110, 97, 108, 105, 116, 121, 95, 99, 108, 111, 115, 101, 100] : List UInt8) == [102, 122, 110, 95, 107, 110, 97, 112, 115, 97, 99, 107]) = false from by kernel_rfl]; exact nofun)
    · have hk : (partsF (findT [102, 122, 110, 95, 109, 97, 120, 105, 109, 117, 109, 95, 105, 110, 116]).2).length = 2 := by kernel_rfl
      have he : eqL [102, 122, 110, 95, 109, 97, 120, 105, 109, 117, 109, 95, 105, 110, 116] = [] := by kernel_rfl
      refine ruled_any [102, 122, 110, 95, 109, 97, 120, 105, 109, 117, 109, 95, 105, 110, 116] h hlen (by omega) (by omega) hl (fun x hx => by rw [he] at hx; simp only [List.mem_cons, List.mem_nil_iff, or_false] at hx <;> omega) (by rw [show Lib.hasPrefix [102, 122, 110, 95, 109, 97, 120, 105, 109, 117, 109, 95, 105, 110, 116] [102, 122, 110, 95, 103, 108, 111, 98, 97, 108] = false from by kernel_rfl]; exact nofun) (fun _ => by omega) (by rw [show (([102, 122, 110, 95, 109, 97, 120, 105, 109, 117, 109, 95, 105, 110, 116] : List UInt8) == [102, 122, 110, 95, 109, 105, 110, 105, 109, 117, 109, 95, 105, 110, 116]) = false from by kernel_rfl]; exact nofun) (by rw [show (([102, 122, 110, 95, 109, 97, 120, 105, 109, 117, 109, 95, 105, 110, 116] : List UInt8) == [102, 122, 110, 95, 116, 97, 98, 108, 101, 95, 105, 110, 116]) = false from by kernel_rfl]; exact nofun) (by rw [show (([102, 122, 110, 95, 109, 97, 120, 105, 109, 117, 109, 95, 105, 110, 116] : List UInt8) == [102, 122, 110, 95, 114, 101, 103, 117, 108, 97, 114]) = false from by kernel_rfl]; exact nofun) (by rw [show Lib.hasPrefix [102, 122, 110, 95, 109, 97, 120, 105, 109, 117, 109, 95, 105, 110, 116] [102, 122, 110, 95, 98, 105, 110] = false from by kernel_rfl]; exact nofun) (by rw [show (([102, 122, 110, 95, 109, 97, 120, 105, 109, 117, 109, 95, 105, 110, 116] : List UInt8) == [102, 122, 110, 95, 107, 110, 97, 112, 115, 97, 99, 107]) = false from by kernel_rfl]; exact nofun)
    · have hk : (partsF (findT [102, 122, 110, 95, 109, 105, 110, 105, 109, 117, 109, 95, 105, 110, 116]).2).length = 2 := by kernel_rfl
      have he : eqL [102, 122, 110, 95, 109, 105, 110, 105, 109, 117, 109, 95, 105, 110, 116] = [] := by kernel_rfl
      refine ruled_any [102, 122, 110, 95, 109, 105, 110, 105, 109, 117, 109, 95, 105, 110, 116] h hlen (by omega) (by omega) hl (fun x hx => by rw [he] at hx; simp only [List.mem_cons, List.mem_nil_iff, or_false] at hx <;> omega) (by rw [show Lib.hasPrefix [102, 122, 110, 95, 109, 105, 110, 105, 109, 117, 109, 95, 105, 110, 116] [102, 122, 110, 95, 103, 108, 111, 98, 97, 108] = false from by kernel_rfl]; exact nofun) (by rw [show (([102, 122, 110, 95, 109, 105, 110, 105, 109, 117, 109, 95, 105, 110, 116] : List UInt8) == [102, 122, 110, 95, 109, 97, 120, 105, 109, 117, 109, 95, 105, 110, 116]) = false from by kernel_rfl]; exact nofun) (fun _ => by omega) (by rw [show (([102, 122, 110, 95, 109, 105, 110, 105, 109, 117, 109, 95, 105, 110, 116] : List UInt8) == [102, 122, 110, 95, 116, 97, 98, 108, 101, 95, 105, 110, 116]) = false from by kernel_rfl]; exact nofun) (by rw [show (([102, 122, 110, 95, 109, 105, 110, 105, 109, 117, 109, 95, 105, 110, 116] : List UInt8) == [102, 122, 110, 95, 114, 101, 103, 117, 108, 97, 114]) = false from by kernel_rfl]; exact nofun) (by rw [show Lib.hasPrefix [102, 122, 110, 95, 109, 105, 110, 105, 109, 117, 109, 95, 105, 110, 116] [102, 122, 110, 95, 98, 105, 110] = false from by kernel_rfl]; exact nofun) (by rw [show (([102, 122, 110, 95, 109, 105, 110, 105, 109, 117, 109, 95, 105, 110, 116] : List UInt8) == [102, 122, 110, 95, 107, 110, 97, 112, 115, 97, 99, 107]) = false from by kernel_rfl]; exact nofun)
    · have hk : (partsF (findT [102, 122, 110, 95, 116, 97, 98, 108, 101, 95, 105, 110, 116]).2).length = 2 := by kernel_rfl
      have he : eqL [102, 122, 110, 95, 116, 97, 98, 108, 101, 95, 105, 110, 116] = [] := by kernel_rfl
      refine ruled_any [102, 122, 110, 95, 116, 97, 98, 108, 101, 95, 105, 110, 116] h hlen (by omega) (by omega) hl (fun x hx => by rw [he] at hx; simp only [List.mem_cons, List.mem_nil_iff, or_false] at hx <;> omega) (by rw [show Lib.hasPrefix [102, 122, 110, 95, 116, 97, 98, 108, 101, 95, 105, 110, 116] [102, 122, 110, 95, 103, 108, 111, 98, 97, 108] = false from by kernel_rfl]; exact nofun) (by rw [show (([102, 122, 110, 95, 116, 97, 98, 108, 101, 95, 105, 110, 116] : List UInt8) == [102, 122, 110, 95, 109, 97, 120, 105, 109, 117, 109, 95, 105, 110, 116]) = false from by kernel_rfl]; exact nofun) (by rw [show (([102, 122, 110, 95, 116, 97, 98, 108, 101, 95, 105, 110, 116] : List UInt8) == [102, 122, 110, 95, 109, 105, 110, 105, 109, 117, 109, 95, 105, 110, 116]) = false from by kernel_rfl]; exact nofun) (fun _ => by omega) (by rw [show (([102, 122, 110, 95, 116, 97, 98, 108, 101, 95, 105, 110, 116] : List UInt8) == [102, 122, 110, 95, 114, 101, 103, 117, 108, 97, 114]) = false from by kernel_rfl]; exact nofun) (by rw [show Lib.hasPrefix [102, 122, 110, 95, 116, 97, 98, 108, 101, 95, 105, 110, 116] [102, 122, 110, 95, 98, 105, 110] = false from by kernel_rfl]; exact nofun) (by rw [show (([102, 122, 110, 95, 116, 97, 98, 108, 101, 95, 105, 110, 116] : List UInt8) == [102, 122, 110, 95, 107, 110, 97, 112, 115, 97, 99, 107]) = false from by kernel_rfl]; exact nofun)
    · have hk : (partsF (findT [102, 122, 110, 95, 114, 101, 103, 117, 108, 97, 114]).2).length = 6 := by kernel_rfl
      have he : eqL [102, 122, 110, 95, 114, 101, 103, 117, 108, 97, 114] = [] := by kernel_rfl
      have hps : partsF (findT [102, 122, 110, 95, 114, 101, 103, 117, 108, 97, 114]).2 = [[97, 73], [105], [105], [97, 105], [105], [115]] := by kernel_rfl
      rw [hps] at hsh
      have one : ∀ (i : Nat) p, i < ags.length → ([[97, 73], [105], [105], [97, 105], [105], [115]] : List (List UInt8))[i]? = some p → Lib.hasPrefix p [97] = false → (agAt ags i).l.length = 1 := fun i p hi hp hf => by
        have := hsh i _ p (agAt_some hi) hp
        rw [shapedB, hf] at this
        simpa using (by simpa using this : _ ∧ _).2
      refine ruled_any [102, 122, 110, 95, 114, 101, 103, 117, 108, 97, 114] h hlen (by omega) (by omega) hl (fun x hx => by rw [he] at hx; simp only [List.mem_cons, List.mem_nil_iff, or_false] at hx <;> omega) (by rw [show Lib.hasPrefix [102, 122, 110, 95, 114, 101, 103, 117, 108, 97, 114] [102, 122, 110, 95, 103, 108, 111, 98, 97, 108] = false from by kernel_rfl]; exact nofun) (by rw [show (([102, 122, 110, 95, 114, 101, 103, 117, 108, 97, 114] : List UInt8) == [102, 122, 110, 95, 109, 97, 120, 105, 109, 117, 109, 95, 105, 110, 116]) = false from by kernel_rfl]; exact nofun) (by rw [show (([102, 122, 110, 95, 114, 101, 103, 117, 108, 97, 114] : List UInt8) == [102, 122, 110, 95, 109, 105, 110, 105, 109, 117, 109, 95, 105, 110, 116]) = false from by kernel_rfl]; exact nofun) (by rw [show (([102, 122, 110, 95, 114, 101, 103, 117, 108, 97, 114] : List UInt8) == [102, 122, 110, 95, 116, 97, 98, 108, 101, 95, 105, 110, 116]) = false from by kernel_rfl]; exact nofun) (fun _ => ⟨by omega, one 1 [105] (by omega) rfl (by kernel_rfl), one 2 [105] (by omega) rfl (by kernel_rfl), one 4 [105] (by omega) rfl (by kernel_rfl)⟩) (by rw [show Lib.hasPrefix [102, 122, 110, 95, 114, 101, 103, 117, 108, 97, 114] [102, 122, 110, 95, 98, 105, 110] = false from by kernel_rfl]; exact nofun) (by rw [show (([102, 122, 110, 95, 114, 101, 103, 117, 108, 97, 114] : List UInt8) == [102, 122, 110, 95, 107, 110, 97, 112, 115, 97, 99, 107]) = false from by kernel_rfl]; exact nofun)
    · have hk : (partsF (findT [102, 122, 110, 95, 99, 117, 109, 117, 108, 97, 116, 105, 118, 101]).2).length = 4 := by kernel_rfl
      have he : eqL [102, 122, 110, 95, 99, 117, 109, 117, 108, 97, 116, 105, 118, 101] = [0, 1, 2] := by kernel_rfl
      refine ruled_any [102, 122, 110, 95, 99, 117, 109, 117, 108, 97, 116, 105, 118, 101] h hlen (by omega) (by omega) hl (fun x hx => by rw [he] at hx; simp only [List.mem_cons, List.mem_nil_iff, or_false] at hx <;> omega) (by rw [show Lib.hasPrefix [102, 122, 110, 95, 99, 117, 109, 117, 108, 97, 116, 105, 118, 101] [102, 122, 110, 95, 103, 108, 111, 98, 97, 108] = false from by kernel_rfl]; exact nofun) (by rw [show (([102, 122, 110, 95, 99, 117, 109, 117, 108, 97, 116, 105, 118, 101] : List UInt8) == [102, 122, 110, 95, 109, 97, 120, 105, 109, 117, 109, 95, 105, 110, 116]) = false from by kernel_rfl]; exact nofun) (by rw [show (([102, 122, 110, 95, 99, 117, 109, 117, 108, 97, 116, 105, 118, 101] : List UInt8) == [102, 122, 110, 95, 109, 105, 110, 105, 109, 117, 109, 95, 105, 110, 116]) = false from by kernel_rfl]; exact nofun) (by rw [show (([102, 122, 110, 95, 99, 117, 109, 117, 108, 97, 116, 105, 118, 101] : List UInt8) == [102, 122, 110, 95, 116, 97, 98, 108, 101, 95, 105, 110, 116]) = false from by kernel_rfl]; exact nofun) (by rw [show (([102, 122, 110, 95, 99, 117, 109, 117, 108, 97, 116, 105, 118, 101] : List UInt8) == [102, 122, 110, 95, 114, 101, 103, 117, 108, 97, 114]) = false from by kernel_rfl]; exact nofun) (by rw [show Lib.hasPrefix [102, 122, 110, 95, 99, 117, 109, 117, 108, 97, 116, 105, 118, 101] [102, 122, 110, 95, 98, 105, 110] = false from by kernel_rfl]; exact nofun) (by rw [show (([102, 122, 110, 95, 99, 117, 109, 117, 108, 97, 116, 105, 118, 101] : List UInt8) == [102, 122, 110, 95, 107, 110, 97, 112, 115, 97, 99, 107]) = false from by kernel_rfl]; exact nofun)
    · have hk : (partsF (findT [102, 122, 110, 95, 98, 105, 110, 95, 112, 97, 99, 107, 105, 110, 103]).2).length = 3 := by kernel_rfl
      have he : eqL [102, 122, 110, 95, 98, 105, 110, 95, 112, 97, 99, 107, 105, 110, 103] = [1, 2] := by kernel_rfl
      refine ruled_any [102, 122, 110, 95, 98, 105, 110, 95, 112, 97, 99, 107, 105, 110, 103] h hlen (by omega) (by omega) hl (fun x hx => by rw [he] at hx; simp only [List.mem_cons, List.mem_nil_iff, or_false] at hx <;> omega) (by rw [show Lib.hasPrefix [102, 122, 110, 95, 98, 105, 110, 95, 112, 97, 99, 107, 105, 110, 103] [102, 122, 110, 95, 103, 108, 111, 98, 97, 108] = false from by kernel_rfl]; exact nofun) (by rw [show (([102, 122, 110, 95, 98, 105, 110, 95, 112, 97, 99, 107, 105, 110, 103] : List UInt8) == [102, 122, 110, 95, 109, 97, 120, 105, 109, 117, 109, 95, 105, 110, 116]) = false from by kernel_rfl]; exact nofun) (by rw [show (([102, 122, 110, 95, 98, 105, 110, 95, 112, 97, 99, 107, 105, 110, 103] : List UInt8) == [102, 122, 110, 95, 109, 105, 110, 105, 109, 117, 109, 95, 105, 110, 116]) = false from by kernel_rfl]; exact nofun) (by rw [show (([102, 122, 110, 95, 98, 105, 110, 95, 112, 97, 99, 107, 105, 110, 103] : List UInt8) == [102, 122, 110, 95, 116, 97, 98, 108, 101, 95, 105, 110, 116]) = false from by kernel_rfl]; exact nofun) (by rw [show (([102, 122, 110, 95, 98, 105, 110, 95, 112, 97, 99, 107, 105, 110, 103] : List UInt8) == [102, 122, 110, 95, 114, 101, 103, 117, 108, 97, 114]) = false from by kernel_rfl]; exact nofun) (fun _ => by omega) (by rw [show (([102, 122, 110, 95, 98, 105, 110, 95, 112, 97, 99, 107, 105, 110, 103] : List UInt8) == [102, 122, 110, 95, 107, 110, 97, 112, 115, 97, 99, 107]) = false from by kernel_rfl]; exact nofun)
    · have hk : (partsF (findT [102, 122, 110, 95, 98, 105, 110, 95, 112, 97, 99, 107, 105, 110, 103, 95, 99, 97, 112, 97]).2).length = 3 := by kernel_rfl
      have he : eqL [102, 122, 110, 95, 98, 105, 110, 95, 112, 97, 99, 107, 105, 110, 103, 95, 99, 97, 112, 97] = [1, 2] := by kernel_rfl
      refine ruled_any [102, 122, 110, 95, 98, 105, 110, 95, 112, 97, 99, 107, 105, 110, 103, 95, 99, 97, 112, 97] h hlen (by omega) (by omega) hl (fun x hx => by rw [he] at hx; simp only [List.mem_cons, List.mem_nil_iff, or_false] at hx <;> omega) (by rw [show Lib.hasPrefix [102, 122, 110, 95, 98, 105, 110, 95, 112, 97, 99, 107, 105, 110, 103, 95, 99, 97, 112, 97] [102, 122, 110, 95, 103, 108, 111, 98, 97, 108] = false from by kernel_rfl]; exact nofun) (by rw [show (([102, 122, 110, 95, 98, 105, 110, 95, 112, 97, 99, 107, 105, 110, 103, 95, 99, 97, 112, 97] : List UInt8) == [102, 122, 110, 95, 109, 97, 120, 105, 109, 117, 109, 95, 105, 110, 116]) = false from by kernel_rfl]; exact nofun) (by rw [show (([102, 122, 110, 95, 98, 105, 110, 95, 112, 97, 99, 107, 105, 110, 103, 95, 99, 97, 112, 97] : List UInt8) == [102, 122, 110, 95, 109, 105, 110, 105, 109, 117, 109, 95, 105, 110, 116]) = false from by kernel_rfl]; exact nofun) (by rw [show (([102, 122, 110, 95, 98, 105, 110, 95, 112, 97, 99, 107, 105, 110, 103, 95, 99, 97, 112, 97] : List UInt8) == [102, 122, 110, 95, 116, 97, 98, 108, 101, 95, 105, 110, 116]) = false from by kernel_rfl]; exact nofun) (by rw [show (([102, 122, 110, 95, 98, 105, 110, 95, 112, 97, 99, 107, 105, 110, 103, 95, 99, 97, 112, 97] : List UInt8) == [102, 122, 110, 95, 114, 101, 103, 117, 108, 97, 114]) = false from by kernel_rfl]; exact nofun) (fun _ => by omega) (by rw [show (([102, 122, 110, 95, 98, 105, 110, 95, 112, 97, 99, 107, 105, 110, 103, 95, 99, 97, 112, 97] : List UInt8) == [102, 122, 110, 95, 107, 110, 97, 112, 115, 97, 99, 107]) = false from by kernel_rfl]; exact nofun)
    · have hk : (partsF (findT [102, 122, 110, 95, 98, 105, 110, 95, 112, 97, 99, 107, 105, 110, 103, 95, 108, 111, 97, 100]).2).length = 3 := by kernel_rfl
      have he : eqL [102, 122, 110, 95, 98, 105, 110, 95, 112, 97, 99, 107, 105, 110, 103, 95, 108, 111, 97, 100] = [1, 2] := by kernel_rfl
      refine ruled_any [102, 122, 110, 95, 98, 105, 110, 95, 112, 97, 99, 107, 105, 110, 103, 95, 108, 111, 97, 100] h hlen (by omega) (by omega) hl (fun x hx => by rw [he] at hx; simp only [List.mem_cons, List.mem_nil_iff, or_false] at hx <;> omega) (by rw [show Lib.hasPrefix [102, 122, 110, 95, 98, 105, 110, 95, 112, 97, 99, 107, 105, 110, 103, 95, 108, 111, 97, 100] [102, 122, 110, 95, 103, 108, 111, 98, 97, 108] = false from by kernel_rfl]; exact nofun) (by rw [show (([102, 122, 110, 95, 98, 105, 110, 95, 112, 97, 99, 107, 105, 110, 103, 95, 108, 111, 97, 100] : List UInt8) == [102, 122, 110, 95, 109, 97, 120, 105, 109, 117, 109, 95, 105, 110, 116]) = false from by kernel_rfl]; exact nofun) (by rw [show (([102, 122, 110, 95, 98, 105, 110, 95, 112, 97, 99, 107, 105, 110, 103, 95, 108, 111, 97, 100] : List UInt8) == [102, 122, 110, 95, 109, 105, 110, 105, 109, 117, 109, 95, 105, 110, 116]) = false from by kernel_rfl]; exact nofun) (by rw [show (([102, 122, 110, 95, 98, 105, 110, 95, 112, 97, 99, 107, 105, 110, 103, 95, 108, 111, 97, 100] : List UInt8) == [102, 122, 110, 95, 116, 97, 98, 108, 101, 95, 105, 110, 116]) = false from by kernel_rfl]; exact nofun) (by rw [show (([102, 122, 110, 95, 98, 105, 110, 95, 112, 97, 99, 107, 105, 110, 103, 95, 108, 111, 97, 100] : List UInt8) == [102, 122, 110, 95, 114, 101, 103, 117, 108, 97, 114]) = false from by kernel_rfl]; exact nofun) (fun _ => by omega) (by rw [show (([102, 122, 110, 95, 98, 105, 110, 95, 112, 97, 99, 107, 105, 110, 103, 95, 108, 111, 97, 100] : List UInt8) == [102, 122, 110, 95, 107, 110, 97, 112, 115, 97, 99, 107]) = false from by kernel_rfl]; exact nofun)
    · have hk : (partsF (findT [102, 122, 110, 95, 107, 110, 97, 112, 115, 97, 99, 107]).2).length = 5 := by kernel_rfl
      have he : eqL [102, 122, 110, 95, 107, 110, 97, 112, 115, 97, 99, 107] = [0, 1, 2] := by kernel_rfl
      refine ruled_any [102, 122, 110, 95, 107, 110, 97, 112, 115, 97, 99, 107] h hlen (by omega) (by omega) hl (fun x hx => by rw [he] at hx; simp only [List.mem_cons, List.mem_nil_iff, or_false] at hx <;> omega) (by rw [show Lib.hasPrefix [102, 122, 110, 95, 107, 110, 97, 112, 115, 97, 99, 107] [102, 122, 110, 95, 103, 108, 111, 98, 97, 108] = false from by kernel_rfl]; exact nofun) (by rw [show (([102, 122, 110, 95, 107, 110, 97, 112, 115, 97, 99, 107] : List UInt8) == [102, 122, 110, 95, 109, 97, 120, 105, 109, 117, 109, 95, 105, 110, 116]) = false from by kernel_rfl]; exact nofun) (by rw [show (([102, 122, 110, 95, 107, 110, 97, 112, 115, 97, 99, 107] : List UInt8) == [102, 122, 110, 95, 109, 105, 110, 105, 109, 117, 109, 95, 105, 110, 116]) = false from by kernel_rfl]; exact nofun) (by rw [show (([102, 122, 110, 95, 107, 110, 97, 112, 115, 97, 99, 107] : List UInt8) == [102, 122, 110, 95, 116, 97, 98, 108, 101, 95, 105, 110, 116]) = false from by kernel_rfl]; exact nofun) (by rw [show (([102, 122, 110, 95, 107, 110, 97, 112, 115, 97, 99, 107] : List UInt8) == [102, 122, 110, 95, 114, 101, 103, 117, 108, 97, 114]) = false from by kernel_rfl]; exact nofun) (by rw [show Lib.hasPrefix [102, 122, 110, 95, 107, 110, 97, 112, 115, 97, 99, 107] [102, 122, 110, 95, 98, 105, 110] = false from by kernel_rfl]; exact nofun) (fun _ => by omega)

set_option maxRecDepth 100000 in
set_option maxHeartbeats 4000000 in
theorem refright_any {B : Nat} {W : World} {a8 a9 : Option Addr} {n c n9 c9 : Nat} {ags : List Ag} {bls : List Bool} (nm : List UInt8) (h : Sa B W (.slice a8 n c) ags) (hlen : ags.length = n) (hn : n ≤ 1000000000000) (hl : ∀ g ∈ ags, g.l.length ≤ 1000000000000) (hb : Sb W (.slice a9 n9 c9) bls) (hbn : bls.length = n9) :
    Calls Tryz.prog 19 #[.agg #[.string (bs nm), .slice a8 n c], .slice a9 n9 c9] W fun e w' => e = .returned (.int .i64 (rightB nm ags bls)) ∧ Below W.heap.size W w' := by
  have HLEN : Hid (ags.length = n) := hlen
  have HL : Hid (∀ (i : Nat) g, ags[i]? = some g → g.l.length ≤ 1000000000000) := fun i g hg => hl g (List.mem_of_getElem? hg)
  have HBN : Hid (bls.length = n9) := hbn
  obtain ⟨B0, hB0⟩ : ∃ x, W.heap.size = x := ⟨_, rfl⟩
  obtain ⟨W1, hW1⟩ : ∃ X, W.alloc (Obj.cells #[.string (bs nm), .slice a8 n c] 32) = X := ⟨_, rfl⟩
  have HB1 : Hid (Below B0 W W1) := by rw [Hid, ← hW1, ← hB0]; exact (Below.refl _ W).alloc (Nat.le_refl _) _
  have KC : Hid (Blk W1 B0 #[.string (bs nm), .slice a8 n c] 32) := by rw [Hid, ← hW1, ← hB0]; exact Blk.new W _ _
  have HW1 : Hid _ := hW1
  have HB0 : Hid (W.heap.size = B0) := hB0
  have HA0 : Hid (Sa B W (.slice a8 n c) ags) := h
  have HSB : Hid (Sb W (.slice a9 n9 c9) bls) := hb
  have HB01 : Hid (B0 < W1.heap.size) := by rw [Hid, ← hW1, ← hB0]; simp
  have k11 := refform_any nm W1
  rw [← (find_same nm).2] at k11
  obtain ⟨F, hF⟩ : ∃ F, (findT nm).2 = F := ⟨_, rfl⟩
  have HF := hid hF
  rw [hF] at k11
  obtain ⟨r, hr⟩ : ∃ r, rightB nm ags bls = r := ⟨_, rfl⟩
  have HR := hid hr
  rw [hr]
  have k54 := fun (h3 : ∀ g ∈ ags, g.l.length ≤ 1000) (h4 : F ≠ []) (h5 : eqB ags (partsF F) = true) (X : World) (hX : Sa B X (.slice a8 n c) ags) => (ruled_right nm (by rw [hF]; exact h4) hX hlen h3 (by rw [hF]; exact h5) : Calls Tryz.prog 54 #[.agg #[.string (bs nm), .slice a8 n c]] X fun e w' => e = .returned (.bool (fitsB nm ags)) ∧ Below X.heap.size X w')
  obtain ⟨S, hS⟩ : ∃ S, bs nm = S := ⟨_, rfl⟩
  rw [hS] at KC HW1 k54
  rw [show (⟨nm.toArray⟩ : ByteArray) = bs nm from rfl, hS] at k11
  rw [hS]
  clear hS hr hF h hlen hn hl hb hbn hB0 hW1
  have xc := KC.out.cell 1
  have xn := KC.out.cell 0
  simp only [List.getElem?_toArray, List.getElem?_cons_succ, List.getElem?_cons_zero] at xc xn
  go_enter Tryz.func19, Tryz.ntmps19
  go_upto_region 1 with (fail)
  rw [HW1.out, HB0.out]
  go_wp2_with fail
  refine k11.mono ?_
  clear k11
  rintro e w2 ⟨rfl, hb2⟩
  have HB2 : Hid (Below B0 W w2) := HB1.out.trans (hb2.mono (by have := HB01.out; omega))
  have KC2 : Hid (Blk w2 B0 #[.string S, .slice a8 n c] 32) := KC.out.below hb2
  have h20 : Hid (B0 < w2.heap.size) := KC2.out.lt
  clear hb2 xc xn
  by_cases hF0 : F = []
  · subst hF0
    obtain rfl : 51 = r := by rw [← HR.out]; unfold rightB; rw [if_pos HF.out]
    go_wp2
    go_ret
    exact ⟨rfl, by rw [HB0.out]; exact HB2.out⟩
  have hFT : (findT nm).2 ≠ [] := by rw [HF.out]; exact hF0
  obtain ⟨hsix, hp100, hf100, _⟩ := find_ok nm hFT
  obtain ⟨_, hpp, hp1⟩ := find_ok2 nm hFT
  rw [HF.out] at hsix hp100 hf100 hpp hp1
  have HRV : Hid (r = rightV (eqB ags (partsF F)) (ags.any longB) (tkL (partTk bls (partsF F)) ags ags.length) (fitsB nm ags)) := by
    rw [Hid, ← HR.out]; unfold rightB; rw [HF.out, if_neg hF0]
  have k52 := parts_any F hf100 w2
  rw [hpp] at k52
  have HK54 := hid fun h3 h5 => k54 h3 hF0 h5
  have hFn : (bs F).toList.isEmpty = false := by have := bs_ne F hF0; cases hh : (bs F).toList with | nil => exact absurd hh this | cons => rfl
  obtain ⟨P, hP⟩ : ∃ P, partsF F = P := ⟨_, rfl⟩
  rw [hP] at HRV hsix hp100 hp1 k52 HK54
  rw [show (⟨F.toArray⟩ : ByteArray) = bs F from rfl] at k52 ⊢
  obtain ⟨SF, hSF⟩ : ∃ S, bs F = S := ⟨_, rfl⟩
  rw [hSF] at hFn k52 ⊢
  have HSIX := hid hsix
  obtain ⟨m, hm⟩ : ∃ m, P.length = m := ⟨_, rfl⟩
  have HM := hid hm
  rw [hm] at hp100 hp1 k52
  clear hSF hP hpp hf100 hF0 hFT HF HR k54 hsix hm KC HB1 HW1
  go_wp2_with fail
  refine k52.mono ?_
  clear k52
  rintro e w3 ⟨v, rfl, hown, hb3⟩
  obtain ⟨aP, cP, rfl⟩ := own_shape hown
  have hss := own_ss hown
  have HB3 : Hid (Below B0 W w3) := HB2.out.trans (hb3.mono (Nat.le_of_lt h20.out))
  have KC3 : Hid (Blk w3 B0 #[.string S, .slice a8 n c] 32) := KC2.out.below hb3
  have h30 : Hid (B0 < w3.heap.size) := KC3.out.lt
  have xc := KC3.out.cell 1
  simp only [List.getElem?_toArray, List.getElem?_cons_succ, List.getElem?_cons_zero] at xc
  have HBB : Hid (∀ X, Below w3.heap.size w3 X → Below B0 W X ∧ Blk X B0 #[.string S, .slice a8 n c] 32 ∧ Sa B X (.slice a8 n c) ags ∧ Ss X (.slice aP m cP) P ∧ Sb X (.slice a9 n9 c9) bls) := fun X hX => by
    have hb := HB3.out.trans (hX.mono (Nat.le_of_lt h30.out))
    exact ⟨hb, KC3.out.below hX, HA0.out.below (by rw [HB0.out]; exact hb), hss.below hX, HSB.out.below (by rw [HB0.out]; exact hb)⟩
  clear hown hb3 hss HB2 KC2 h20
  by_cases hnm : n = m
  rotate_left
  · have hnm' : ((n : Int) == (m : Int)) = false := by simpa using (by omega : ¬ (n : Int) = m)
    obtain rfl : 50 = r := by rw [HRV.out, show eqB ags P = false by unfold eqB; rw [decide_eq_false (by rw [HLEN.out, HM.out]; exact hnm)]; rfl]; rfl
    go_wp2
    go_ret
    exact ⟨rfl, by rw [HB0.out]; exact HB3.out⟩
  subst hnm
  go_wp2
  go_loopw [7] (fun i wr => ∃ k : Nat, k ≤ n ∧ i = .int .i64 (k : Int) ∧ Hid (∀ (j : Nat) g p, j < k → ags[j]? = some g → P[j]? = some p → shapedB g p = true) ∧ Hid (Below w3.heap.size w3 wr)) (fun i _ => n - (intOf i).toNat)
  case atStart => exact ⟨0, Nat.zero_le _, rfl, (fun j g p hj => by omega), Below.refl _ _⟩
  case round =>
    obtain ⟨k, hk, rfl, HSH, HBR⟩ := hrel
    obtain ⟨xbb, xkc, xsa, xss, xsb⟩ := HBB.out _ HBR.out
    have xc := xkc.cell 1
    simp only [List.getElem?_toArray, List.getElem?_cons_succ, List.getElem?_cons_zero] at xc
    by_cases hlt : k < n
    · have hlt' : (k : Int) < n := by omega
      have hwk : IntKind.i64.wrap ((k : Int) + 1) = (k : Int) + 1 := by rw [IntKind.wrap_i64]; omega
      obtain ⟨g, hg⟩ : ∃ g, ags[k]? = some g := ⟨_, List.getElem?_eq_getElem (by rw [HLEN.out]; exact hlt)⟩
      obtain ⟨p, hp⟩ : ∃ g, P[k]? = some g := ⟨_, List.getElem?_eq_getElem (by rw [HM.out]; exact hlt)⟩
      have HG := hid hg
      have HP := hid hp
      obtain ⟨x, hx6, hxt, hsh⟩ := part_shape (HSIX.out p (List.mem_of_getElem? hp))
      obtain ⟨b, off, a1, c1, e, hbl, _, z0, z1⟩ := xsa.at hg
      subst e
      obtain ⟨bP, e, hbP, zp⟩ := xss.at hp
      subst e
      obtain ⟨q, hq⟩ : ∃ q, g.l.length = q := ⟨_, rfl⟩
      obtain ⟨ar, har⟩ : ∃ q, g.arr = q := ⟨_, rfl⟩
      have HGA := hid (show shapedB g p = if Lib.hasPrefix p [97] then ar else !ar && q == 1 by unfold shapedB; rw [hq, har])
      rw [hq] at z1; rw [har] at z0
      clear hq har hg hp xsa xss xsb
      have hcs : ∃ c : UInt8, (∃ h' : 0 < (bs p).size, (bs p)[0] = c) ∧ ((Lib.hasPrefix p [97] = true ∧ c = 97) ∨ (Lib.hasPrefix p [97] = false ∧ ((c.toNat : Int) == 97) = false)) := by
        rcases hsh with ⟨e, h1, h2⟩ | ⟨e, h1⟩
        · exact ⟨x, bs_get p 0 x (by rw [e]; rfl), .inr ⟨h1, by
            rw [beq_eq_false_iff_ne] at h2 ⊢
            intro h3
            exact h2 (UInt8.toNat_inj.1 (by have : x.toNat = 97 := by omega
                                            rw [this]; rfl))⟩⟩
        · exact ⟨97, bs_get p 0 97 (by rw [e]; rfl), .inl ⟨h1, rfl⟩⟩
      obtain ⟨c1b, hch, hcc⟩ := hcs
      rw [show (⟨p.toArray⟩ : ByteArray) = bs p from rfl] at zp
      obtain ⟨SP, hSP⟩ : ∃ S, bs p = S := ⟨_, rfl⟩
      rw [hSP] at zp hch
      obtain ⟨hch0, hch1⟩ := hch
      clear hSP hsh hx6 hxt
      go_upto_region 11 with (fail)
      have KN : Blk (wr.alloc (Obj.cells #[.bool ar, .slice a1 q c1] 54)) wr.heap.size #[.bool ar, .slice a1 q c1] 54 := Blk.new wr _ _
      have hBX : Below w3.heap.size w3 (wr.alloc (Obj.cells #[.bool ar, .slice a1 q c1] 54)) := HBR.out.alloc HBR.out.size _
      have yc := ((Below.refl wr.heap.size wr).alloc (Nat.le_refl _) (Obj.cells #[.bool ar, .slice a1 q c1] 54)).cell (p := ⟨bP, k, none⟩) hbP
      obtain ⟨X, hX⟩ : ∃ X, wr.alloc (Obj.cells #[.bool ar, .slice a1 q c1] 54) = X := ⟨_, rfl⟩
      obtain ⟨b9, hb9⟩ : ∃ X, wr.heap.size = X := ⟨_, rfl⟩
      rw [hX] at KN hBX yc ⊢
      rw [hb9] at KN ⊢
      have zp := yc.trans zp
      have xk0 := KN.cell 0
      have xk1 := KN.cell 1
      simp only [List.getElem?_toArray, List.getElem?_cons_succ, List.getElem?_cons_zero] at xk0 xk1
      have HBX := hid hBX
      clear hX hb9 KN hBX yc xbb xkc xc z0 z1 hbl hbP
      rcases hcc with ⟨h1, rfl⟩ | ⟨h1, h2⟩
      · have HPF := hid h1
        cases ar with
        | true =>
          go_wp2
          go_quiet (fail)
          go_wp2
          go_roundw
          case rel => exact ⟨k + 1, by omega, by go_num, (fun j g' p' hj h1 h2 => by
            rcases Nat.lt_succ_iff_lt_or_eq.1 hj with q1 | q1
            · exact HSH.out j g' p' q1 h1 h2
            · subst q1; rw [HG.out] at h1; injection h1 with h1; rw [HP.out] at h2; injection h2 with h2; rw [← h1, ← h2, HGA.out]; simp [HPF.out]), below_drewN HBX.out _⟩
          case measure => simp [intOf]; omega
        | false =>
          obtain rfl : 50 = r := by rw [HRV.out, eqB_no HG.out HP.out (by rw [HGA.out]; simp [HPF.out])]; rfl
          go_wp2
          go_quiet (fail)
          go_wp2
          go_ret
          exact ⟨rfl, by rw [HB0.out]; exact (HBB.out _ (below_drewN HBX.out _)).1⟩
      · have HPF := hid h1
        cases ar with
        | true =>
          obtain rfl : 50 = r := by rw [HRV.out, eqB_no HG.out HP.out (by rw [HGA.out]; simp [HPF.out])]; rfl
          go_wp2
          go_quiet (fail)
          go_wp2
          go_ret
          exact ⟨rfl, by rw [HB0.out]; exact (HBB.out _ (below_drewN HBX.out _)).1⟩
        | false =>
          by_cases hq1 : q = 1
          · subst hq1
            go_wp2
            go_quiet (fail)
            go_wp2
            go_roundw
            case rel => exact ⟨k + 1, by omega, by go_num, (fun j g' p' hj h1 h2 => by
              rcases Nat.lt_succ_iff_lt_or_eq.1 hj with q1 | q1
              · exact HSH.out j g' p' q1 h1 h2
              · subst q1; rw [HG.out] at h1; injection h1 with h1; rw [HP.out] at h2; injection h2 with h2; rw [← h1, ← h2, HGA.out]; simp [HPF.out]), below_drewN HBX.out _⟩
            case measure => simp [intOf]; omega
          · have hq1' : ((q : Int) == 1) = false := by simpa using (by omega : ¬ (q : Int) = 1)
            obtain rfl : 50 = r := by rw [HRV.out, eqB_no HG.out HP.out (by rw [HGA.out]; simp [HPF.out, hq1])]; rfl
            go_wp2
            go_quiet (fail)
            go_wp2
            go_ret
            exact ⟨rfl, by rw [HB0.out]; exact (HBB.out _ (below_drewN HBX.out _)).1⟩
    · have hlt' : ¬ (k : Int) < n := by omega
      obtain rfl : n = k := by omega
      have HEQ : Hid (eqB ags P = true) := eqB_yes (by rw [HLEN.out, HM.out]) (fun j g p hj => HSH.out j g p (by rw [← HM.out]; exact hj))
      clear HSH xsa xss xsb xkc xbb
      obtain ⟨w4, hw4⟩ : ∃ x, x = wr := ⟨_, rfl⟩
      subst hw4
      go_wp2
      go_loopw [9] (fun i wr => ∃ k : Nat, k ≤ n ∧ i = .int .i64 (k : Int) ∧ Hid (∀ (j : Nat) g, j < k → ags[j]? = some g → g.l.length ≤ 1000) ∧ Hid (w4 = wr)) (fun i _ => n - (intOf i).toNat)
      case atStart => exact ⟨0, Nat.zero_le _, rfl, (fun j g hj => by omega), rfl⟩
      case round =>
        obtain ⟨k, hk, rfl, HSH, HW⟩ := hrel
        obtain rfl := HW.out
        by_cases hlt : k < n
        · have hlt' : (k : Int) < n := by omega
          have hwk : IntKind.i64.wrap ((k : Int) + 1) = (k : Int) + 1 := by rw [IntKind.wrap_i64]; omega
          obtain ⟨g, hg⟩ : ∃ g, ags[k]? = some g := ⟨_, List.getElem?_eq_getElem (by rw [HLEN.out]; exact hlt)⟩
          have HG := hid hg
          obtain ⟨b, off, a1, c1, e, hbl, _, z0, z1⟩ := (HBB.out _ HBR.out).2.2.1.at hg
          subst e
          obtain ⟨q, hq⟩ : ∃ q, g.l.length = q := ⟨_, rfl⟩
          rw [hq] at z1
          have HQ := hid hq
          clear hq hg z0
          by_cases hq9 : 1000 < q
          · have hq9' : (1000 : Int) < q := by omega
            obtain rfl : 3 = r := by rw [HRV.out, HEQ.out, show ags.any longB = true from List.any_eq_true.2 ⟨g, List.mem_of_getElem? HG.out, by unfold longB; rw [HQ.out]; exact decide_eq_true hq9⟩]; rfl
            go_wp2
            go_ret
            exact ⟨rfl, by rw [HB0.out]; exact (HBB.out _ HBR.out).1⟩
          · have hq9' : ¬ (1000 : Int) < q := by omega
            go_wp2
            go_roundw
            case rel => exact ⟨k + 1, by omega, by go_num, (fun j g' hj h1 => by
              rcases Nat.lt_succ_iff_lt_or_eq.1 hj with q1 | q1
              · exact HSH.out j g' q1 h1
              · subst q1; rw [HG.out] at h1; injection h1 with h1; rw [← h1, HQ.out]; omega), by first | trivial | rfl⟩
            case measure => simp [intOf]; omega
        · have hlt' : ¬ (k : Int) < n := by omega
          obtain rfl : n = k := by omega
          have HSM : Hid (∀ (j : Nat) g, ags[j]? = some g → g.l.length ≤ 1000) := fun j g hg => HSH.out j g (by rw [← HLEN.out]; exact (List.getElem?_eq_some_iff.1 hg).1) hg
          have HLO : Hid (ags.any longB = false) := List.any_eq_false.2 fun g hg => by
            obtain ⟨j, hj⟩ := List.mem_iff_getElem?.1 hg
            have := HSM.out j g hj
            unfold longB
            simpa using this
          clear HSH
          go_wp2
          go_loopw [10] (fun i wr => ∃ k : Nat, k ≤ n ∧ i = .int .i64 (k : Int) ∧ Hid (∀ (j : Nat) g t, j < k → ags[j]? = some g → t ∈ g.l → partTk bls P j t = true) ∧ Hid (Below w3.heap.size w3 wr)) (fun i _ => n - (intOf i).toNat)
          case atStart => exact ⟨0, Nat.zero_le _, rfl, (fun j g t hj => by omega), HBR.out⟩
          case round =>
            obtain ⟨k, hk, rfl, HTK, HBR5⟩ := hrel
            obtain ⟨xbb, xkc, xsa, xss, xsb⟩ := HBB.out _ HBR5.out
            have xc := xkc.cell 1
            have xn := xkc.cell 0
            simp only [List.getElem?_toArray, List.getElem?_cons_succ, List.getElem?_cons_zero] at xc xn
            by_cases hlt : k < n
            · have hlt' : (k : Int) < n := by omega
              have hwk : IntKind.i64.wrap ((k : Int) + 1) = (k : Int) + 1 := by rw [IntKind.wrap_i64]; omega
              obtain ⟨g, hg⟩ : ∃ g, ags[k]? = some g := ⟨_, List.getElem?_eq_getElem (by rw [HLEN.out]; exact hlt)⟩
              obtain ⟨p, hp⟩ : ∃ g, P[k]? = some g := ⟨_, List.getElem?_eq_getElem (by rw [HM.out]; exact hlt)⟩
              have HG := hid hg
              have HP := hid hp
              obtain ⟨x, hx6, hxt, hsh⟩ := part_shape (HSIX.out p (List.mem_of_getElem? hp))
              have HPT : Hid (∀ t, partTk bls P k t = takesP bls [x] t) := fun t => by unfold partTk; rw [hp]; show takesP bls (Lib.trimPrefix p [97]) t = _; rw [hxt]
              have HX6 := hid hx6
              obtain ⟨b, off, a1, c1, e, hbl, xst, z0, z1⟩ := xsa.at hg
              subst e
              obtain ⟨bP, e, hbP, zp⟩ := xss.at hp
              subst e
              obtain ⟨q, hq⟩ : ∃ q, g.l.length = q := ⟨_, rfl⟩
              obtain ⟨ar, har⟩ : ∃ q, g.arr = q := ⟨_, rfl⟩
              have HQ := hid hq
              have HQ9 := hid (HSM.out k g hg)
              rw [hq] at z1 xst HQ9; rw [har] at z0
              have hcs : ∃ (m : Nat), (bs p).size = m + 1 ∧ m ≤ 1 ∧ (∃ h' : m < (bs p).size, (bs p)[m] = x) := by
                rcases hsh with ⟨e, h1, h2⟩ | ⟨e, h1⟩
                · exact ⟨0, by rw [e]; rfl, by omega, bs_get p 0 x (by rw [e]; rfl)⟩
                · exact ⟨1, by rw [e]; rfl, by omega, bs_get p 1 x (by rw [e]; rfl)⟩
              obtain ⟨mp, hmp, hmp1, hch⟩ := hcs
              rw [show (⟨p.toArray⟩ : ByteArray) = bs p from rfl] at zp
              obtain ⟨SP, hSP⟩ : ∃ S, bs p = S := ⟨_, rfl⟩
              rw [hSP] at zp hch hmp
              obtain ⟨hch0, hch1⟩ := hch
              have hwm : IntKind.i64.wrap (mp : Int) = (mp : Int) := by rw [IntKind.wrap_i64]; omega
              have hmlt : (mp : Int) < (mp : Int) + 1 := by omega
              clear hSP hsh hx6 hxt hq har hg hp
              go_upto_region 22 with (fail)
              have KN : Blk (wr.alloc (Obj.cells #[.bool ar, .slice a1 q c1] 54)) wr.heap.size #[.bool ar, .slice a1 q c1] 54 := Blk.new wr _ _
              have hB9 := (Below.refl wr.heap.size wr).alloc (Nat.le_refl _) (Obj.cells #[.bool ar, .slice a1 q c1] 54)
              have hBX : Below w3.heap.size w3 (wr.alloc (Obj.cells #[.bool ar, .slice a1 q c1] 54)) := HBR5.out.alloc HBR5.out.size _
              have zp := (hB9.cell (p := ⟨bP, k, none⟩) hbP).trans zp
              have xst := xst.below hB9
              obtain ⟨X, hX⟩ : ∃ X, wr.alloc (Obj.cells #[.bool ar, .slice a1 q c1] 54) = X := ⟨_, rfl⟩
              obtain ⟨b9, hb9⟩ : ∃ X, wr.heap.size = X := ⟨_, rfl⟩
              have hbP' : bP < X.heap.size := by rw [← hX]; exact Nat.lt_of_lt_of_le hbP hB9.size
              rw [hX] at KN hBX zp xst ⊢
              rw [hb9] at KN ⊢
              have HBX := hid hBX
              have HKN := hid KN
              have HZP := hid zp
              have HXST := hid xst
              have HBP := hid hbP'
              clear hX hb9 KN hBX hB9 xbb xkc xc xn z0 z1 hbl hbP xst zp xsa xss xsb hbP'
              go_wp2
              go_loopw [12] (fun i wr => ∃ j : Nat, j ≤ q ∧ i = .int .i64 (j : Int) ∧ Hid (∀ (j' : Nat) t, j' < j → g.l[j']? = some t → partTk bls P k t = true) ∧ Hid (Below X.heap.size X wr)) (fun i _ => q - (intOf i).toNat)
              case atStart => exact ⟨0, Nat.zero_le _, rfl, (fun j g hj => by omega), Below.refl _ _⟩
              case round =>
                obtain ⟨j, hj, rfl, HTJ, HBR6⟩ := hrel
                have xk1 := (HKN.out.below HBR6.out).cell 1
                simp only [List.getElem?_toArray, List.getElem?_cons_succ, List.getElem?_cons_zero] at xk1
                by_cases hltj : j < q
                · have hltj' : (j : Int) < q := by omega
                  have hwj : IntKind.i64.wrap ((j : Int) + 1) = (j : Int) + 1 := by rw [IntKind.wrap_i64]; have := HQ9.out; omega
                  obtain ⟨t, ht⟩ : ∃ t, g.l[j]? = some t := ⟨_, List.getElem?_eq_getElem (by rw [HQ.out]; exact hltj)⟩
                  have HT := hid ht
                  obtain ⟨bt, ot, sa, sc, e, hbt, hsi, y0, y1, y2, y3⟩ := (HXST.out.below HBR6.out).at ht
                  subst e
                  obtain ⟨tv, htv⟩ : ∃ z, takesP bls [x] t = z := ⟨_, rfl⟩
                  have HTV := hid htv
                  obtain ⟨tn, htn⟩ : ∃ z, t.s.length = z := ⟨_, rfl⟩
                  have HTN := hid htn
                  have HSI := hid hsi
                  have zp := (HBR6.out.cell (p := ⟨bP, k, none⟩) HBP.out).trans HZP.out
                  have hbp6 : bP < wr.heap.size := Nat.lt_of_lt_of_le HBP.out HBR6.out.size
                  have hb96 : b9 < wr.heap.size := (HKN.out.below HBR6.out).lt
                  rw [htn] at y3
                  clear htn htv ht hsi
                  have HBW := hid (HBX.out.trans (HBR6.out.mono HBX.out.size))
                  have hB := Below.drew (Below.refl wr.heap.size wr)
                  have kT := rterm_any (HBB.out _ (Below.drew HBW.out)).2.2.2.2 HBN.out x HX6.out t sa sc (HSI.out.below hB)
                  rw [HTN.out, HTV.out] at kT
                  go_upto_region 25 with (fail)
                  refine wp_region_held_drew (S := (fun w' => Below wr.heap.size wr w')) (by kernel_rfl) (hB) (fun hHeld => ?_)
                  refine wpAnyH_take (i := 0) (oi := { dst := some 89, op := Go.Op.fieldAddr 54 (Go.Operand.tmp 11) 1, type := 0, pos := "ref.go:292", after := #[], guard := none }) (v := ?_) rfl (by kernel_rfl) (by kernel_rfl) (by kernel_rfl) (fun _ _ _ h => h) (Or.inl ⟨by rfl, ?_⟩) hHeld ?_
                  rotate_left
                  · intro w hSw; (try dsimp only at hSw); go_simp <;> with_reducible rfl
                  try simp only [Act.put, List.setIfInBounds_toArray, List.set_cons_zero, List.set_cons_succ]
                  refine wpAnyH_take (i := 1) (oi := { dst := some 90, op := Go.Op.load 52 (Go.Operand.tmp 89), type := 52, pos := "ref.go:292", after := #[{ on := 0, ground := Go.Ground.data }], guard := none }) (v := ?_) rfl (by kernel_rfl) (by kernel_rfl) (by kernel_rfl) (fun _ _ _ h => h) (Or.inl ⟨by rfl, ?_⟩) hHeld ?_
                  rotate_left
                  · intro w hSw; have xk1 := (hSw.cell (p := ⟨b9, 1, none⟩) hb96).trans xk1; clear hSw; go_simp <;> with_reducible rfl
                  try simp only [Act.put, List.setIfInBounds_toArray, List.set_cons_zero, List.set_cons_succ]
                  refine wpAnyH_take (i := 2) (oi := { dst := some 91, op := Go.Op.move (Go.Operand.tmp 12), type := 3, pos := "ref.go:292", after := #[], guard := none }) (v := ?_) rfl (by kernel_rfl) (by kernel_rfl) (by kernel_rfl) (fun _ _ _ h => h) (Or.inl ⟨by rfl, ?_⟩) hHeld ?_
                  rotate_left
                  · intro w hSw; (try dsimp only at hSw); go_simp <;> with_reducible rfl
                  try simp only [Act.put, List.setIfInBounds_toArray, List.set_cons_zero, List.set_cons_succ]
                  refine wpAnyH_take (i := 3) (oi := { dst := some 92, op := Go.Op.indexAddr 52 (Go.Operand.tmp 90) (Go.Operand.tmp 91), type := 0, pos := "ref.go:292", after := #[{ on := 1, ground := Go.Ground.data }, { on := 2, ground := Go.Ground.data }], guard := none }) (v := ?_) rfl (by kernel_rfl) (by kernel_rfl) (by kernel_rfl) (fun _ _ _ h => h) (Or.inl ⟨by rfl, ?_⟩) hHeld ?_
                  rotate_left
                  · intro w hSw; (try dsimp only at hSw); go_simp <;> with_reducible rfl
                  try simp only [Act.put, List.setIfInBounds_toArray, List.set_cons_zero, List.set_cons_succ]
                  refine wpAnyH_take (i := 4) (oi := { dst := some 93, op := Go.Op.load 46 (Go.Operand.tmp 92), type := 46, pos := "ref.go:292", after := #[{ on := 3, ground := Go.Ground.data }], guard := none }) (v := ?_) rfl (by kernel_rfl) (by kernel_rfl) (by kernel_rfl) (fun _ _ _ h => h) (Or.inl ⟨by rfl, ?_⟩) hHeld ?_
                  rotate_left
                  · intro w hSw; have y0 := (hSw.cell (p := ⟨bt, ot + j * 4, none⟩) hbt).trans y0; have y1 := (hSw.cell (p := ⟨bt, ot + j * 4 + 1, none⟩) hbt).trans y1; have y2 := (hSw.cell (p := ⟨bt, ot + j * 4 + 2, none⟩) hbt).trans y2; have y3 := (hSw.cell (p := ⟨bt, ot + j * 4 + 3, none⟩) hbt).trans y3; clear hSw; go_simp <;> with_reducible rfl
                  try simp only [Act.put, List.setIfInBounds_toArray, List.set_cons_zero, List.set_cons_succ]
                  refine wpAnyH_take (i := 5) (oi := { dst := some 94, op := Go.Op.move (Go.Operand.tmp 6), type := 22, pos := "ref.go:292", after := #[], guard := none }) (v := ?_) rfl (by kernel_rfl) (by kernel_rfl) (by kernel_rfl) (fun _ _ _ h => h) (Or.inl ⟨by rfl, ?_⟩) hHeld ?_
                  rotate_left
                  · intro w hSw; (try dsimp only at hSw); go_simp <;> with_reducible rfl
                  try simp only [Act.put, List.setIfInBounds_toArray, List.set_cons_zero, List.set_cons_succ]
                  refine wpAnyH_take (i := 6) (oi := { dst := some 95, op := Go.Op.move (Go.Operand.tmp 10), type := 3, pos := "ref.go:292", after := #[], guard := none }) (v := ?_) rfl (by kernel_rfl) (by kernel_rfl) (by kernel_rfl) (fun _ _ _ h => h) (Or.inl ⟨by rfl, ?_⟩) hHeld ?_
                  rotate_left
                  · intro w hSw; (try dsimp only at hSw); go_simp <;> with_reducible rfl
                  try simp only [Act.put, List.setIfInBounds_toArray, List.set_cons_zero, List.set_cons_succ]
                  refine wpAnyH_take (i := 7) (oi := { dst := some 96, op := Go.Op.indexAddr 22 (Go.Operand.tmp 94) (Go.Operand.tmp 95), type := 0, pos := "ref.go:292", after := #[{ on := 5, ground := Go.Ground.data }, { on := 6, ground := Go.Ground.data }], guard := none }) (v := ?_) rfl (by kernel_rfl) (by kernel_rfl) (by kernel_rfl) (fun _ _ _ h => h) (Or.inl ⟨by rfl, ?_⟩) hHeld ?_
                  rotate_left
                  · intro w hSw; (try dsimp only at hSw); go_simp <;> with_reducible rfl
                  try simp only [Act.put, List.setIfInBounds_toArray, List.set_cons_zero, List.set_cons_succ]
                  refine wpAnyH_take (i := 8) (oi := { dst := some 97, op := Go.Op.load 9 (Go.Operand.tmp 96), type := 9, pos := "ref.go:292", after := #[{ on := 7, ground := Go.Ground.data }], guard := none }) (v := ?_) rfl (by kernel_rfl) (by kernel_rfl) (by kernel_rfl) (fun _ _ _ h => h) (Or.inl ⟨by rfl, ?_⟩) hHeld ?_
                  rotate_left
                  · intro w hSw; have zp := (hSw.cell (p := ⟨bP, k, none⟩) hbp6).trans zp; clear hSw; go_simp <;> with_reducible rfl
                  try simp only [Act.put, List.setIfInBounds_toArray, List.set_cons_zero, List.set_cons_succ]
                  refine wpAnyH_take (i := 9) (oi := { dst := some 98, op := Go.Op.move (Go.Operand.tmp 6), type := 22, pos := "ref.go:292", after := #[], guard := none }) (v := ?_) rfl (by kernel_rfl) (by kernel_rfl) (by kernel_rfl) (fun _ _ _ h => h) (Or.inl ⟨by rfl, ?_⟩) hHeld ?_
                  rotate_left
                  · intro w hSw; (try dsimp only at hSw); go_simp <;> with_reducible rfl
                  try simp only [Act.put, List.setIfInBounds_toArray, List.set_cons_zero, List.set_cons_succ]
                  refine wpAnyH_take (i := 10) (oi := { dst := some 99, op := Go.Op.move (Go.Operand.tmp 10), type := 3, pos := "ref.go:292", after := #[], guard := none }) (v := ?_) rfl (by kernel_rfl) (by kernel_rfl) (by kernel_rfl) (fun _ _ _ h => h) (Or.inl ⟨by rfl, ?_⟩) hHeld ?_
                  rotate_left
                  · intro w hSw; (try dsimp only at hSw); go_simp <;> with_reducible rfl
                  try simp only [Act.put, List.setIfInBounds_toArray, List.set_cons_zero, List.set_cons_succ]
                  refine wpAnyH_take (i := 11) (oi := { dst := some 100, op := Go.Op.indexAddr 22 (Go.Operand.tmp 98) (Go.Operand.tmp 99), type := 0, pos := "ref.go:292", after := #[{ on := 9, ground := Go.Ground.data }, { on := 10, ground := Go.Ground.data }], guard := none }) (v := ?_) rfl (by kernel_rfl) (by kernel_rfl) (by kernel_rfl) (fun _ _ _ h => h) (Or.inl ⟨by rfl, ?_⟩) hHeld ?_
                  rotate_left
                  · intro w hSw; (try dsimp only at hSw); go_simp <;> with_reducible rfl
                  try simp only [Act.put, List.setIfInBounds_toArray, List.set_cons_zero, List.set_cons_succ]
                  refine wpAnyH_take (i := 12) (oi := { dst := some 101, op := Go.Op.load 9 (Go.Operand.tmp 100), type := 9, pos := "ref.go:292", after := #[{ on := 11, ground := Go.Ground.data }], guard := none }) (v := ?_) rfl (by kernel_rfl) (by kernel_rfl) (by kernel_rfl) (fun _ _ _ h => h) (Or.inl ⟨by rfl, ?_⟩) hHeld ?_
                  rotate_left
                  · intro w hSw; have zp := (hSw.cell (p := ⟨bP, k, none⟩) hbp6).trans zp; clear hSw; go_simp <;> with_reducible rfl
                  try simp only [Act.put, List.setIfInBounds_toArray, List.set_cons_zero, List.set_cons_succ]
                  refine wpAnyH_take (i := 13) (oi := { dst := some 102, op := Go.Op.call { callee := Go.Callee.builtin Go.Builtin.len, args := #[Go.Operand.tmp 101], argTypes := #[9] }, type := 3, pos := "ref.go:292", after := #[{ on := 12, ground := Go.Ground.data }], guard := none }) (v := ?_) rfl (by kernel_rfl) (by kernel_rfl) (by kernel_rfl) (fun _ _ _ h => h) (Or.inl ⟨by rfl, ?_⟩) hHeld ?_
                  rotate_left
                  · intro w hSw; (try dsimp only at hSw); go_simp <;> with_reducible rfl
                  try simp only [Act.put, List.setIfInBounds_toArray, List.set_cons_zero, List.set_cons_succ]
                  refine wpAnyH_take (i := 14) (oi := { dst := some 103, op := Go.Op.binOp Go.BinOp.sub 3 (Go.Operand.tmp 102) (Go.Operand.const (Go.Value.int Go.IntKind.i64 1)) 3, type := 3, pos := "ref.go:292", after := #[{ on := 13, ground := Go.Ground.data }], guard := none }) (v := ?_) rfl (by kernel_rfl) (by kernel_rfl) (by kernel_rfl) (fun _ _ _ h => h) (Or.inl ⟨by rfl, ?_⟩) hHeld ?_
                  rotate_left
                  · intro w hSw; (try dsimp only at hSw); go_simp <;> with_reducible rfl
                  try simp only [Act.put, List.setIfInBounds_toArray, List.set_cons_zero, List.set_cons_succ]
                  refine wpAnyH_take (i := 15) (oi := { dst := some 104, op := Go.Op.index 9 (Go.Operand.tmp 97) (Go.Operand.tmp 103), type := 5, pos := "ref.go:292", after := #[{ on := 8, ground := Go.Ground.data }, { on := 14, ground := Go.Ground.data }], guard := none }) (v := ?_) rfl (by kernel_rfl) (by kernel_rfl) (by kernel_rfl) (fun _ _ _ h => h) (Or.inl ⟨by rfl, ?_⟩) hHeld ?_
                  rotate_left
                  · intro w hSw; (try dsimp only at hSw); go_simp <;> with_reducible rfl
                  try simp only [Act.put, List.setIfInBounds_toArray, List.set_cons_zero, List.set_cons_succ]
                  refine wpAnyH_take (i := 16) (oi := { dst := some 105, op := Go.Op.move (Go.Operand.tmp 1), type := 33, pos := "ref.go:292", after := #[], guard := none }) (v := ?_) rfl (by kernel_rfl) (by kernel_rfl) (by kernel_rfl) (fun _ _ _ h => h) (Or.inl ⟨by rfl, ?_⟩) hHeld ?_
                  rotate_left
                  · intro w hSw; (try dsimp only at hSw); go_simp <;> with_reducible rfl
                  try simp only [Act.put, List.setIfInBounds_toArray, List.set_cons_zero, List.set_cons_succ]
                  refine wpAnyH_ready (rs := [17]) (by kernel_rfl) (by simp) ?_
                  refine AllReadyH.cons rfl (fun K hK => ?_) AllReadyH.nil
                  go_simp
                  refine kT.mono ?_
                  clear kT
                  rintro e wz ⟨rfl, hbz⟩
                  have hBz := hB.trans (hbz.mono hB.size)
                  clear hbz
                  refine hK.out _ _ (hBz) (fun hHeld2 => ?_)
                  clear hK K hHeld
                  have hHeld := hHeld2
                  clear hHeld2
                  try simp only [Act.put, List.setIfInBounds_toArray, List.set_cons_zero, List.set_cons_succ]
                  refine wpAnyH_take (i := 18) (oi := { dst := some 107, op := Go.Op.unOp Go.UnOp.not 4 (Go.Operand.tmp 106), type := 4, pos := "ref.go:292", after := #[{ on := 17, ground := Go.Ground.data }], guard := none }) (v := ?_) rfl (by kernel_rfl) (by kernel_rfl) (by kernel_rfl) (fun _ _ _ h => h) (Or.inl ⟨by rfl, ?_⟩) hHeld ?_
                  rotate_left
                  · intro w hSw; (try dsimp only at hSw); go_simp <;> with_reducible rfl
                  try simp only [Act.put, List.setIfInBounds_toArray, List.set_cons_zero, List.set_cons_succ]
                  refine wpAnyH_done (by kernel_rfl) ?_ _
                  have HBZ := hid (HBW.out.trans (hBz.mono HBW.out.size))
                  have HBZ6 := hid (HBR6.out.trans (hBz.mono HBR6.out.size))
                  clear hBz hB
                  cases tv with
                  | true =>
                    go_wp2
                    go_roundw
                    case rel => exact ⟨j + 1, by omega, by go_num, (fun j' t' hj' h1 => by
                      rcases Nat.lt_succ_iff_lt_or_eq.1 hj' with q1 | q1
                      · exact HTJ.out j' t' q1 h1
                      · subst q1; rw [HT.out] at h1; injection h1 with h1; rw [← h1, HPT.out]; exact HTV.out), HBZ6.out⟩
                    case measure => simp [intOf]; omega
                  | false =>
                    obtain rfl : 50 = r := by rw [HRV.out, HEQ.out, HLO.out, tkL_no HG.out (List.mem_of_getElem? HT.out) (by rw [HPT.out]; exact HTV.out) ags.length (by rw [HLEN.out]; omega)]; rfl
                    go_wp2
                    go_ret
                    exact ⟨rfl, by rw [HB0.out]; exact (HBB.out _ HBZ.out).1⟩
                · have hltj' : ¬ (j : Int) < q := by omega
                  obtain rfl : j = q := by omega
                  go_wp2
                  go_roundw
                  case rel => exact ⟨k + 1, by omega, by go_num, (fun j' g' t' hj' h1 h2 => by
                    rcases Nat.lt_succ_iff_lt_or_eq.1 hj' with q1 | q1
                    · exact HTK.out j' g' t' q1 h1 h2
                    · subst q1; rw [HG.out] at h1; injection h1 with h1; subst h1
                      obtain ⟨i, hi⟩ := List.mem_iff_getElem?.1 h2
                      exact HTJ.out i t' (by rw [← HQ.out]; exact (List.getElem?_eq_some_iff.1 hi).1) hi), HBX.out.trans (HBR6.out.mono HBX.out.size)⟩
                  case measure => simp [intOf]; omega
            · have hlt' : ¬ (k : Int) < n := by omega
              obtain rfl : n = k := by omega
              have k9 := HK54.out (fun g hg => by obtain ⟨j, hj⟩ := List.mem_iff_getElem?.1 hg; exact HSM.out j g hj) HEQ.out wr xsa
              obtain ⟨f, hf⟩ : ∃ f, fitsB nm ags = f := ⟨_, rfl⟩
              have HRR : Hid (r = rightV true false true f) := by rw [Hid, HRV.out, HEQ.out, HLO.out, hf, tkL_yes ags.length (fun j g t hj => HTK.out j g t (by rw [← HLEN.out]; exact hj))]
              rw [hf] at k9
              have h5b : Hid (B0 < wr.heap.size) := xkc.lt
              have HBB5 := hid xbb
              clear HTK xsa xss xsb xkc xbb hf
              go_wp2_with fail
              refine k9.mono ?_
              clear k9
              rintro e w9 ⟨rfl, hb9⟩
              have HB9 := hid (HBB5.out.trans (hb9.mono (Nat.le_of_lt h5b.out)))
              clear hb9
              cases f with
              | true =>
                obtain rfl : 0 = r := by rw [HRR.out]; rfl
                go_wp2
                go_ret
                exact ⟨rfl, by rw [HB0.out]; exact HB9.out⟩
              | false =>
                obtain rfl : 50 = r := by rw [HRR.out]; rfl
                go_wp2
                go_ret
                exact ⟨rfl, by rw [HB0.out]; exact HB9.out⟩
end Go.Proofs.YtpgecdhieakilaaGreatDoor
