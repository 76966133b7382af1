/-
  What is proved here: the mathematics of parts: of any domain and value.
-/
import Derived.Test.YthkliicmoandmaaGreatDoorCij
import Derived.Test.YthkliicmoandmaaGreatDoorBk
import Derived.OwnWalk
import Derived.Lib.AppendZerosOnto
import Derived.Lib.OwnBridge
import Derived.Test.YthkliicmoandmaaGreatDoorYTaj
import Derived.Test.YthkliicmoandmaaGreatDoorYCbj
import Derived.Test.YthkliicmoandmaaGreatDoorYNa
import Derived.Test.YthkliicmoandmaaGreatDoorYSgj
import Derived.Laws.ResultCell
namespace Go.Proofs.YthkliicmoandmaaGreatDoor
open Go.RowKit Go.Shelf
set_option linter.unusedVariables false
set_option linter.unusedSimpArgs false

theorem num_right {l : List Dm.Rg} {op n : Int} (hl : l.length < 4095) : Dm.Right (numR l op n) := by
  have ho := num_ord (l := l) (op := op) (n := n)
  have ht := (Dm.tk_right l).1
  obtain ⟨hto, hti⟩ := Dm.right_ord (Dm.tk_right l)
  have htl : (Dm.tk l).length ≤ l.length := by unfold Dm.tk; split <;> simp
  refine Dm.ord_right ho ?_ ?_
  · intro r hr
    have h1 := ho.1 r hr
    have m1 : r.1 ∈ Dm.vals (numR l op n) := (Dm.mem_vals' _ _).2 ⟨r, hr, Int.le_refl _, h1⟩
    have m2 : r.2 ∈ Dm.vals (numR l op n) := (Dm.mem_vals' _ _).2 ⟨r, hr, h1, Int.le_refl _⟩
    obtain ⟨s1, hs1, q1⟩ := (Dm.mem_vals' _ _).1 ((num_mem hl).1 m1).1
    obtain ⟨s2, hs2, q2⟩ := (Dm.mem_vals' _ _).1 ((num_mem hl).1 m2).1
    have b1 := hti s1 hs1
    have b2 := hti s2 hs2
    constructor <;> omega
  · have hc : ∀ a b, (Dm.cutL (Dm.tk l) a b).length ≤ 4096 := fun a b => Nat.le_trans (List.length_filterMap_le _ _) ht
    unfold numR
    split
    · exact hc _ _
    split
    · unfold Dm.woR; split <;> assumption
    split
    · exact hc _ _
    · exact hc _ _
theorem fit_other {op : Int} {s : Bool} : fitM (otM op) s = fitM op s := by
  by_cases hk : knB op = true
  · rcases knB_cases hk with rfl | rfl | rfl | rfl | rfl | rfl <;> cases s <;> decide
  · have h := knB_no (Bool.eq_false_iff.2 hk)
    have : otM op = op := by unfold otM; simp [h]
    rw [this]
theorem res_err {d : MD} {op n : Int} : (resM d (otM op) n).2 = (resM d op n).2 := by
  unfold resM
  rw [fit_other]
  split
  · rfl
  split
  · rfl
  split <;> split <;> (try split) <;> (try split) <;> rfl
theorem res_num {d : MD} {op n : Int} (hr : rightM d = true) (hf : fitM op d.set = true) (hs : d.set = false) : (resM d op n).1 = ⟨false, numR d.r op n, [], [], 0, 0⟩ := by
  have h4 : ¬ op = 4 := by intro h; subst h; rw [hs] at hf; simp [fitM] at hf
  have h5 : ¬ op = 5 := by intro h; subst h; rw [hs] at hf; simp [fitM] at hf
  unfold resM
  rw [if_neg (by simp [hr]), if_neg (by simp [hf]), if_neg h4, if_neg h5]
theorem sdM_of {s : St.SD} (h : s.rn = 0) : sdM (ofSD s) = s := by
  cases s
  simp only [sdM, ofSD, List.length_nil] at h ⊢
  simp [h]
theorem res_set {d : MD} {op n : Int} (hr : rightM d = true) (hf : fitM op d.set = true) (hs : d.set = true) : (op = 4 ∧ resM d op n = (ofSD (St.mustD (sdM d) n), 0) ∧ resM d (otM op) n = (ofSD (St.notD (sdM d) n), 0)) ∨ (op = 5 ∧ resM d op n = (ofSD (St.notD (sdM d) n), 0) ∧ resM d (otM op) n = (ofSD (St.mustD (sdM d) n), 0)) := by
  have h45 : op = 4 ∨ op = 5 := by
    rw [hs] at hf
    unfold fitM knB at hf
    simp at hf
    omega
  rcases h45 with rfl | rfl
  · refine .inl ⟨rfl, ?_, ?_⟩
    · unfold resM; rw [if_neg (by simp [hr]), if_neg (by simp [hf]), if_pos rfl]
    · unfold resM; rw [if_neg (by simp [hr]), fit_other, if_neg (by simp [hf]), if_neg (by decide), if_pos (by decide)]
  · refine .inr ⟨rfl, ?_, ?_⟩
    · unfold resM; rw [if_neg (by simp [hr]), if_neg (by simp [hf]), if_neg (by decide), if_pos rfl]
    · unfold resM; rw [if_neg (by simp [hr]), fit_other, if_neg (by simp [hf]), if_pos (by decide)]
end Go.Proofs.YthkliicmoandmaaGreatDoor
