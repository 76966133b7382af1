/-
  What is proved here: the runs of what is in both of two sets, and of what is in one alone; how the ones of a word are counted.
-/
import Derived.Test.YtgcgomofmicchaaDoorVf
import Derived.Test.YtgcgomofmicchaaDoorZb
namespace Go.Proofs.YtgcgomofmicchaaDoor
open Go.RowKit Go.Shelf
set_option linter.unusedVariables false

theorem of_bt (l : List Rg) (hR : Some' l) (v : Int) : bt (wordsR l) (v - lo l 0) = true ↔ v ∈ vals l := by
  rw [bt_wordsR l hR, show lo l 0 + (v - lo l 0) = v by omega]
theorem of_has (l : List Rg) (hR : Some' l) (v : Int) : hasB (lo l 0) (room l) (wordsR l) v = true ↔ v ∈ vals l := by
  rw [hasB_eq (cl_wordsR l hR), of_bt l hR]
theorem join_bt {op2 : Nat → Nat → Nat} {op : Bool → Bool → Bool} (hj : Joins op2 op) (hop : ∀ x, op false x = false) {f of oroom room : Int} {ws ows : List Nat} (hz : Sz f room ws) (hzo : Sz of oroom ows) (v : Int) :
    bt (joinW op2 f of ws ows) (v - f) = op (bt ws (v - f)) (bt ows (v - of)) := by
  by_cases h0 : v - f < 0
  · rw [bt_neg _ _ h0, bt_neg _ _ h0, hop]
  · obtain ⟨i, hi⟩ : ∃ i : Nat, v - f = (i : Int) := ⟨(v - f).toNat, by omega⟩
    rw [hi]
    show pb (joinW op2 f of ws ows) i = op (pb ws i) _
    by_cases hl : i < 64 * ws.length
    · rw [join_pb hj hz hzo i hl, show f + (i : Int) - of = v - of by omega]
    · rw [pb_out ws i hl, hop, pb_out _ i (by unfold joinW; rw [upd_length]; exact hl)]
theorem vals_sorted {l : List Rg} (h : Right l) : (vals l).Pairwise (· < ·) := by
  have := (vals_up l h l.length (Nat.le_refl _)).1
  rwa [List.take_length] at this
/-- A set whose values are those of right ranges has these ranges. -/
theorem runs_is {f room : Int} {ws : List Nat} (hz : Sz f room ws) (hc : Cl room ws) {P : List Rg} (hP : Right P) (h : ∀ v, bt ws (v - f) = true ↔ v ∈ vals P) : runs (bvs f room ws) = P := by
  have e : bvs f room ws = vals P := up_ext (bv_up _ _ _) (vals_sorted hP) (fun v => by rw [mem_bvs hz hc, hasB_eq hc, h])
  rw [e, runs_vals P hP]
theorem both_right {a b : List Rg} (ha : Right a) (hb : Right b) (hl : a.length + b.length ≤ 4096) : Right (pieces b a) :=
  ord_right (ord_pieces (right_ord hb).1 (right_ord ha).1) (inb_pieces (right_ord ha).2) (by have := both_len (right_ord hb).1 (right_ord ha).1; omega)
theorem less_right {a b : List Rg} (ha : Right a) (hb : Right b) (hl : a.length + b.length ≤ 4096) : Right (pieces (notL b) a) := by
  have hn := notF_facts b (-1000000) (right_ord hb).1 (right_ord hb).2 (fun r hr => ((right_ord hb).2 r hr).1)
  exact ord_right (ord_pieces hn.1 (right_ord ha).1) (inb_pieces (right_ord ha).2) (by have := less_len (right_ord ha).1 (right_ord ha).2 (right_ord hb).1 (right_ord hb).2; omega)
theorem runs_both {a b : List Rg} (ha : Some' a) (hb : Some' b) (hl : a.length + b.length ≤ 4096) (ra : room a ≤ 65536) (rb : room b ≤ 65536) :
    runs (bvs (lo a 0) (room a) (joinW (fun x y => x &&& y) (lo a 0) (lo b 0) (wordsR a) (wordsR b))) = pieces b a := by
  have za := sz_wordsR a ha ra; have zb := sz_wordsR b hb rb
  refine runs_is (join_sz joins_and za zb) (join_cl joins_and za zb (cl_wordsR a ha) (fun k _ => rfl)) (both_right ha.1 hb.1 hl) (fun v => ?_)
  rw [join_bt joins_and (fun _ => rfl) za zb, Bool.and_eq_true, of_bt a ha, of_bt b hb, mem_pieces]
  exact And.comm
theorem runs_less {a b : List Rg} (ha : Some' a) (hb : Some' b) (hl : a.length + b.length ≤ 4096) (ra : room a ≤ 65536) (rb : room b ≤ 65536) :
    runs (bvs (lo a 0) (room a) (joinW anot (lo a 0) (lo b 0) (wordsR a) (wordsR b))) = pieces (notL b) a := by
  have za := sz_wordsR a ha ra; have zb := sz_wordsR b hb rb
  have hn := notF_facts b (-1000000) (right_ord hb.1).1 (right_ord hb.1).2 (fun r hr => ((right_ord hb.1).2 r hr).1)
  refine runs_is (join_sz joins_anot za zb) (join_cl joins_anot za zb (cl_wordsR a ha) (fun k _ => rfl)) (less_right ha.1 hb.1 hl) (fun v => ?_)
  rw [join_bt joins_anot (fun _ => rfl) za zb, Bool.and_eq_true, of_bt a ha, mem_pieces, show notL b = notF (-1000000) b from rfl, hn.2.2]
  have hnb : ((!bt (wordsR b) (v - lo b 0)) = true) ↔ ¬ v ∈ vals b := by
    rw [← of_bt b hb]; simp
  rw [hnb]
  constructor
  · rintro ⟨h1, h2⟩
    have h3 := (right_ends a ha.1 ha.2)
    have h4 := h3.2.2.2 v h1
    exact ⟨⟨by omega, by omega, h2⟩, h1⟩
  · rintro ⟨⟨_, _, h2⟩, h1⟩; exact ⟨h1, h2⟩

theorem cnt_half (u : Nat) (hu : u < 18446744073709551616) : cnt 64 u = u % 2 + cnt 64 (u / 2) := by
  have h1 : cnt 64 u = u % 2 + cnt 63 (u / 2) := rfl
  have h2 : cnt 64 (u / 2) = cnt 63 (u / 2) + (if (u / 2).testBit 63 then 1 else 0) := cnt_top 63 (u / 2)
  have h3 : (u / 2).testBit 63 = false := Nat.testBit_lt_two_pow (by omega)
  rw [h1, h2, h3]; simp
theorem cnt_zero64 : cnt 64 0 = 0 := by decide
end Go.Proofs.YtgcgomofmicchaaDoor
