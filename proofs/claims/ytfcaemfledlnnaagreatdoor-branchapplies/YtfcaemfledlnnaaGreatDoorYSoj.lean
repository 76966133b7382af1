/-
  What is proved here: what sets.Text writes of any list.
  What is proved here: what sets.Parse reads of any text.
-/
import Derived.Test.YtfcaemfledlnnaaGreatDoorYSdj
import Derived.Test.YtfcaemfledlnnaaGreatDoorYTx
import Derived.Lib.AppendStr
import Derived.Lib.AppendIntMem
import Derived.Lib.SmallJoins
import Derived.Laws.IdiomStrings
namespace Go.Proofs.YtfcaemfledlnnaaGreatDoor.St
open Go.RowKit Go.Shelf
set_option linter.unusedVariables false
set_option linter.unusedSimpArgs false

/-- The library's powers of ten lie as its text lays them, and stay so while what lies below B stays. -/
abbrev Tens (B : Nat) (w : World) : Prop := Lib.TabBelow Tryz.prog B w "internal/strconv.uint64pow10" .u64 Lib.pow10Tab
theorem tens_here {W w1 : World} (hT : Tens W.heap.size W) (hb : Below W.heap.size W w1) : Tens w1.heap.size w1 := Lib.tabBelow_of_tabIs (hT.on hb).here
theorem Tryz.info5 : (Tryz.prog.info? 5).map (fun i => (i.zero, i.size, i.bytes)) = some (some (.int .u8 0), 1, 1) := by kernel_rfl
theorem own_one (w : World) (v : Value) (hv : v.oneCell' = true) : (w.alloc (.cells #[v] 5)).ownsRow w.heap.size 5 1 (.slice (some ⟨w.heap.size, 0, none⟩) 1 1) 1 [v] :=
  ⟨rfl, .inr ⟨w.heap.size, 1, #[v], rfl, Nat.le_refl _, World.alloc_heap_new w _, Nat.le_refl _, by unfold maxLen; omega, rfl, rfl⟩⟩
theorem cell_one_new (w : World) (v : Value) : ∀ j u, ([v] : List Value)[j]? = some u → (w.alloc (.cells #[v] 5)).cell? ((⟨w.heap.size, 0, none⟩ : Addr).add j) = some u := by
  intro j u hj
  rw [Addr.add_lit]
  have hnw := World.alloc_heap_new w (Obj.cells #[v] 5)
  have : j = 0 := by have := (List.getElem?_eq_some_iff.1 hj).1; simp at this; exact this
  subst this
  simp at hj; subst hj
  simp only [World.cell?, hnw]; rfl

theorem known_at (s : Value) (l : List Int) (W X : World) (h : Si W s l) (hX : Below W.heap.size W X) :
    Calls Tryz.prog 106 #[s] X fun e w' => ∃ a n c, e = .returned (.slice a n c) ∧ Hid (Si W (.slice a n c) (tkS l)) ∧ Hid (n = (tkS l).length) ∧ Below X.heap.size X w' := by
  by_cases hR : IsSet l
  · have h2 := h
    obtain ⟨a, cap, rfl, _⟩ := h2
    exact (known_yes _ l X (h.below hX) hR).mono fun e w' ⟨he, n, hw⟩ => ⟨a, _, cap, he, by rw [tkS_yes hR]; exact h, by rw [tkS_yes hR]; exact rfl, by rw [hw]; exact below_drewN (Below.refl _ _) _⟩
  · exact (known_no _ l X (h.below hX) hR).mono fun e w' ⟨he, n, hw⟩ => ⟨none, 0, 0, he, by rw [tkS_no hR]; exact Si.nil _, by rw [tkS_no hR]; exact rfl, by rw [hw]; exact below_drewN (Below.refl _ _) _⟩

end Go.Proofs.YtfcaemfledlnnaaGreatDoor.St


namespace Go.Proofs.YtfcaemfledlnnaaGreatDoor.St
open Go.RowKit Go.Shelf
set_option linter.unusedVariables false
set_option linter.unusedSimpArgs false

/-- The library's variable for the longest text that is searched holds some number. -/
def MaxL (W : World) : Prop := 3 < W.heap.size ∧ ∃ m, W.cell? ⟨3, 0, none⟩ = some (.int .i64 m)
theorem MaxL.below {B : Nat} {W W' : World} (h : MaxL W) (hb : Below B W W') (hB : 3 < B) : MaxL W' := by
  obtain ⟨h1, m, hm⟩ := h
  exact ⟨Nat.lt_of_lt_of_le h1 hb.size, m, (hb.cell (p := ⟨3, 0, none⟩) hB).trans hm⟩
/-- The library's two error variables hold some error, or none. -/
def ErrV (W : World) : Prop := 1 < W.heap.size ∧ (∃ ev, W.cell? ⟨0, 0, none⟩ = some ev ∧ (ev = .nilIface ∨ ∃ te pe, ev = .iface te pe)) ∧ ∃ ev, W.cell? ⟨1, 0, none⟩ = some ev ∧ (ev = .nilIface ∨ ∃ te pe, ev = .iface te pe)
theorem ErrV.below {B : Nat} {W W' : World} (h : ErrV W) (hb : Below B W W') (hB : 1 < B) : ErrV W' := by
  obtain ⟨h1, ⟨e2, h2, h3⟩, e4, h4, h5⟩ := h
  exact ⟨Nat.lt_of_lt_of_le h1 hb.size, ⟨e2, (hb.cell (p := ⟨0, 0, none⟩) (by show 0 < B; omega)).trans h2, h3⟩, e4, (hb.cell (p := ⟨1, 0, none⟩) hB).trans h4, h5⟩
/-- What strconv.ParseInt answers. -/
def PintE (l : List UInt8) (x : Ending) : Prop := (∃ v, prn l = some v ∧ x = .returned (.tuple #[.int .i64 v, .nilIface])) ∨ (prn l = none ∧ ∃ v t p, x = .returned (.tuple #[.int .i64 v, .iface t p]))
/-- What Parse answers: the document's words. -/
def ParsE (b : List UInt8) (x : Ending) (B : Nat) (w' : World) : Prop :=
  (65536 < b.length ∧ x = .returned (.tuple #[.slice none 0 0, .int .i64 3])) ∨
  (b.length ≤ 65536 ∧ b = [123, 125] ∧ x = .returned (.tuple #[.slice none 0 0, .int .i64 0])) ∨
  (b.length ≤ 65536 ∧ b ≠ [123, 125] ∧ ((∃ l v, IsSet l ∧ 0 < l.length ∧ stx l = b ∧ x = .returned (.tuple #[v, .int .i64 0]) ∧ w'.ownsRow B 2 1 v l.length (intv l)) ∨ ((∀ l, IsSet l → 0 < l.length → stx l ≠ b) ∧ x = .returned (.tuple #[.slice none 0 0, .int .i64 20]))))

theorem parts_of {ps : List (List UInt8)} {b : List UInt8} (hps : ps = Lib.split (Lib.trimS b [123, 125]) [44]) {L : List Int} (hL : IsSet L) (h0 : 0 < L.length) (hb : stx L = b) : ps = sparts L := by
  rw [hps, ← hb, trim_stx L h0, split_stx L h0]
theorem parts_pr {ps : List (List UInt8)} {b : List UInt8} (hps : ps = Lib.split (Lib.trimS b [123, 125]) [44]) {L : List Int} (hL : IsSet L) (h0 : 0 < L.length) (hb : stx L = b) (k : Nat) (hk : k < ps.length) : prn ps[k] = L[k]? ∧ k < L.length := by
  have e := parts_of hps hL h0 hb
  subst e
  exact ⟨prn_parts L hL k hk, by simpa [sparts] using hk⟩
theorem parts_all {ps : List (List UInt8)} {b : List UInt8} (hps : ps = Lib.split (Lib.trimS b [123, 125]) [44]) {L l : List Int} (hL : IsSet L) (h0 : 0 < L.length) (hb : stx L = b) (hlen : l.length = ps.length) (h : ∀ j (hj : j < ps.length), prn ps[j] = l[j]?) : l = L := by
  have e := parts_of hps hL h0 hb
  have hl : L.length = ps.length := by rw [e]; simp [sparts]
  refine List.ext_getElem? fun j => ?_
  by_cases hj : j < ps.length
  · rw [← h j hj, (parts_pr hps hL h0 hb j hj).1]
  · rw [List.getElem?_eq_none (by omega), List.getElem?_eq_none (by omega)]
theorem splitK_le (sep : List UInt8) : ∀ (k : Nat) (s p : List UInt8), p ∈ Lib.splitK sep 0 k s → p.length ≤ s.length
  | 0, s, p, h => by simp only [Lib.splitK, List.mem_singleton] at h; subst h; exact Nat.le_refl _
  | k + 1, s, p, h => by
    rw [Lib.splitK] at h
    split at h
    · simp only [List.mem_singleton] at h; subst h; exact Nat.le_refl _
    · rw [List.mem_cons] at h
      rcases h with rfl | h
      · rw [List.length_take]; omega
      · have := splitK_le sep k _ p h
        rw [List.length_drop] at this; omega
theorem trimS_le (s cs : List UInt8) : (Lib.trimS s cs).length ≤ s.length := by
  unfold Lib.trimS Lib.trimLeftS Lib.trimRightS
  refine Nat.le_trans (List.dropWhile_suffix _).length_le ?_
  rw [List.length_reverse]
  refine Nat.le_trans (List.dropWhile_suffix _).length_le ?_
  simp
theorem str_cells (w : World) (ps : List ByteArray) (k : Nat) (h : k < ps.length) : (w.alloc (.cells (ps.map Value.string).toArray 9)).cell? ⟨w.heap.size, k, none⟩ = some (.string ps[k]) := by
  have hnw := World.alloc_heap_new w (Obj.cells (ps.map Value.string).toArray 9)
  simp only [World.cell?, hnw]
  simp [h]
theorem beq_str (l : List UInt8) (s : ByteArray) (b : Bool) (h : decide (l = s.data.toList) = b) : (l == s.toList) = b := by
  rw [ByteArray.toList_eq, ← h]
  by_cases e : l = s.data.toList
  · rw [e]; simp
  · rw [decide_eq_false e]; simpa using e
theorem intv_snoc (l : List Int) (x : Int) : intv (l ++ [x]) = intv l ++ [.int .i64 x] := by simp [intv]
theorem cell_one_new2 (w : World) (v : Value) : ∀ j u, ([v] : List Value)[j]? = some u → (w.alloc (.cells #[v] 2)).cell? ((⟨w.heap.size, 0, none⟩ : Addr).add j) = some u := by
  intro j u hj
  rw [Addr.add_lit]
  have hnw := World.alloc_heap_new w (Obj.cells #[v] 2)
  have : j = 0 := by have := (List.getElem?_eq_some_iff.1 hj).1; simp at this; exact this
  subst this
  simp at hj; subst hj
  simp only [World.cell?, hnw]; rfl

end Go.Proofs.YtfcaemfledlnnaaGreatDoor.St

