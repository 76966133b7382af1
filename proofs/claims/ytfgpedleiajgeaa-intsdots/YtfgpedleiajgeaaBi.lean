/-
  What is proved here: plain facts under the reference's Times: what one step of multiplying digit by digit does to the number (no program); and a whole row of numbers in one block.
-/
import Derived.Test.YtfgpedleiajgeaaBh
import Derived.Laws.OwnMore
namespace Go.Proofs.Ytfgpedleiajgeaa
open Go.RowKit

/-- Block G is just the numbers os. -/
def Arr (W : World) (G : Nat) (os : List Int) : Prop := W.heap[G]? = some (.cells (os.map (Value.int .i64)).toArray 2 (0, 0))
theorem Arr.lt {W : World} {G : Nat} {os : List Int} (h : Arr W G os) : G < W.heap.size := (Array.getElem?_eq_some_iff.1 h).1
theorem Arr.cell {W : World} {G : Nat} {os : List Int} (h : Arr W G os) {j : Nat} (hj : j < os.length) : W.cell? ⟨G, j, none⟩ = some (.int .i64 (os[j]?.getD 0)) := by
  simp [World.cell?, show W.heap[G]? = _ from h, hj]
theorem Arr.frozen {W : World} {G : Nat} {os : List Int} (h : Arr W G os) (j : Nat) : W.frozen? ⟨G, j, none⟩ = false := by
  simp [World.frozen?, show W.heap[G]? = _ from h]
theorem Arr.set {W : World} {G : Nat} {os : List Int} (h : Arr W G os) (j : Nat) (d : Int) : Arr (W.setCell ⟨G, j, none⟩ (.int .i64 d)) G (os.set j d) := by
  unfold Arr at *; simp [World.setCell, Array.getElem?_modify, h]
theorem Arr.drawn {W : World} {G : Nat} {os : List Int} (h : Arr W G os) (n : Nat) : Arr (W.drewN n) G os := h
theorem Two.drawn {W : World} {B : Nat} {t : TypeId} {u v : Value} (h : Two W B t u v) (n : Nat) : Two (W.drewN n) B t u v := h
theorem Arr.row {W : World} {G : Nat} {os : List Int} (h : Arr W G os) (hl : os.length ≤ 1000000) : Row W 0 (.slice (some ⟨G, 0, none⟩) os.length os.length) os := by
  refine ⟨by simp, .inr ⟨G, os.length, _, rfl, Nat.zero_le _, h, Nat.le_refl _, by unfold maxLen; omega, by simp, by simp [List.take_of_length_le]⟩⟩

theorem dval_set (os : List Int) (j : Nat) (d : Int) (hj : j < os.length) : dval (os.set j d) = dval os + (d - os[j]?.getD 0) * rp j := by
  induction os generalizing j with
  | nil => simp at hj
  | cons o os ih =>
    cases j with
    | zero => simp [dval, rp_zero]; omega
    | succ j =>
      rw [List.set_cons_succ, dval, dval, ih j (by simpa using hj), List.getElem?_cons_succ, rp_succ, Int.mul_add]
      have : 1073741824 * ((d - os[j]?.getD 0) * rp j) = (d - os[j]?.getD 0) * (1073741824 * rp j) := by
        rw [← Int.mul_assoc, Int.mul_comm 1073741824 (d - _), Int.mul_assoc]
      omega
theorem digs_set {os : List Int} (h : Digs os) (j : Nat) {d : Int} (h0 : 0 ≤ d) (h1 : d < 1073741824) : Digs (os.set j d) := by
  intro x hx
  rcases List.mem_or_eq_of_mem_set hx with hx | rfl
  · exact h x hx
  · exact ⟨h0, h1⟩
theorem getD_set (os : List Int) (j : Nat) (d : Int) (i : Nat) (hne : i ≠ j) : (os.set j d)[i]?.getD 0 = os[i]?.getD 0 := by
  rw [List.getElem?_set_ne (by omega)]

/-- Before the digit number i of the first number: the product of those before. -/
def OutInv (da db : List Int) (n i : Nat) (os : List Int) : Prop :=
  os.length = n ∧ Digs os ∧ dval os = dval (da.take i) * dval db ∧ ∀ j, i + db.length ≤ j → os[j]?.getD 0 = 0
/-- Within: k digits of the second number are done, c is carried. -/
def InInv (da db : List Int) (n i k : Nat) (c : Int) (os : List Int) : Prop :=
  os.length = n ∧ 0 ≤ c ∧ c < 1073741824 ∧ Digs os ∧ dval os + c * rp (i + k) = dval (da.take i) * dval db + da[i]?.getD 0 * dval (db.take k) * rp i ∧
  ((k ≤ db.length ∧ ∀ j, i + db.length ≤ j → os[j]?.getD 0 = 0) ∨ (k = db.length + 1 ∧ c = 0 ∧ ∀ j, i + db.length + 1 ≤ j → os[j]?.getD 0 = 0))
theorem in_start {da db os : List Int} {n i : Nat} (h : OutInv da db n i os) : InInv da db n i 0 0 os := by
  obtain ⟨h1, h2, h3, h4⟩ := h
  exact ⟨h1, by omega, by omega, h2, by rw [h3]; simp [dval], .inl ⟨Nat.zero_le _, h4⟩⟩
theorem in_step {da db os : List Int} {n i k : Nat} {c N : Int} (hn : da.length + db.length + 1 = n) (hi : i < da.length) (ha : Digs da) (hb : Digs db) (h : InInv da db n i k c os)
    (hc : k < db.length ∨ 0 < c) (hN : N = os[i + k]?.getD 0 + c + da[i]?.getD 0 * db[k]?.getD 0) :
    0 ≤ N ∧ InInv da db n i (k + 1) (N / 1073741824) (os.set (i + k) (N % 1073741824)) := by
  obtain ⟨h1, h2, h3, h4, h5, h6⟩ := h
  have hx := digs_at ha i; have hy := digs_at hb k; have hz := digs_at h4 (i + k)
  have hP0 : 0 ≤ da[i]?.getD 0 * db[k]?.getD 0 := Int.mul_nonneg hx.1 hy.1
  have hP1 : da[i]?.getD 0 * db[k]?.getD 0 ≤ 1073741823 * 1073741823 := Int.mul_le_mul (by omega) (by omega) hy.1 (by omega)
  have hkl : k ≤ db.length := by rcases h6 with h | h <;> omega
  have hN0 : 0 ≤ N := by omega
  refine ⟨hN0, by simp [h1], by omega, by omega, digs_set h4 _ (by omega) (by omega), ?_, ?_⟩
  · rw [dval_set os (i + k) _ (by omega), dval_take_succ, show i + (k + 1) = i + k + 1 from rfl, rp_succ]
    have e1 : (N % 1073741824 - os[i + k]?.getD 0) * rp (i + k) + N / 1073741824 * (1073741824 * rp (i + k)) = (c + da[i]?.getD 0 * db[k]?.getD 0) * rp (i + k) := by
      rw [← Int.mul_assoc, ← Int.add_mul]
      congr 1; omega
    have e2 : da[i]?.getD 0 * (dval (db.take k) + rp k * db[k]?.getD 0) * rp i = da[i]?.getD 0 * dval (db.take k) * rp i + da[i]?.getD 0 * db[k]?.getD 0 * rp (i + k) := by
      rw [Int.mul_add, Int.add_mul, rp_add, Int.mul_comm (rp k) (db[k]?.getD 0), ← Int.mul_assoc (da[i]?.getD 0) (db[k]?.getD 0) (rp k), Int.mul_assoc _ (rp k) (rp i), Int.mul_comm (rp k) (rp i)]
    rw [e2, ← Int.add_assoc, ← h5, Int.add_mul] at *
    omega
  · rcases h6 with ⟨h6, h7⟩ | ⟨h6, h7, h8⟩
    · by_cases hk : k + 1 ≤ db.length
      · exact .inl ⟨hk, fun j hj => by rw [getD_set _ _ _ _ (by omega)]; exact h7 j hj⟩
      · have hk' : k = db.length := by omega
        have hz0 := h7 (i + k) (by omega)
        have hy0 := getD_none (ds := db) (k := k) (by omega)
        rw [hy0, Int.mul_zero] at hN
        exact .inr ⟨by omega, by omega, fun j hj => by rw [getD_set _ _ _ _ (by omega)]; exact h7 j (by omega)⟩
    · omega
theorem in_done {da db os : List Int} {n i k : Nat} {c : Int} (h : InInv da db n i k c os) (hk : ¬ k < db.length) (hc : ¬ 0 < c) : OutInv da db n (i + 1) os := by
  obtain ⟨h1, h2, h3, h4, h5, h6⟩ := h
  have hc0 : c = 0 := by omega
  rw [hc0, Int.zero_mul, dval_take_all (ds := db) (by omega)] at h5
  refine ⟨h1, h4, ?_, fun j hj => ?_⟩
  · rw [dval_take_succ, Int.add_mul]
    have : da[i]?.getD 0 * dval db * rp i = rp i * da[i]?.getD 0 * dval db := by rw [Int.mul_comm, ← Int.mul_assoc]
    omega
  · rcases h6 with ⟨_, h7⟩ | ⟨_, _, h8⟩
    · exact h7 j (by omega)
    · exact h8 j (by omega)
theorem dval_replicate (n : Nat) : dval (List.replicate n 0) = 0 := by
  induction n with
  | zero => rfl
  | succ n ih => rw [List.replicate_succ, dval, ih]; rfl
theorem out_start (da db : List Int) (n : Nat) : OutInv da db n 0 (List.replicate n 0) := by
  refine ⟨by simp, fun d hd => by simp [List.mem_replicate] at hd; omega, by rw [dval_replicate]; simp [dval], fun j _ => ?_⟩
  by_cases h : j < n
  · simp [h]
  · rw [List.getElem?_eq_none (by simp; omega)]; rfl
theorem arr_made (W : World) (G n : Nat) (h : W.heap[G]? = some (.cells (madeCells #[Value.int .i64 0] n) 2 (0, 0))) : Arr W G (List.replicate n 0) := by
  unfold Arr
  rw [h]
  have e : (madeCells #[Value.int .i64 0] n).toList = (List.replicate n (0 : Int)).map (Value.int .i64) := by
    rw [toList_madeCells_one]; simp
  rw [← e]
end Go.Proofs.Ytfgpedleiajgeaa
