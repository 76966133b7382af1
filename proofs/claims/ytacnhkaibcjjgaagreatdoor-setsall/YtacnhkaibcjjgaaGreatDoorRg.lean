/-
  What is proved here: what the reference's number reads of any text.
-/
import Derived.Test.YtacnhkaibcjjgaaGreatDoorRd
import Derived.Test.YtacnhkaibcjjgaaGreatDoorSo
import Derived.Shelf.Strconv.Itoa4
import Derived.Laws.Concat
import Derived.Laws.Strings
namespace Go.Proofs.YtacnhkaibcjjgaaGreatDoor
open Go.RowKit Go.Shelf
set_option linter.unusedVariables false
set_option linter.unusedSimpArgs false
theorem numV_lt (l : List UInt8) (acc : Nat) (h : ∀ b ∈ l, Dig b) : numV l acc < (acc + 1) * 10 ^ l.length := by
  induction l generalizing acc with
  | nil => simp [numV]
  | cons b r ih =>
    have hb := h b (by simp)
    unfold Dig at hb
    have := ih (acc * 10 + (b.toNat - 48)) (fun c hc => h c (by simp [hc]))
    simp only [numV, List.length_cons]
    refine Nat.lt_of_lt_of_le this ?_
    rw [Nat.pow_succ, Nat.mul_comm (10 ^ r.length) 10, ← Nat.mul_assoc]
    exact Nat.mul_le_mul_right _ (by omega)
theorem dec_len7 (u : Nat) (h : u ≤ 1000000) : (Lib.decDigits u).length ≤ 7 := by
  rw [Lib.decDigits_length]
  apply Classical.byContradiction
  intro hn
  have key : ∀ k u, u < 10 ^ (k + 1) → Lib.nDigits u ≤ k + 1 := by
    intro k
    induction k with
    | zero => intro u hu; rw [Lib.nDigits_small (by simpa using hu)]; omega
    | succ k ih =>
      intro u hu
      by_cases h10 : u < 10
      · rw [Lib.nDigits_small h10]; omega
      · rw [Lib.nDigits_big h10]
        have := ih (u / 10) (by rw [Nat.pow_succ] at hu; omega)
        omega
  exact hn (key 6 u (by omega))
theorem str_get (s : ByteArray) (i : Nat) (c : UInt8) (h : s.data.toList[i]? = some c) : ∃ h' : i < s.size, s[i] = c := by
  have hlt : i < s.size := by
    have := (List.getElem?_eq_some_iff.1 h).1
    simpa using this
  refine ⟨hlt, ?_⟩
  have e : s.data[i]'(by simpa using hlt) = c := by have := (List.getElem?_eq_some_iff.1 h).2; simpa using this
  exact e
theorem take_dig (ds : List UInt8) (k : Nat) (h : ∀ j, j < k → ∃ c, ds[j]? = some c ∧ Dig c) : ∀ c ∈ ds.take k, Dig c := by
  intro c hc
  obtain ⟨j, hj, rfl⟩ := List.getElem_of_mem hc
  have hj' : j < k := by rw [List.length_take] at hj; omega
  obtain ⟨c, h1, h2⟩ := h j hj'
  have : (ds.take k)[j]? = some c := by rw [List.getElem?_take, if_pos hj', h1]
  rw [List.getElem?_eq_getElem hj] at this
  rw [Option.some.inj this]; exact h2
theorem numV_small (ds : List UInt8) (k : Nat) (hk : k ≤ 9) (h : ∀ j, j < k → ∃ c, ds[j]? = some c ∧ Dig c) : numV (ds.take k) 0 < 1000000000 := by
  refine Nat.lt_of_lt_of_le (numV_lt _ 0 (take_dig ds k h)) ?_
  have : (ds.take k).length ≤ 9 := by rw [List.length_take]; omega
  have h2 : (10 : Nat) ^ (ds.take k).length ≤ 10 ^ 9 := Nat.pow_le_pow_right (by omega) this
  have h3 : (10 : Nat) ^ 9 = 1000000000 := by decide
  omega
theorem numV_next (ds : List UInt8) (k : Nat) (c : UInt8) (h : ds[k]? = some c) : numV (ds.take (k + 1)) 0 = numV (ds.take k) 0 * 10 + (c.toNat - 48) := by
  rw [List.take_add_one, h, numV_app]
  rfl
/-- What the reference's number answers of a text: of a number that is written just that. -/
def NumN (b : List UInt8) (e : Ending) : Prop := ∃ v ok, e = .returned (.tuple #[.int .i64 v, .bool ok]) ∧ ∀ x, -1000000 ≤ x → x ≤ 1000000 → b = Lib.itoa x → v = x ∧ ok = true
/-- The digits of a text: those behind a sign. -/
def DigsOf (b ds : List UInt8) (minus : Bool) : Prop := ∀ x, -1000000 ≤ x → x ≤ 1000000 → b = Lib.itoa x → ds = Lib.decDigits x.natAbs ∧ x = if minus then -(x.natAbs : Int) else (x.natAbs : Int)
theorem digs_minus (ds : List UInt8) : DigsOf (45 :: ds) ds true := by
  intro x h0 h1 hb
  unfold Lib.itoa at hb
  by_cases hx : x < 0
  · rw [if_pos hx] at hb
    injection hb with _ hb
    exact ⟨hb, by simp; omega⟩
  · rw [if_neg hx] at hb
    have := dec_digit x.toNat 45 (by rw [← hb]; simp)
    exact absurd this (by decide)
theorem digs_plain {b : List UInt8} (h : b.head? ≠ some 45) : DigsOf b b false := by
  intro x h0 h1 hb
  unfold Lib.itoa at hb
  by_cases hx : x < 0
  · rw [if_pos hx] at hb
    rw [hb] at h
    simp at h
  · rw [if_neg hx] at hb
    have : x.natAbs = x.toNat := by omega
    rw [this]
    exact ⟨hb, by simp; omega⟩
theorem NumN.no {b ds : List UInt8} {m : Bool} (hd : DigsOf b ds m) (h : 9 < ds.length ∨ ∃ c ∈ ds, ¬ Dig c) : NumN b (.returned (.tuple #[.int .i64 0, .bool false])) := by
  refine ⟨0, false, rfl, fun x h0 h1 hb => ?_⟩
  obtain ⟨e, _⟩ := hd x h0 h1 hb
  have h7 := dec_len7 x.natAbs (by omega)
  rcases h with h | ⟨c, hc, hn⟩
  · rw [e] at h; omega
  · rw [e] at hc; exact absurd (dec_digit _ c hc) hn
theorem NumN.yes {b ds : List UInt8} {m : Bool} (hd : DigsOf b ds m) {v : Int} {ok : Bool} (hv : v = if m then -(numV ds 0 : Int) else (numV ds 0 : Int)) (hok : ok = decide (0 < ds.length)) : NumN b (.returned (.tuple #[.int .i64 v, .bool ok])) := by
  refine ⟨v, ok, rfl, fun x h0 h1 hb => ?_⟩
  obtain ⟨e, e2⟩ := hd x h0 h1 hb
  rw [e, numV_dec] at hv
  refine ⟨by rw [hv]; exact e2.symm, ?_⟩
  rw [hok, e, decide_eq_true_iff, Lib.decDigits_length]
  exact Lib.nDigits_pos _

set_option maxRecDepth 100000 in
set_option maxHeartbeats 4000000 in
theorem number_any (s : ByteArray) (hs : s.size ≤ 65536) (W : World) :
    Calls Tryz.prog 69 #[.string s] W fun e w' => NumN s.data.toList e ∧ w' = W := by
  have hsz : s.data.toList.length = s.size := by simp
  obtain ⟨n, hn⟩ : ∃ n, s.size = n := ⟨_, rfl⟩
  have HN : Hid (s.size = n) := hn
  rw [hn] at hsz hs
  by_cases h45 : s.data.toList.head? = some 45
  · obtain ⟨ds, hb⟩ : ∃ ds, s.data.toList = 45 :: ds := by
      cases hb : s.data.toList with
      | nil => rw [hb] at h45; simp at h45
      | cons c r => rw [hb] at h45; simp at h45; subst h45; exact ⟨r, rfl⟩
    obtain ⟨hx00, hx01⟩ := str_get s 0 45 (by rw [hb]; rfl)
    obtain ⟨q, hq⟩ : ∃ q, s.extract 1 s.size = q := ⟨_, rfl⟩
    have hqd : q.data.toList = ds := by
      rw [← hq, Lib.extract_data]
      have : s.data.toList.drop 1 = ds := by rw [hb]; rfl
      rw [← this]
      simp
      apply List.take_of_length_le
      simp
    have hsl : ∀ X, (Instr.slice 9 (.string s) (some (.int .i64 1)) none none).run Tryz.prog X = .ok (.string q) X := fun X => by
      rw [run_slice_string_from_if X 9 s .i64 1 Tryz.underlying9, if_pos ⟨by omega, by rw [hn]; omega⟩]
      rw [← hq]; rfl
    have hm : ds.length = q.size := by rw [← hqd]; simp
    obtain ⟨m, hm'⟩ : ∃ m, q.size = m := ⟨_, rfl⟩
    have HQ : Hid (q.size = m) := hm'
    rw [hm'] at hm
    have HM : Hid (ds.length = m) := hm
    have hat := fun (i : Nat) (c : UInt8) (h : ds[i]? = some c) => str_get q i c (by rw [hqd]; exact h)
    have hmn : m ≤ 65536 := by rw [hb] at hsz; simp at hsz; omega
    have hn0 : (0 : Int) < (n : Int) := by rw [hb] at hsz; simp at hsz; omega
    rw [hb]
    have HDG : Hid (DigsOf (45 :: ds) ds true) := digs_minus ds
    clear hb hq hqd hm h45 hsz
    go_enter Tryz.func69, Tryz.ntmps69
    go_wp2
    go_loopw [5, 6] (fun nn i wr => ∃ k : Nat, k ≤ m ∧ i = .int .i64 k ∧ nn = .int .i64 (numV (ds.take k) 0 : Nat) ∧ Hid (∀ j, j < k → ∃ c, ds[j]? = some c ∧ Dig c) ∧ (k = 0 ∨ m ≤ 9) ∧ wr = W) (fun _ i _ => m - (intOf i).toNat)
    case atStart => exact ⟨0, Nat.zero_le _, rfl, by simp [numV], fun j hj => absurd hj (by omega), .inl rfl, rfl⟩
    case round =>
      obtain ⟨k, hk, rfl, rfl, HD, hk9, rfl⟩ := hrel
      have h9 := numV_small ds k (by omega) HD.out
      obtain ⟨v, hv⟩ : ∃ v, numV (ds.take k) 0 = v := ⟨_, rfl⟩
      rw [hv] at h9 ⊢
      have HV : Hid (numV (ds.take k) 0 = v) := hv
      clear hv
      by_cases hlt : k < m
      · have hlt' : (k : Int) < (m : Int) := by omega
        obtain ⟨c, hc⟩ : ∃ c, ds[k]? = some c := ⟨_, List.getElem?_eq_getElem (by rw [HM.out]; exact hlt)⟩
        obtain ⟨hx0, hx⟩ := hat k c hc
        have HC : Hid (ds[k]? = some c) := hc
        have hc2 : c.toNat < 256 := c.toNat_lt
        have hmem : c ∈ ds := List.mem_of_getElem? hc
        have HMEM : Hid (c ∈ ds) := hmem
        clear hc hmem
        by_cases hlo : 48 ≤ c.toNat
        · have hlo' : ¬ (c.toNat : Int) < 48 := by omega
          by_cases hhi : c.toNat ≤ 57
          · have hhi' : ¬ 57 < (c.toNat : Int) := by omega
            by_cases hm9 : m ≤ 9
            · have hm9' : ¬ 9 < (m : Int) := by omega
              have HX : Hid (numV (ds.take (k + 1)) 0 = v * 10 + (c.toNat - 48)) := by unfold Hid; rw [numV_next ds k c HC.out, HV.out]
              go_wp2
              go_roundw
              case rel =>
                refine ⟨k + 1, by omega, by go_num, ?_, ?_, .inr hm9, by first | rfl | trivial⟩
                · rw [HX.out]; congr 1; omega
                · intro j hj
                  by_cases hjk : j < k
                  · exact HD.out j hjk
                  · obtain rfl : j = k := by omega
                    exact ⟨c, HC.out, hlo, hhi⟩
              case measure => simp [intOf]; omega
            · have hm9' : 9 < (m : Int) := by omega
              have HF : Hid (9 < ds.length) := by unfold Hid; rw [HM.out]; omega
              go_wp2
              go_ret2
              exact ⟨NumN.no HDG.out (.inl HF.out), rfl⟩
          · have hhi' : 57 < (c.toNat : Int) := by omega
            have HF : Hid (¬ Dig c) := fun h => by unfold Dig at h; omega
            go_wp2
            go_ret2
            exact ⟨NumN.no HDG.out (.inr ⟨c, HMEM.out, HF.out⟩), rfl⟩
        · have hlo' : (c.toNat : Int) < 48 := by omega
          have HF : Hid (¬ Dig c) := fun h => by unfold Dig at h; omega
          go_wp2
          go_ret2
          exact ⟨NumN.no HDG.out (.inr ⟨c, HMEM.out, HF.out⟩), rfl⟩
      · have hlt' : ¬ (k : Int) < (m : Int) := by omega
        obtain rfl : k = m := by omega
        have HT : Hid (numV ds 0 = v) := by
          have := HV.out
          rwa [← HM.out, List.take_length] at this
        have HOK : Hid (decide (0 < ds.length) = decide (0 < k)) := by unfold Hid; rw [HM.out]
        go_wp2
        go_ret2
        exact ⟨NumN.yes HDG.out (by rw [HT.out]; simp) (by first | (rw [HOK.out]; done) | (rw [HOK.out]; simp; done) | (rw [HOK.out]; simp; omega)), rfl⟩
  · have HDG : Hid (DigsOf s.data.toList s.data.toList false) := digs_plain h45
    have hat := fun (i : Nat) (c : UInt8) (h : s.data.toList[i]? = some c) => str_get s i c h
    obtain ⟨ds, hds⟩ : ∃ ds, s.data.toList = ds := ⟨_, rfl⟩
    rw [hds] at HDG hat h45 hsz ⊢
    obtain ⟨m, hm⟩ : ∃ m, n = m := ⟨_, rfl⟩
    subst hm
    have HM : Hid (ds.length = n) := hsz
    by_cases hn0 : 0 < n
    · have hn0' : (0 : Int) < (n : Int) := by omega
      obtain ⟨c0, hc0⟩ : ∃ c, ds[0]? = some c := ⟨_, List.getElem?_eq_getElem (by rw [HM.out]; exact hn0)⟩
      obtain ⟨hx00, hx01⟩ := hat 0 c0 hc0
      have hne : ¬ c0.toNat = 45 := fun h => h45 (by rw [List.head?_eq_getElem?, hc0]; exact congrArg some (UInt8.toNat_inj.1 h))
      have hne' : ¬ (c0.toNat : Int) = 45 := by omega
      have hne2 : ((c0.toNat : Int) == 45) = false := by simp; omega
      clear hc0 hne hds h45 hsz
      go_enter Tryz.func69, Tryz.ntmps69
      go_wp2
      go_loopw [5, 6] (fun nn i wr => ∃ k : Nat, k ≤ n ∧ i = .int .i64 k ∧ nn = .int .i64 (numV (ds.take k) 0 : Nat) ∧ Hid (∀ j, j < k → ∃ c, ds[j]? = some c ∧ Dig c) ∧ (k = 0 ∨ n ≤ 9) ∧ wr = W) (fun _ i _ => n - (intOf i).toNat)
      case atStart => exact ⟨0, Nat.zero_le _, rfl, by simp [numV], fun j hj => absurd hj (by omega), .inl rfl, rfl⟩
      case round =>
        obtain ⟨k, hk, rfl, rfl, HD, hk9, rfl⟩ := hrel
        have h9 := numV_small ds k (by omega) HD.out
        obtain ⟨v, hv⟩ : ∃ v, numV (ds.take k) 0 = v := ⟨_, rfl⟩
        rw [hv] at h9 ⊢
        have HV : Hid (numV (ds.take k) 0 = v) := hv
        clear hv
        by_cases hlt : k < n
        · have hlt' : (k : Int) < (n : Int) := by omega
          obtain ⟨c, hc⟩ : ∃ c, ds[k]? = some c := ⟨_, List.getElem?_eq_getElem (by rw [HM.out]; exact hlt)⟩
          obtain ⟨hx0, hx⟩ := hat k c hc
          have HC : Hid (ds[k]? = some c) := hc
          have hc2 : c.toNat < 256 := c.toNat_lt
          have hmem : c ∈ ds := List.mem_of_getElem? hc
          have HMEM : Hid (c ∈ ds) := hmem
          clear hc hmem
          by_cases hlo : 48 ≤ c.toNat
          · have hlo' : ¬ (c.toNat : Int) < 48 := by omega
            by_cases hhi : c.toNat ≤ 57
            · have hhi' : ¬ 57 < (c.toNat : Int) := by omega
              by_cases hm9 : n ≤ 9
              · have hm9' : ¬ 9 < (n : Int) := by omega
                have HX : Hid (numV (ds.take (k + 1)) 0 = v * 10 + (c.toNat - 48)) := by unfold Hid; rw [numV_next ds k c HC.out, HV.out]
                go_wp2
                go_roundw
                case rel =>
                  refine ⟨k + 1, by omega, by go_num, ?_, ?_, .inr hm9, by first | rfl | trivial⟩
                  · rw [HX.out]; congr 1; omega
                  · intro j hj
                    by_cases hjk : j < k
                    · exact HD.out j hjk
                    · obtain rfl : j = k := by omega
                      exact ⟨c, HC.out, hlo, hhi⟩
                case measure => simp [intOf]; omega
              · have hm9' : 9 < (n : Int) := by omega
                have HF : Hid (9 < ds.length) := by unfold Hid; rw [HM.out]; omega
                go_wp2
                go_ret2
                exact ⟨NumN.no HDG.out (.inl HF.out), rfl⟩
            · have hhi' : 57 < (c.toNat : Int) := by omega
              have HF : Hid (¬ Dig c) := fun h => by unfold Dig at h; omega
              go_wp2
              go_ret2
              exact ⟨NumN.no HDG.out (.inr ⟨c, HMEM.out, HF.out⟩), rfl⟩
          · have hlo' : (c.toNat : Int) < 48 := by omega
            have HF : Hid (¬ Dig c) := fun h => by unfold Dig at h; omega
            go_wp2
            go_ret2
            exact ⟨NumN.no HDG.out (.inr ⟨c, HMEM.out, HF.out⟩), rfl⟩
        · have hlt' : ¬ (k : Int) < (n : Int) := by omega
          obtain rfl : k = n := by omega
          have HT : Hid (numV ds 0 = v) := by
            have := HV.out
            rwa [← HM.out, List.take_length] at this
          have HOK : Hid (decide (0 < ds.length) = decide (0 < k)) := by unfold Hid; rw [HM.out]
          go_wp2
          go_ret2
          exact ⟨NumN.yes HDG.out (by rw [HT.out]; simp) (by first | (rw [HOK.out]; done) | (rw [HOK.out]; simp; done) | (rw [HOK.out]; simp; omega)), rfl⟩
    · obtain rfl : n = 0 := by omega
      have hn0' : ¬ (0 : Int) < ((0 : Nat) : Int) := by omega
      clear hds h45 hsz hat
      have HF : Hid (ds = []) := List.eq_nil_of_length_eq_zero HM.out
      go_enter Tryz.func69, Tryz.ntmps69
      go_wp2
      go_loopw [5, 6] (fun nn i wr => i = .int .i64 0 ∧ nn = .int .i64 0 ∧ wr = W) (fun _ i _ => 0)
      case atStart => exact ⟨rfl, rfl, rfl⟩
      case round =>
        obtain ⟨rfl, rfl, rfl⟩ := hrel
        go_wp2
        go_ret2
        exact ⟨NumN.yes HDG.out (by rw [HF.out]; rfl) (by rw [HF.out]; rfl), rfl⟩
end Go.Proofs.YtacnhkaibcjjgaaGreatDoor
