/-
  What is proved here: plain mathematics of a number at a place of a text, and what the reference's number reads there.
-/
import Derived.Test.YtopelhdepocoiaaDoorRows
import Derived.Test.YtopelhdepocoiaaDoorTm
import Derived.WalkKit
import Derived.OwnWalk
import Derived.Laws.Strings
namespace Go.Proofs.YtopelhdepocoiaaDoor
open Go.RowKit
set_option linter.unusedVariables false

/-- What a number at a place is: its sign, its digits (nine at most), where it ends. -/
def NumR (b : List UInt8) (a : Nat) (v : Int) (en : Nat) (ok : Bool) : Prop :=
  ∃ f k, (f = a ∧ b[a]? ≠ some 45 ∨ f = a + 1 ∧ b[a]? = some 45) ∧ k ≤ 9 ∧ f + k ≤ b.length ∧ en = f + k ∧ v = (if f = a then (numV ((b.drop f).take k) 0 : Int) else -(numV ((b.drop f).take k) 0 : Int)) ∧
    (∀ j, j < k → ∃ c, b[f + j]? = some c ∧ Dig c) ∧ (k = 9 ∨ ∀ c, b[f + k]? = some c → ¬ Dig c) ∧ ok = decide (0 < k)

theorem numV_lt (l : List UInt8) (acc : Nat) (h : ∀ b ∈ l, Dig b) : numV l acc < (acc + 1) * 10 ^ l.length := by
  induction l generalizing acc with
  | nil => simp [numV]
  | cons b r ih =>
    have hb := h b (by simp)
    unfold Dig at hb
    have := ih (acc * 10 + (b.toNat - 48)) (fun c hc => h c (by simp [hc]))
    simp only [numV, List.length_cons]
    refine Nat.lt_of_lt_of_le this ?_
    rw [Nat.pow_succ, Nat.mul_comm (10 ^ r.length) 10, ← Nat.mul_assoc]
    exact Nat.mul_le_mul_right _ (by omega)
theorem dec_len7 (u : Nat) (h : u ≤ 1000000) : (Lib.decDigits u).length ≤ 7 := by
  rw [Lib.decDigits_length]
  apply Classical.byContradiction
  intro hn
  have key : ∀ k u, u < 10 ^ (k + 1) → Lib.nDigits u ≤ k + 1 := by
    intro k
    induction k with
    | zero => intro u hu; rw [Lib.nDigits_small (by simpa using hu)]; omega
    | succ k ih =>
      intro u hu
      by_cases h10 : u < 10
      · rw [Lib.nDigits_small h10]; omega
      · rw [Lib.nDigits_big h10]
        have := ih (u / 10) (by rw [Nat.pow_succ] at hu; omega)
        omega
  exact hn (key 6 u (by omega))

/-- The digits behind a sign, or none. -/
theorem digs_at (b ds r : List UInt8) (f k : Nat) (hb : b.drop f = ds ++ r) (hl : ds.length ≤ 8) (hd : ∀ c ∈ ds, Dig c) (hr : ∀ c, r.head? = some c → ¬ Dig c) (hk : k ≤ 9)
    (h1 : ∀ j, j < k → ∃ c, b[f + j]? = some c ∧ Dig c) (h2 : k = 9 ∨ ∀ c, b[f + k]? = some c → ¬ Dig c) : k = ds.length := by
  have hg : ∀ j, b[f + j]? = (ds ++ r)[j]? := fun j => by rw [← hb, List.getElem?_drop]
  have hle : k ≤ ds.length := by
    apply Classical.byContradiction; intro hn
    obtain ⟨c, hc, hcd⟩ := h1 ds.length (by omega)
    rw [hg, List.getElem?_append_right (Nat.le_refl _), Nat.sub_self] at hc
    rw [← List.head?_eq_getElem?] at hc
    exact hr c hc hcd
  apply Classical.byContradiction; intro hn
  have hlt : k < ds.length := by omega
  rcases h2 with h2 | h2
  · omega
  · have e : b[f + k]? = some ds[k] := by rw [hg, List.getElem?_append_left hlt, List.getElem?_eq_getElem hlt]
    exact h2 _ e (hd _ (List.getElem_mem hlt))
/-- A number that stands at a place, with no digit behind it, is read as it is. -/
theorem num_at {b : List UInt8} {a : Nat} {v : Int} {en : Nat} {ok : Bool} (h : NumR b a v en ok) (x : Int) (r : List UInt8) (h0 : -1000000 ≤ x) (h1 : x ≤ 1000000) (hb : b.drop a = Lib.itoa x ++ r) (hr : ∀ c, r.head? = some c → ¬ Dig c) :
    v = x ∧ en = a + (Lib.itoa x).length ∧ ok = true := by
  obtain ⟨f, k, hf, hk, hfk, hen, hv, hd, hstop, hok⟩ := h
  have hg : ∀ j, b[a + j]? = (Lib.itoa x ++ r)[j]? := fun j => by rw [← hb, List.getElem?_drop]
  have hg0 := hg 0
  rw [Nat.add_zero] at hg0
  by_cases hx : x < 0
  · have hi : Lib.itoa x = 45 :: Lib.decDigits x.natAbs := by unfold Lib.itoa; rw [if_pos hx]
    rw [hi] at hb hg0
    have h45 : b[a]? = some 45 := by rw [hg0]; rfl
    have hfa : f = a + 1 := by
      rcases hf with ⟨_, h⟩ | ⟨h, _⟩
      · exact absurd h45 h
      · exact h
    subst hfa
    have hb' : b.drop (a + 1) = Lib.decDigits x.natAbs ++ r := by rw [← List.drop_drop, hb]; rfl
    have hl7 := dec_len7 x.natAbs (by omega)
    have hkk := digs_at b _ r (a + 1) k hb' (by omega) (dec_digit _) hr hk hd hstop
    rw [if_neg (by omega), hb', hkk, List.take_left, numV_dec] at hv
    refine ⟨by omega, by rw [hen, hi, List.length_cons]; omega, ?_⟩
    rw [hok, decide_eq_true_iff, hkk, Lib.decDigits_length]
    exact Lib.nDigits_pos _
  · have hi : Lib.itoa x = Lib.decDigits x.toNat := by unfold Lib.itoa; rw [if_neg hx]
    rw [hi] at hb hg0
    have hl7 := dec_len7 x.toNat (by omega)
    have hpos : 0 < (Lib.decDigits x.toNat).length := by rw [Lib.decDigits_length]; exact Lib.nDigits_pos _
    have h45 : b[a]? ≠ some 45 := by
      rw [hg0, List.getElem?_append_left hpos, List.getElem?_eq_getElem hpos]
      intro e
      have := dec_digit x.toNat _ (List.getElem_mem hpos)
      rw [Option.some.inj e] at this
      exact absurd this (by decide)
    have hfa : f = a := by
      rcases hf with ⟨h, _⟩ | ⟨_, h⟩
      · exact h
      · exact absurd h h45
    subst hfa
    have hkk := digs_at b _ r f k hb (by omega) (dec_digit _) hr hk hd hstop
    rw [if_pos rfl, hb, hkk, List.take_left, numV_dec] at hv
    refine ⟨by omega, by rw [hen, hi]; omega, ?_⟩
    rw [hok, decide_eq_true_iff, hkk]
    exact hpos

theorem numV_take (b : List UInt8) (f k : Nat) (c : UInt8) (h : b[f + k]? = some c) : numV ((b.drop f).take (k + 1)) 0 = numV ((b.drop f).take k) 0 * 10 + (c.toNat - 48) := by
  rw [List.take_add_one, List.getElem?_drop, h, numV_app]
  rfl
theorem take_digs (b : List UInt8) (f k : Nat) (h : ∀ j, j < k → ∃ c, b[f + j]? = some c ∧ Dig c) : ∀ c ∈ (b.drop f).take k, Dig c := by
  intro c hc
  obtain ⟨j, hj, rfl⟩ := List.getElem_of_mem hc
  have hj' : j < k := by rw [List.length_take] at hj; omega
  obtain ⟨c, h1, h2⟩ := h j hj'
  have : ((b.drop f).take k)[j]? = some c := by rw [List.getElem?_take, if_pos hj', List.getElem?_drop, h1]
  rw [List.getElem?_eq_getElem hj] at this
  rw [Option.some.inj this]; exact h2
theorem numV_nine (b : List UInt8) (f k : Nat) (hk : k ≤ 9) (h : ∀ j, j < k → ∃ c, b[f + j]? = some c ∧ Dig c) : numV ((b.drop f).take k) 0 < 1000000000 := by
  refine Nat.lt_of_lt_of_le (numV_lt _ 0 (take_digs b f k h)) ?_
  have : ((b.drop f).take k).length ≤ 9 := by rw [List.length_take]; omega
  calc (0 + 1) * 10 ^ ((b.drop f).take k).length ≤ 1 * 10 ^ 9 := Nat.mul_le_mul (by omega) (Nat.pow_le_pow_right (by omega) this)
    _ = 1000000000 := by decide

/-- A byte of a string, as a walk meets it. -/
theorem str_get (s : ByteArray) (i : Nat) (c : UInt8) (h : s.data.toList[i]? = some c) : ∃ h' : i < s.size, s[i] = c := by
  have hlt : i < s.size := by
    have := (List.getElem?_eq_some_iff.1 h).1
    simpa using this
  refine ⟨hlt, ?_⟩
  have e : s.data[i]'(by simpa using hlt) = c := by have := (List.getElem?_eq_some_iff.1 h).2; simpa using this
  exact e
/-- What the reference's number answers. -/
def NumP (b : List UInt8) (a : Nat) (x : Ending) : Prop := ∃ v en ok, x = .returned (.tuple #[.int .i64 v, .int .i64 (en : Nat), .bool ok]) ∧ NumR b a v en ok
theorem NumP.mk3 {b : List UInt8} {a : Nat} (v : Int) (en : Nat) {v' en' : Int} {ok' : Bool} (ok : Bool) (h1 : v' = v) (h2 : en' = (en : Int)) (h3 : ok' = ok) (h : NumR b a v en ok) : NumP b a (.returned (.tuple #[.int .i64 v', .int .i64 en', .bool ok'])) := by
  subst h1; subst h2; subst h3; exact ⟨_, _, _, rfl, h⟩

set_option maxRecDepth 100000 in
set_option maxHeartbeats 2000000 in
theorem number_any (s : ByteArray) (a : Nat) (ha : a ≤ s.size) (hs : s.size ≤ 65536) (W : World) :
    Calls Tryd.prog 15 #[.string s, .int .i64 a] W fun e w' => NumP s.data.toList a e ∧ ∃ m, w' = W.drewN m := by
  have hsz : s.data.toList.length = s.size := by simp
  obtain ⟨b, hb⟩ : ∃ b, s.data.toList = b := ⟨_, rfl⟩
  obtain ⟨n, hn⟩ : ∃ n, s.size = n := ⟨_, rfl⟩
  have HN : Hid (s.size = n) := hn
  have hat := fun (i : Nat) (c : UInt8) (h : b[i]? = some c) => str_get s i c (by rw [hb]; exact h)
  rw [hb] at hsz ⊢
  rw [hn] at hsz ha hs
  have HB : Hid (b.length = n) := hsz
  clear hsz hb
  by_cases h45 : b[a]? = some 45
  · skip
    have hlt : a < n := by rw [← HB.out]; exact (List.getElem?_eq_some_iff.1 h45).1
    have hlt' : (a : Int) < (n : Int) := by omega
    obtain ⟨hx0, hx⟩ := hat a 45 h45
    obtain ⟨f, hf⟩ : ∃ f, f = a + 1 := ⟨_, rfl⟩
    have HF : Hid (f = a + 1) := hf
    clear hf
    go_enter Tryd.func15, Tryd.ntmps15
    go_wp2
    go_loopw [7, 9] (fun en nn wr => ∃ (k e m : Nat), k ≤ 9 ∧ Hid (e = f + k) ∧ e ≤ n ∧ en = .int .i64 (e : Nat) ∧ nn = .int .i64 (numV ((b.drop f).take k) 0 : Nat) ∧ Hid (∀ j, j < k → ∃ c, b[f + j]? = some c ∧ Dig c) ∧ wr = W.drewN m) (fun en _ _ => n - (intOf en).toNat)
    case atStart => exact ⟨0, f, 0, by omega, by unfold Hid; omega, by rw [HF.out]; omega, by first | (rw [HF.out]; done) | (rw [HF.out]; go_num), by simp [numV], fun j hj => by omega, rfl⟩
    case round =>
      obtain ⟨k, e, m, hk, HE, hen, rfl, rfl, HD, rfl⟩ := hrel
      have h9 := numV_nine b f k hk HD.out
      obtain ⟨v, hv⟩ : ∃ v, numV ((b.drop f).take k) 0 = v := ⟨_, rfl⟩
      rw [hv] at h9 ⊢
      have HV : Hid (numV ((b.drop f).take k) 0 = v) := hv
      clear hv
      have hsub : (e : Int) - ((a : Int) + 1) = (k : Int) := by have h8 := HE.out; have h7 := HF.out; omega
      have hfe : a + 1 ≤ e := by have h8 := HE.out; have h7 := HF.out; omega
      by_cases hlt2 : e < n
      · have hlt3 : (e : Int) < (n : Int) := by omega
        obtain ⟨c, hc⟩ : ∃ c, b[e]? = some c := ⟨_, List.getElem?_eq_getElem (by rw [HB.out]; exact hlt2)⟩
        obtain ⟨hx0, hx⟩ := hat e c hc
        have hnx := numV_take b f k c (by rw [← HE.out]; exact hc)
        rw [HV.out] at hnx
        have HX : Hid (_ = v * 10 + (c.toNat - 48)) := hnx
        have HC : Hid _ := hc
        have hc2 : c.toNat < 256 := c.toNat_lt
        clear hnx hc
        by_cases hk9 : k < 9
        · have hk9' : (k : Int) < 9 := by omega
          by_cases hlo : 48 ≤ c.toNat
          · have hlo' : (48 : Int) ≤ (c.toNat : Int) := by omega
            by_cases hhi : c.toNat ≤ 57
            · have hhi' : (c.toNat : Int) ≤ 57 := by omega
              go_wp2
              go_roundw
              case rel =>
                refine ⟨k + 1, e + 1, m, by omega, by unfold Hid; rw [HE.out]; omega, by omega, by go_num, ?_, ?_, rfl⟩
                · rw [HX.out]; congr 1; omega
                · intro j hj
                  by_cases hjk : j < k
                  · exact HD.out j hjk
                  · obtain rfl : j = k := by omega
                    exact ⟨c, by rw [← HE.out]; exact HC.out, hlo, hhi⟩
              case measure => simp [intOf]; omega
            · have hhi' : ¬ (c.toNat : Int) ≤ 57 := by omega
              have HS : Hid (k = 9 ∨ ∀ c, b[f + k]? = some c → ¬ Dig c) := .inr (fun c' h' => by
                rw [← HE.out, HC.out] at h'; rw [← Option.some.inj h']; unfold Dig; omega)
              go_wp2
              all_goals
                go_ret3
                exact ⟨NumP.mk3 _ e (decide (0 < k)) rfl rfl (by simp; omega) ⟨f, k, .inr ⟨HF.out, h45⟩, hk, by rw [← HE.out, HB.out]; omega, HE.out, by rw [if_neg (by rw [HF.out]; omega), HV.out], HD.out, HS.out, rfl⟩, m, rfl⟩
          · have hlo' : ¬ (48 : Int) ≤ (c.toNat : Int) := by omega
            have HS : Hid (k = 9 ∨ ∀ c, b[f + k]? = some c → ¬ Dig c) := .inr (fun c' h' => by
              rw [← HE.out, HC.out] at h'; rw [← Option.some.inj h']; unfold Dig; omega)
            go_wp2
            all_goals
              go_ret3
              exact ⟨NumP.mk3 _ e (decide (0 < k)) rfl rfl (by simp; omega) ⟨f, k, .inr ⟨HF.out, h45⟩, hk, by rw [← HE.out, HB.out]; omega, HE.out, by rw [if_neg (by rw [HF.out]; omega), HV.out], HD.out, HS.out, rfl⟩, m, rfl⟩
        · have hk9' : ¬ (k : Int) < 9 := by omega
          have HS : Hid (k = 9 ∨ ∀ c, b[f + k]? = some c → ¬ Dig c) := .inl (by omega)
          go_wp2
          all_goals
            go_ret3
            exact ⟨NumP.mk3 _ e (decide (0 < k)) rfl rfl (by simp; omega) ⟨f, k, .inr ⟨HF.out, h45⟩, hk, by rw [← HE.out, HB.out]; omega, HE.out, by rw [if_neg (by rw [HF.out]; omega), HV.out], HD.out, HS.out, rfl⟩, m, rfl⟩
      · have hen2 : e = n := by omega
        have HS : Hid (k = 9 ∨ ∀ c, b[f + k]? = some c → ¬ Dig c) := .inr (fun c' h' => by
          rw [← HE.out] at h'; have := (List.getElem?_eq_some_iff.1 h').1; rw [HB.out] at this; omega)
        have hlt3 : ¬ (e : Int) < (n : Int) := by omega
        clear hen2
        go_wp2
        all_goals
          go_ret3
          exact ⟨NumP.mk3 _ e (decide (0 < k)) rfl rfl (by simp; omega) ⟨f, k, .inr ⟨HF.out, h45⟩, hk, by rw [← HE.out, HB.out]; omega, HE.out, by rw [if_neg (by rw [HF.out]; omega), HV.out], HD.out, HS.out, rfl⟩, m, rfl⟩
  · by_cases hlt : a < n
    · have hlt' : (a : Int) < (n : Int) := by omega
      obtain ⟨c0, hc0⟩ : ∃ c, b[a]? = some c := ⟨_, List.getElem?_eq_getElem (by rw [HB.out]; exact hlt)⟩
      obtain ⟨hx0, hx⟩ := hat a c0 hc0
      have hne : ¬ c0.toNat = 45 := fun h => h45 (by rw [hc0]; exact congrArg some (UInt8.toNat_inj.1 h))
      have hne' : ¬ (c0.toNat : Int) = 45 := by omega
      have hne2 : ((c0.toNat : Int) == 45) = false := by simp; omega
      clear hc0 hne
      obtain ⟨f, hf⟩ : ∃ f, f = a := ⟨_, rfl⟩
      have HF : Hid (f = a) := hf
      clear hf
      go_enter Tryd.func15, Tryd.ntmps15
      go_wp2
      go_loopw [7, 9] (fun en nn wr => ∃ (k e m : Nat), k ≤ 9 ∧ Hid (e = f + k) ∧ e ≤ n ∧ en = .int .i64 (e : Nat) ∧ nn = .int .i64 (numV ((b.drop f).take k) 0 : Nat) ∧ Hid (∀ j, j < k → ∃ c, b[f + j]? = some c ∧ Dig c) ∧ wr = W.drewN m) (fun en _ _ => n - (intOf en).toNat)
      case atStart => exact ⟨0, f, 0, by omega, by unfold Hid; omega, by rw [HF.out]; omega, by first | (rw [HF.out]; done) | (rw [HF.out]; go_num), by simp [numV], fun j hj => by omega, rfl⟩
      case round =>
        obtain ⟨k, e, m, hk, HE, hen, rfl, rfl, HD, rfl⟩ := hrel
        have h9 := numV_nine b f k hk HD.out
        obtain ⟨v, hv⟩ : ∃ v, numV ((b.drop f).take k) 0 = v := ⟨_, rfl⟩
        rw [hv] at h9 ⊢
        have HV : Hid (numV ((b.drop f).take k) 0 = v) := hv
        clear hv
        have hsub : (e : Int) - (a : Int) = (k : Int) := by have h8 := HE.out; have h7 := HF.out; omega
        have hfe : a ≤ e := by have h8 := HE.out; have h7 := HF.out; omega
        by_cases hlt2 : e < n
        · have hlt3 : (e : Int) < (n : Int) := by omega
          obtain ⟨c, hc⟩ : ∃ c, b[e]? = some c := ⟨_, List.getElem?_eq_getElem (by rw [HB.out]; exact hlt2)⟩
          obtain ⟨hx0, hx⟩ := hat e c hc
          have hnx := numV_take b f k c (by rw [← HE.out]; exact hc)
          rw [HV.out] at hnx
          have HX : Hid (_ = v * 10 + (c.toNat - 48)) := hnx
          have HC : Hid _ := hc
          have hc2 : c.toNat < 256 := c.toNat_lt
          clear hnx hc
          by_cases hk9 : k < 9
          · have hk9' : (k : Int) < 9 := by omega
            by_cases hlo : 48 ≤ c.toNat
            · have hlo' : (48 : Int) ≤ (c.toNat : Int) := by omega
              by_cases hhi : c.toNat ≤ 57
              · have hhi' : (c.toNat : Int) ≤ 57 := by omega
                go_wp2
                go_roundw
                case rel =>
                  refine ⟨k + 1, e + 1, m, by omega, by unfold Hid; rw [HE.out]; omega, by omega, by go_num, ?_, ?_, rfl⟩
                  · rw [HX.out]; congr 1; omega
                  · intro j hj
                    by_cases hjk : j < k
                    · exact HD.out j hjk
                    · obtain rfl : j = k := by omega
                      exact ⟨c, by rw [← HE.out]; exact HC.out, hlo, hhi⟩
                case measure => simp [intOf]; omega
              · have hhi' : ¬ (c.toNat : Int) ≤ 57 := by omega
                have HS : Hid (k = 9 ∨ ∀ c, b[f + k]? = some c → ¬ Dig c) := .inr (fun c' h' => by
                  rw [← HE.out, HC.out] at h'; rw [← Option.some.inj h']; unfold Dig; omega)
                go_wp2
                all_goals
                  go_ret3
                  exact ⟨NumP.mk3 _ e (decide (0 < k)) rfl rfl (by simp; omega) ⟨f, k, .inl ⟨HF.out, h45⟩, hk, by rw [← HE.out, HB.out]; omega, HE.out, by rw [if_pos HF.out, HV.out], HD.out, HS.out, rfl⟩, m, rfl⟩
            · have hlo' : ¬ (48 : Int) ≤ (c.toNat : Int) := by omega
              have HS : Hid (k = 9 ∨ ∀ c, b[f + k]? = some c → ¬ Dig c) := .inr (fun c' h' => by
                rw [← HE.out, HC.out] at h'; rw [← Option.some.inj h']; unfold Dig; omega)
              go_wp2
              all_goals
                go_ret3
                exact ⟨NumP.mk3 _ e (decide (0 < k)) rfl rfl (by simp; omega) ⟨f, k, .inl ⟨HF.out, h45⟩, hk, by rw [← HE.out, HB.out]; omega, HE.out, by rw [if_pos HF.out, HV.out], HD.out, HS.out, rfl⟩, m, rfl⟩
          · have hk9' : ¬ (k : Int) < 9 := by omega
            have HS : Hid (k = 9 ∨ ∀ c, b[f + k]? = some c → ¬ Dig c) := .inl (by omega)
            go_wp2
            all_goals
              go_ret3
              exact ⟨NumP.mk3 _ e (decide (0 < k)) rfl rfl (by simp; omega) ⟨f, k, .inl ⟨HF.out, h45⟩, hk, by rw [← HE.out, HB.out]; omega, HE.out, by rw [if_pos HF.out, HV.out], HD.out, HS.out, rfl⟩, m, rfl⟩
        · have hen2 : e = n := by omega
          have HS : Hid (k = 9 ∨ ∀ c, b[f + k]? = some c → ¬ Dig c) := .inr (fun c' h' => by
            rw [← HE.out] at h'; have := (List.getElem?_eq_some_iff.1 h').1; rw [HB.out] at this; omega)
          have hlt3 : ¬ (e : Int) < (n : Int) := by omega
          clear hen2
          go_wp2
          all_goals
            go_ret3
            exact ⟨NumP.mk3 _ e (decide (0 < k)) rfl rfl (by simp; omega) ⟨f, k, .inl ⟨HF.out, h45⟩, hk, by rw [← HE.out, HB.out]; omega, HE.out, by rw [if_pos HF.out, HV.out], HD.out, HS.out, rfl⟩, m, rfl⟩
    · have hlt' : ¬ (a : Int) < (n : Int) := by omega
      obtain ⟨f, hf⟩ : ∃ f, f = a := ⟨_, rfl⟩
      have HF : Hid (f = a) := hf
      clear hf
      go_enter Tryd.func15, Tryd.ntmps15
      go_wp2
      go_loopw [7, 9] (fun en nn wr => ∃ (k e m : Nat), k ≤ 9 ∧ Hid (e = f + k) ∧ e ≤ n ∧ en = .int .i64 (e : Nat) ∧ nn = .int .i64 (numV ((b.drop f).take k) 0 : Nat) ∧ Hid (∀ j, j < k → ∃ c, b[f + j]? = some c ∧ Dig c) ∧ wr = W.drewN m) (fun en _ _ => n - (intOf en).toNat)
      case atStart => exact ⟨0, f, 0, by omega, by unfold Hid; omega, by rw [HF.out]; omega, by first | (rw [HF.out]; done) | (rw [HF.out]; go_num), by simp [numV], fun j hj => by omega, rfl⟩
      case round =>
        obtain ⟨k, e, m, hk, HE, hen, rfl, rfl, HD, rfl⟩ := hrel
        have h9 := numV_nine b f k hk HD.out
        obtain ⟨v, hv⟩ : ∃ v, numV ((b.drop f).take k) 0 = v := ⟨_, rfl⟩
        rw [hv] at h9 ⊢
        have HV : Hid (numV ((b.drop f).take k) 0 = v) := hv
        clear hv
        have hsub : (e : Int) - (a : Int) = (k : Int) := by have h8 := HE.out; have h7 := HF.out; omega
        have hfe : a ≤ e := by have h8 := HE.out; have h7 := HF.out; omega
        by_cases hlt2 : e < n
        · have hlt3 : (e : Int) < (n : Int) := by omega
          obtain ⟨c, hc⟩ : ∃ c, b[e]? = some c := ⟨_, List.getElem?_eq_getElem (by rw [HB.out]; exact hlt2)⟩
          obtain ⟨hx0, hx⟩ := hat e c hc
          have hnx := numV_take b f k c (by rw [← HE.out]; exact hc)
          rw [HV.out] at hnx
          have HX : Hid (_ = v * 10 + (c.toNat - 48)) := hnx
          have HC : Hid _ := hc
          have hc2 : c.toNat < 256 := c.toNat_lt
          clear hnx hc
          by_cases hk9 : k < 9
          · have hk9' : (k : Int) < 9 := by omega
            by_cases hlo : 48 ≤ c.toNat
            · have hlo' : (48 : Int) ≤ (c.toNat : Int) := by omega
              by_cases hhi : c.toNat ≤ 57
              · have hhi' : (c.toNat : Int) ≤ 57 := by omega
                go_wp2
                go_roundw
                case rel =>
                  refine ⟨k + 1, e + 1, m, by omega, by unfold Hid; rw [HE.out]; omega, by omega, by go_num, ?_, ?_, rfl⟩
                  · rw [HX.out]; congr 1; omega
                  · intro j hj
                    by_cases hjk : j < k
                    · exact HD.out j hjk
                    · obtain rfl : j = k := by omega
                      exact ⟨c, by rw [← HE.out]; exact HC.out, hlo, hhi⟩
                case measure => simp [intOf]; omega
              · have hhi' : ¬ (c.toNat : Int) ≤ 57 := by omega
                have HS : Hid (k = 9 ∨ ∀ c, b[f + k]? = some c → ¬ Dig c) := .inr (fun c' h' => by
                  rw [← HE.out, HC.out] at h'; rw [← Option.some.inj h']; unfold Dig; omega)
                go_wp2
                all_goals
                  go_ret3
                  exact ⟨NumP.mk3 _ e (decide (0 < k)) rfl rfl (by simp; omega) ⟨f, k, .inl ⟨HF.out, h45⟩, hk, by rw [← HE.out, HB.out]; omega, HE.out, by rw [if_pos HF.out, HV.out], HD.out, HS.out, rfl⟩, m, rfl⟩
            · have hlo' : ¬ (48 : Int) ≤ (c.toNat : Int) := by omega
              have HS : Hid (k = 9 ∨ ∀ c, b[f + k]? = some c → ¬ Dig c) := .inr (fun c' h' => by
                rw [← HE.out, HC.out] at h'; rw [← Option.some.inj h']; unfold Dig; omega)
              go_wp2
              all_goals
                go_ret3
                exact ⟨NumP.mk3 _ e (decide (0 < k)) rfl rfl (by simp; omega) ⟨f, k, .inl ⟨HF.out, h45⟩, hk, by rw [← HE.out, HB.out]; omega, HE.out, by rw [if_pos HF.out, HV.out], HD.out, HS.out, rfl⟩, m, rfl⟩
          · have hk9' : ¬ (k : Int) < 9 := by omega
            have HS : Hid (k = 9 ∨ ∀ c, b[f + k]? = some c → ¬ Dig c) := .inl (by omega)
            go_wp2
            all_goals
              go_ret3
              exact ⟨NumP.mk3 _ e (decide (0 < k)) rfl rfl (by simp; omega) ⟨f, k, .inl ⟨HF.out, h45⟩, hk, by rw [← HE.out, HB.out]; omega, HE.out, by rw [if_pos HF.out, HV.out], HD.out, HS.out, rfl⟩, m, rfl⟩
        · have hen2 : e = n := by omega
          have HS : Hid (k = 9 ∨ ∀ c, b[f + k]? = some c → ¬ Dig c) := .inr (fun c' h' => by
            rw [← HE.out] at h'; have := (List.getElem?_eq_some_iff.1 h').1; rw [HB.out] at this; omega)
          have hlt3 : ¬ (e : Int) < (n : Int) := by omega
          clear hen2
          go_wp2
          all_goals
            go_ret3
            exact ⟨NumP.mk3 _ e (decide (0 < k)) rfl rfl (by simp; omega) ⟨f, k, .inl ⟨HF.out, h45⟩, hk, by rw [← HE.out, HB.out]; omega, HE.out, by rw [if_pos HF.out, HV.out], HD.out, HS.out, rfl⟩, m, rfl⟩
end Go.Proofs.YtopelhdepocoiaaDoor
