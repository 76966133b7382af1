/-
  What is proved here: the reference's choose.
-/
import Derived.Test.YtacnhkaibcjjgaaGreatDoorUc
import Derived.Test.YtacnhkaibcjjgaaGreatDoorCb
namespace Go.Proofs.YtacnhkaibcjjgaaGreatDoor
open Go.RowKit Go.Shelf
set_option linter.unusedVariables false
set_option linter.unusedSimpArgs false

def chrow (i : Nat) : List Int := (List.range (i + 1)).map (ch i)
theorem chrow_len (i : Nat) : (chrow i).length = i + 1 := by simp [chrow]
theorem chrow_nth {i j : Nat} (h : j < i + 1) : nth (chrow i) j = ch i j := by simp [chrow, nth, h]
theorem chrow_take {i j : Nat} (h : j < i + 1) : (chrow i).take (j + 1) = (chrow i).take j ++ [ch i j] := by
  have hl : j < (chrow i).length := by rw [chrow_len]; exact h
  rw [List.take_succ_eq_append_getElem hl]
  simp [chrow]
theorem chrow_all (i : Nat) : (chrow i).take (i + 1) = chrow i := List.take_of_length_le (by rw [chrow_len]; exact Nat.le_refl _)
theorem own_oneI (W : World) (B : Nat) (hB : B ≤ W.heap.size) (x : Int) : (W.alloc (Obj.cells #[.int .i64 x] 2)).ownsRow B 2 1 (.slice (some ⟨W.heap.size, 0, none⟩) 1 1) 1 [.int .i64 x] :=
  ⟨rfl, .inr ⟨W.heap.size, 1, #[.int .i64 x], rfl, hB, World.alloc_heap_new W _, Nat.le_refl _, by unfold maxLen; omega, rfl, rfl⟩⟩

set_option maxRecDepth 100000 in
set_option maxHeartbeats 4000000 in
theorem choose_any (r k : Nat) (hr : r ≤ 64) (hk : k ≤ r) (W : World) :
    Calls Tryz.prog 80 #[.int .i64 (r : Int), .int .i64 (k : Int)] W fun e w' => e = .returned (.int .i64 (ch r k)) ∧ Below W.heap.size W w' := by
  have HR0 : Hid ((W.alloc (Obj.cells #[.int .i64 1] 2)).ownsRow W.heap.size 2 1 (.slice (some ⟨W.heap.size, 0, none⟩) 1 1) 1 (intv (chrow 0)) ∧ Below W.heap.size W (W.alloc (Obj.cells #[.int .i64 1] 2))) := ⟨own_oneI W _ (Nat.le_refl _) 1, (Below.refl _ W).alloc (Nat.le_refl _) _⟩
  go_enter Tryz.func80, Tryz.ntmps80
  go_wp2
  go_loopw [5, 6] (fun row i wr => ∃ q : Nat, q ≤ r ∧ i = .int .i64 (q : Int) ∧ Hid (wr.ownsRow W.heap.size 2 1 row (q + 1) (intv (chrow q)) ∧ Below W.heap.size W wr)) (fun _ i _ => r - (intOf i).toNat)
  case atStart => exact ⟨0, Nat.zero_le _, rfl, HR0.out⟩
  case round =>
    clear HR0
    obtain ⟨wo, hwo⟩ : ∃ x, x = wr := ⟨_, rfl⟩
    subst hwo
    obtain ⟨q, hq, rfl, HQ⟩ := hrel
    obtain ⟨p, c, rfl⟩ := own_slice HQ.out.1
    have hsi : Si wo (.slice p (q + 1) c) (chrow q) := own_si' HQ.out.1 (chrow_len q)
    obtain ⟨p', c', e, hc⟩ := hsi
    rw [chrow_len] at hc
    injection e with e1 e2 e3
    subst e1 e3
    clear e2
    obtain ⟨b, off, rfl, hb, hcell⟩ := hc (by omega)
    have HC : Hid (∀ W2, Below wo.heap.size wo W2 → ∀ i, i < q + 1 → W2.cell? ⟨b, off + i, none⟩ = some (.int .i64 (ch q i))) := fun W2 h2 i hi => (h2.cell (p := ⟨b, off + i, none⟩) hb).trans (by rw [hcell i hi, chrow_nth hi])
    clear hc hcell
    by_cases hlt : q < r
    · have hlt' : (q : Int) < (r : Int) := by omega
      have HI0 : Hid ((wo.alloc (Obj.cells #[.int .i64 1] 2)).ownsRow wo.heap.size 2 1 (.slice (some ⟨wo.heap.size, 0, none⟩) 1 1) 1 (intv ((chrow (q + 1)).take 1)) ∧ Below wo.heap.size wo (wo.alloc (Obj.cells #[.int .i64 1] 2))) := by
        refine ⟨?_, (Below.refl _ wo).alloc (Nat.le_refl _) _⟩
        have e : (chrow (q + 1)).take 1 = [1] := by rw [chrow_take (by omega), ch_first]; rfl
        rw [e]
        exact own_oneI wo _ (Nat.le_refl _) 1
      obtain ⟨N1, hN1⟩ : ∃ m, q + 1 = m := ⟨_, rfl⟩
      have HN1 : Hid (q + 1 = N1) := hN1
      have hN1' : (N1 : Int) = (q : Int) + 1 := by omega
      rw [hN1]
      go_wp2
      go_loopw [7, 8] (fun nx j wz => ∃ t : Nat, 1 ≤ t ∧ t ≤ q + 2 ∧ j = .int .i64 (t : Int) ∧ Hid (wz.ownsRow wo.heap.size 2 1 nx t (intv ((chrow (q + 1)).take t)) ∧ Below wo.heap.size wo wz)) (fun _ j _ => q + 2 - (intOf j).toNat)
      case atStart => exact ⟨1, Nat.le_refl _, by omega, rfl, HI0.out⟩
      case round =>
        obtain ⟨t, ht1, ht2, rfl, HT⟩ := hrel
        obtain ⟨pn, cn, rfl⟩ := own_slice HT.out.1
        by_cases hlt2 : t ≤ N1
        · have ht' : (t : Int) ≤ (N1 : Int) := by omega
          have hlt2q : t ≤ q + 1 := by omega
          have d1 := HC.out wr HT.out.2 (t - 1) (by omega)
          have hk1 : (t : Int) - 1 = ((t - 1 : Nat) : Int) := by omega
          have hk2 : ((t - 1 : Nat) : Int) < (N1 : Int) := by omega
          have hn1 := ch_nonneg q (t - 1)
          have hn2 := ch_nonneg (q + 1) t
          have hx1 := ch_lt (q + 1) t (by omega)
          have HTK : Hid ((chrow (q + 1)).take (t + 1) = (chrow (q + 1)).take t ++ [ch (q + 1) t]) := chrow_take (by omega)
          have hlenT : ((chrow (q + 1)).take t).length = t := by rw [List.length_take, chrow_len]; omega
          have hrowT : wr.ownsRow wo.heap.size 2 1 (.slice pn t cn) ((chrow (q + 1)).take t).length (intv ((chrow (q + 1)).take t)) := by rw [hlenT]; exact HT.out.1
          by_cases hlt3 : t < N1
          · have hlt3' : (t : Int) < (N1 : Int) := by omega
            have d2 := HC.out wr HT.out.2 t (by omega)
            have hch : ch (q + 1) t = ch q t + ch q (t - 1) := by rw [ch]; rw [if_neg (by omega)]
            have hsum : IntKind.i64.wrap (ch q (t - 1) + ch q t) = ch (q + 1) t := by rw [IntKind.wrap_i64]; omega
            clear hch
            generalize ch (q + 1) t = X at *
            have hX1 : decide (4611686018427387904 < X) = false := by simp; omega
            have hX2 : decide (X < 0) = false := by simp; omega
            have hrow3 := World.ownsRow.alloc hrowT (Obj.cells #[.int .i64 X] 2)
            have HBA : Hid (Below wo.heap.size wo (wr.alloc (Obj.cells #[.int .i64 X] 2))) := HT.out.2.alloc HT.out.2.size _
            have hsz := HBA.out.size
            have HL : Hid (((chrow (q + 1)).take t).length = t) := hlenT
            generalize (chrow (q + 1)).take t = L at *
            clear hlenT hrowT
            go_wp2_with (at_builtin; refine wpList_app_sr _ rfl _ _ rfl wo.heap.size _ _ L rfl hrow3 rfl _ [X] rfl (one_si wr X) (by have := HL.out; simp; omega) hsz ?_; intro v' w4 hown' hbel)
            go_roundw
            case rel => exact ⟨t + 1, by omega, by omega, by go_num, by rw [HTK.out]; rw [HL.out] at hown'; exact hown', HBA.out.trans hbel⟩
            case measure => simp [intOf]; omega
          · have hlt3' : ¬ (t : Int) < (N1 : Int) := by omega
            have hch : ch q (t - 1) = ch (q + 1) t := by
              obtain rfl : t = q + 1 := by omega
              rw [show q + 1 - 1 = q by omega, ch_last, ch_last]
            rw [hch] at d1 hn1
            clear hch
            generalize ch (q + 1) t = X at *
            have hX1 : decide (4611686018427387904 < X) = false := by simp; omega
            have hX2 : decide (X < 0) = false := by simp; omega
            have hrow3 := World.ownsRow.alloc hrowT (Obj.cells #[.int .i64 X] 2)
            have HBA : Hid (Below wo.heap.size wo (wr.alloc (Obj.cells #[.int .i64 X] 2))) := HT.out.2.alloc HT.out.2.size _
            have hsz := HBA.out.size
            have HL : Hid (((chrow (q + 1)).take t).length = t) := hlenT
            generalize (chrow (q + 1)).take t = L at *
            clear hlenT hrowT
            go_wp2_with (at_builtin; refine wpList_app_sr _ rfl _ _ rfl wo.heap.size _ _ L rfl hrow3 rfl _ [X] rfl (one_si wr X) (by have := HL.out; simp; omega) hsz ?_; intro v' w4 hown' hbel)
            go_roundw
            case rel => exact ⟨t + 1, by omega, by omega, by go_num, by rw [HTK.out]; rw [HL.out] at hown'; exact hown', HBA.out.trans hbel⟩
            case measure => simp [intOf]; omega
        · have ht' : ¬ (t : Int) ≤ (N1 : Int) := by omega
          have HTE : Hid (t = q + 2) := by unfold Hid; omega
          go_wp2
          go_roundw
          case rel => exact ⟨q + 1, by omega, by go_num, by have := HT.out.1; rw [HTE.out, chrow_all] at this; rw [HTE.out]; exact own_base this HQ.out.2.size, HQ.out.2.trans (HT.out.2.mono HQ.out.2.size)⟩
          case measure => simp [intOf]; omega
    · have hlt' : ¬ (q : Int) < (r : Int) := by omega
      obtain rfl : q = r := by omega
      have d1 := HC.out wo (Below.refl _ _) k (by omega)
      have g1 : decide ((k : Int) < 0) = false := by simp
      have g2 : decide ((q : Int) < (k : Int)) = false := by simp; omega
      obtain ⟨N1, hN1⟩ : ∃ m, q + 1 = m := ⟨_, rfl⟩
      have hN2 : (k : Int) < (N1 : Int) := by omega
      rw [hN1]
      go_wp2
      go_ret
      exact ⟨rfl, HQ.out.2⟩
end Go.Proofs.YtacnhkaibcjjgaaGreatDoor
