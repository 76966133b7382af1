/-
  What is proved here: What package strings does of texts: Cut, Split, Trim.
-/
import Derived.Test.YtdnhhmnllhlbbaaGreatDoorOvj
import Derived.Test.YtdnhhmnllhlbbaaGreatDoorXSh
import Derived.Test.YtdnhhmnllhlbbaaGreatDoorSj
import Derived.Test.YtdnhhmnllhlbbaaGreatDoorCClj
import Derived.Test.YtdnhhmnllhlbbaaGreatDoorCDr
import Derived.Lib.SplitLaws
namespace Go.Proofs.YtdnhhmnllhlbbaaGreatDoor
open Go.RowKit Go.Shelf
set_option linter.unusedVariables false
set_option linter.unusedSimpArgs false
/-- The library's variable that Cut and Split ask. -/
def MaxL (W : World) : Prop := 1 < W.heap.size ∧ ∃ m, W.cell? ⟨1, 0, none⟩ = some (.int .i64 m)
theorem MaxL.below {W w : World} {B : Nat} (h : MaxL W) (hb : Below B W w) (hB : 1 < B) : MaxL w := by
  obtain ⟨h1, m, h2⟩ := h
  exact ⟨Nat.lt_of_lt_of_le h1 hb.size, m, (hb.cell (p := ⟨1, 0, none⟩) hB).trans h2⟩
theorem MaxL.self {W w : World} (h : MaxL W) (hb : Below W.heap.size W w) : MaxL w := h.below hb h.1
theorem cut74 (s t : List UInt8) (w : World) (hM : MaxL w) (hs : s.length < 4294967281) :
    Calls Tryz.prog 74 #[.string (bs s), .string (bs t)] w fun e w' => e = .returned (.tuple #[.string (bs (Lib.cut s t).1), .string (bs (Lib.cut s t).2.1), .bool (Lib.cut s t).2.2]) ∧ Below w.heap.size w w' := by
  obtain ⟨_, m, hm⟩ := hM
  have h := Any.strings_Cut Tryz.laysCut (bs s) (bs t) m w hs hm
  rw [bs_data, bs_data] at h
  exact h.mono fun e w' ⟨he, n, hn⟩ => ⟨he, by rw [hn]; exact below_drewN (Below.refl _ _) n⟩
theorem split94 (s : List UInt8) (d : UInt8) (w : World) (hM : MaxL w) (hs : s.length < 4294967281) :
    Calls Tryz.prog 94 #[.string (bs s), .string (bs [d])] w fun e w' => ∃ b, e = .returned (.slice (some ⟨b, 0, none⟩) (Lib.split s [d]).length (Lib.split s [d]).length) ∧ b < w'.heap.size ∧ (∀ i x, (Lib.split s [d])[i]? = some x → w'.cell? ⟨b, i, none⟩ = some (.string (bs x))) ∧ Below w.heap.size w w' := by
  obtain ⟨_, m, hm⟩ := hM
  have hP : (Lib.splitB (bs [d]) 0 (Lib.countB (bs s) (bs [d])) (bs s)).map (·.data.toList) = Lib.split s [d] := by
    rw [Lib.splitB_data, bs_data, bs_data]
    unfold Lib.split Lib.countB
    rw [bs_data, bs_data]
  have hl : (Lib.split s [d]).length = Lib.countB (bs s) (bs [d]) + 1 := by rw [← hP, List.length_map]; exact Lib.splitB_all (bs [d]) (Nat.le_refl 1) 0 _ (bs s) rfl
  refine (Any.strings_Split Tryz.laysSplit (by kernel_rfl) (bs s) (bs [d]) m w hs hm (Nat.le_refl 1)).mono fun e w' ⟨he, hw⟩ => ?_
  subst hw
  refine ⟨w.heap.size, by rw [he, hl], by rw [World.size_alloc]; omega, fun i x hx => ?_, (Below.refl _ w).alloc (Nat.le_refl _) _⟩
  rw [cell_row (World.alloc_heap_new w _)]
  rw [← hP, List.getElem?_map] at hx
  simp only [List.getElem?_toArray, List.getElem?_map]
  cases h : (Lib.splitB (bs [d]) 0 (Lib.countB (bs s) (bs [d])) (bs s))[i]? with
  | none => rw [h] at hx; cases hx
  | some b =>
    rw [h] at hx
    injection hx with hx
    rw [← hx, bs_of]
    rfl
theorem bs_upto (l : List UInt8) (b : Nat) (h : b ≤ l.length) (X : World) :
    (Instr.slice 9 (.string (bs l)) none (some (.int .i64 (b : Int))) none).run Tryz.prog X = .ok (.string (bs (l.take b))) X := by
  rw [run_slice_string_to_if X 9 (bs l) .i64 b Tryz.underlying9, if_pos ⟨by omega, by rw [bs_size]; omega⟩]
  congr 2
  rw [← bs_of (ByteArray.extract _ _ _), Lib.extract_data, bs_data]
  simp

/-! ### Trim of braces -/

def brB (c : UInt8) : Bool := [123, 125].contains c
def trL (l : List UInt8) : List UInt8 := l.drop (spn brB l)
def trR (l : List UInt8) : List UInt8 := (trL l.reverse).reverse
theorem trL_cons (c : UInt8) (r : List UInt8) : trL (c :: r) = if brB c then trL r else c :: r := by
  unfold trL; rw [spn_cons]; split <;> simp
theorem trR_snoc (r : List UInt8) (c : UInt8) : trR (r ++ [c]) = if brB c then trR r else r ++ [c] := by
  unfold trR; rw [List.reverse_append, List.reverse_singleton, List.singleton_append, trL_cons]; split <;> simp
def szOf : Value → Nat
  | .string b => b.size
  | _ => 0
/-- A block that holds the set of braces. -/
def BrS (W : World) (g : Nat) : Prop := ∀ c : UInt8, W.cell? ⟨g, c.toNat, none⟩ = some (.bool (brB c))
theorem has163 {W : World} {g : Nat} (h : BrS W g) (c : UInt8) : Calls Tryz.prog 163 #[.pointer (some ⟨g, 0, none⟩), .int .u8 c.toNat] W fun e w' => e = .returned (.bool (brB c)) ∧ w' = W := Any.asciiSet_contains Tryz.laysContains g c _ W (h c)

set_option maxRecDepth 100000 in
set_option maxHeartbeats 4000000 in
theorem trimL154 {W : World} {g : Nat} (l : List UInt8) (hA : BrS W g) (hl : l.length ≤ 1000000000000) :
    Calls Tryz.prog 154 #[.string (bs l), .pointer (some ⟨g, 0, none⟩)] W fun e w' => e = .returned (.string (bs (trL l))) ∧ w' = W := by
  have HA : Hid (∀ c : UInt8, Calls Tryz.prog 163 #[.pointer (some ⟨g, 0, none⟩), .int .u8 c.toNat] W fun e w' => e = .returned (.bool (brB c)) ∧ w' = W) := fun c => has163 hA c
  have HL : Hid (l.length ≤ 1000000000000) := hl
  clear hA hl
  go_enter Tryz.func154, Tryz.ntmps154
  go_wp2
  go_loopw [0] (fun s wr => ∃ T, s = .string (bs T) ∧ Hid (trL T = trL l) ∧ Hid (T.length ≤ l.length) ∧ wr = W) (fun s _ => szOf s)
  case atStart => exact ⟨l, rfl, rfl, Nat.le_refl _, rfl⟩
  case round =>
    obtain ⟨T, rfl, HE, HT, rfl⟩ := hrel
    cases T with
    | nil =>
      have h0 : (bs []).size = 0 := rfl
      go_wp2
      go_ret
      exact ⟨by rw [← HE.out]; rfl, rfl⟩
    | cons c r =>
      obtain ⟨hcl, hcg⟩ := bs_get (c :: r) 0 c rfl
      have hfr : ∀ X, (Instr.slice 9 (.string (bs (c :: r))) (some (.int .i64 1)) none none).run Tryz.prog X = .ok (.string (bs r)) X := fun X => bs_from (c :: r) 1 (by simp) X
      have hsz : (bs (c :: r)).size = r.length + 1 := rfl
      have hb : r.length + 1 ≤ 1000000000000 := by have h1 := HT.out; have h2 := HL.out; rw [List.length_cons] at h1; omega
      have kc := HA.out c
      have hme : szOf (.string (bs r)) < szOf (.string (bs (c :: r))) := by show r.length < r.length + 1; omega
      have HME : Hid _ := hme
      cases hbr : brB c with
      | true =>
        rw [hbr] at kc
        have HE2 : Hid (trL r = trL l) := by unfold Hid; rw [← HE.out, trL_cons, hbr]; rfl
        have HT2 : Hid (r.length ≤ l.length) := by unfold Hid; have := HT.out; simp at this; omega
        obtain ⟨S, hS⟩ : ∃ S, bs (c :: r) = S := ⟨_, rfl⟩
        simp only [hS] at hcl hcg hfr hsz HME ⊢
        clear hbr hme
        go_wp2_with fail
        refine kc.mono ?_
        rintro e w1 ⟨rfl, rfl⟩
        clear kc
        go_wp2
        go_roundw
        case rel => exact ⟨r, rfl, HE2, HT2, by first | rfl | trivial⟩
        case measure => exact HME.out
      | false =>
        rw [hbr] at kc
        have HE2 : Hid (trL l = c :: r) := by unfold Hid; rw [← HE.out, trL_cons, hbr]; rfl
        obtain ⟨S, hS⟩ : ∃ S, bs (c :: r) = S := ⟨_, rfl⟩
        have HS : Hid (bs (c :: r) = S) := hS
        simp only [hS] at hcl hcg hfr hsz HME ⊢
        clear hbr hme
        go_wp2_with fail
        refine kc.mono ?_
        rintro e w1 ⟨rfl, rfl⟩
        clear kc
        go_wp2
        go_ret
        exact ⟨by rw [HE2.out, HS.out]; rfl, rfl⟩

set_option maxRecDepth 100000 in
set_option maxHeartbeats 4000000 in
theorem trimR155 {W : World} {g : Nat} (l : List UInt8) (hA : BrS W g) (hl : l.length ≤ 1000000000000) :
    Calls Tryz.prog 155 #[.string (bs l), .pointer (some ⟨g, 0, none⟩)] W fun e w' => e = .returned (.string (bs (trR l))) ∧ w' = W := by
  have HA : Hid (∀ c : UInt8, Calls Tryz.prog 163 #[.pointer (some ⟨g, 0, none⟩), .int .u8 c.toNat] W fun e w' => e = .returned (.bool (brB c)) ∧ w' = W) := fun c => has163 hA c
  have HL : Hid (l.length ≤ 1000000000000) := hl
  clear hA hl
  go_enter Tryz.func155, Tryz.ntmps155
  go_wp2
  go_loopw [0] (fun s wr => ∃ T, s = .string (bs T) ∧ Hid (trR T = trR l) ∧ Hid (T.length ≤ l.length) ∧ wr = W) (fun s _ => szOf s)
  case atStart => exact ⟨l, rfl, rfl, Nat.le_refl _, rfl⟩
  case round =>
    obtain ⟨T, rfl, HE, HT, rfl⟩ := hrel
    rcases List.eq_nil_or_concat T with rfl | ⟨r, c, rfl⟩
    · have h0 : (bs []).size = 0 := rfl
      go_wp2
      go_ret
      exact ⟨by rw [← HE.out]; rfl, rfl⟩
    · rw [List.concat_eq_append] at HE HT ⊢
      obtain ⟨n, hn⟩ : ∃ n, r.length = n := ⟨_, rfl⟩
      have HN : Hid (r.length = n) := hn
      obtain ⟨hcl, hcg⟩ := bs_get (r ++ [c]) n c (by rw [← hn]; simp)
      have hfr := bs_upto (r ++ [c]) n (by rw [← hn]; simp)
      rw [show (r ++ [c]).take n = r by rw [← hn]; simp] at hfr
      have hsz : (bs (r ++ [c])).size = n + 1 := by rw [bs_size, List.length_append, hn]; rfl
      have hb : n + 1 ≤ 1000000000000 := by have h1 := HT.out; have h2 := HL.out; rw [List.length_append, hn, List.length_singleton] at h1; omega
      have hw : IntKind.i64.wrap (((n + 1 : Nat) : Int) - 1) = (n : Int) := by rw [IntKind.wrap_i64]; omega
      have kc := HA.out c
      have HME : Hid (szOf (.string (bs r)) < szOf (.string (bs (r ++ [c])))) := by show r.length < (r ++ [c]).length; simp
      cases hbr : brB c with
      | true =>
        rw [hbr] at kc
        have HE2 : Hid (trR r = trR l) := by unfold Hid; rw [← HE.out, trR_snoc, hbr]; rfl
        have HT2 : Hid (r.length ≤ l.length) := by unfold Hid; have := HT.out; rw [List.length_append] at this; simp at this; omega
        obtain ⟨S, hS⟩ : ∃ S, bs (r ++ [c]) = S := ⟨_, rfl⟩
        simp only [hS] at hcl hcg hfr hsz HME ⊢
        clear hbr hn
        go_wp2_with fail
        refine kc.mono ?_
        rintro e w1 ⟨rfl, rfl⟩
        clear kc
        go_wp2
        go_roundw
        case rel => exact ⟨r, rfl, HE2, HT2, by first | rfl | trivial⟩
        case measure => exact HME.out
      | false =>
        rw [hbr] at kc
        have HE2 : Hid (trR l = r ++ [c]) := by unfold Hid; rw [← HE.out, trR_snoc, hbr]; rfl
        obtain ⟨S, hS⟩ : ∃ S, bs (r ++ [c]) = S := ⟨_, rfl⟩
        have HS : Hid (bs (r ++ [c]) = S) := hS
        simp only [hS] at hcl hcg hfr hsz HME ⊢
        clear hbr hn
        go_wp2_with fail
        refine kc.mono ?_
        rintro e w1 ⟨rfl, rfl⟩
        clear kc
        go_wp2
        go_ret
        exact ⟨by rw [HE2.out, HS.out]; rfl, rfl⟩
theorem below_setRow {B g : Nat} {a w : World} (h : Below B a w) (hg : B ≤ g) (cs : Array Value) : Below B a (w.setRow g cs) :=
  ⟨h.os, h.tape, h.output, by simpa [World.setRow] using h.size, fun k hk => (setRow_other w g k cs (by omega)).trans (h.block k hk)⟩
theorem zc188 : Tryz.zeroCells188 = Array.replicate 256 (.bool false) := by kernel_rfl
theorem zero188 (w : World) : (zeroValue 188).run Tryz.prog w = .ok (.agg (Array.replicate 256 (.bool false))) w := (Tryz.zeroValue188 w).trans (by rw [zc188])
theorem ascii153 (W : World) : Calls Tryz.prog 153 #[.string (bs [123, 125])] W fun e w' => e = .returned (.tuple #[.agg (Lib.setCells [123, 125]), .bool true]) ∧ w' = W.alloc (.cells (Lib.setCells [123, 125]) 188) := by
  have hz : (bs [123, 125]).size < 4294967281 := by rw [bs_size]; simp only [List.length_cons, List.length_nil]; omega
  have h := Any.strings_makeASCIISet Tryz.laysAscii zero188 (by kernel_rfl) (bs [123, 125]) W hz (by
    intro j b hb
    rw [bs_data] at hb
    have := List.mem_of_getElem? hb
    simp only [List.mem_cons, List.not_mem_nil, or_false] at this
    rcases this with rfl | rfl <;> decide)
  rw [bs_data] at h
  exact h

set_option maxRecDepth 100000 in
set_option maxHeartbeats 4000000 in
theorem trim139 (l : List UInt8) (hl : l.length ≤ 1000000000000) (W : World) : Calls Tryz.prog 139 #[.string (bs l), .string ⟨#[123, 125]⟩] W fun e w' => e = .returned (.string (bs (trL (trR l)))) ∧ Below W.heap.size W w' := by
  cases l with
  | nil =>
    go_enter Tryz.func139, Tryz.ntmps139
    have h0 : (bs []).toList = [] := bs_e0
    go_wp2
    go_ret
    exact ⟨rfl, Below.refl _ _⟩
  | cons c r =>
    have hne := bs_nee (c :: r) (by simp)
    have k1 := ascii153 W
    obtain ⟨w1, hw1⟩ : ∃ q, W.alloc (.cells (Lib.setCells [123, 125]) 188) = q := ⟨_, rfl⟩
    have hb1 : Below W.heap.size W w1 := by rw [← hw1]; exact (Below.refl _ _).alloc (Nat.le_refl _) _
    rw [hw1] at k1
    have HL : Hid ((c :: r).length ≤ 1000000000000) := hl
    have hR : (trR (c :: r)).length ≤ 1000000000000 := by
      have : (trR (c :: r)).length ≤ (c :: r).length := by unfold trR trL; rw [List.length_reverse, List.length_drop, List.length_reverse]; omega
      omega
    have HR : Hid _ := hR
    have HB1 : Hid _ := hb1
    generalize c :: r = l at *
    clear hw1 hb1 hR hl
    go_enter Tryz.func139, Tryz.ntmps139
    go_wp2_with fail
    refine k1.mono ?_
    rintro e w2 ⟨rfl, rfl⟩
    clear k1
    have hAT := Lib.setCells_at [123, 125]
    have hALL := Lib.setCells_one [123, 125]
    have hSZ := Lib.setCells_size [123, 125]
    obtain ⟨CS, hCS⟩ : ∃ q, Lib.setCells [123, 125] = q := ⟨_, rfl⟩
    rw [hCS] at hAT hALL hSZ ⊢
    have HZ : Hid (Blk (w2.alloc (Obj.cells Tryz.zeroCells188 188)) w2.heap.size Tryz.zeroCells188 188) := Blk.new _ _ _
    have HB3 : Hid (Below W.heap.size W (w2.alloc (Obj.cells Tryz.zeroCells188 188))) := HB1.out.alloc HB1.out.size _
    have HAT : Hid (∀ x : UInt8, CS[x.toNat]? = some (.bool (brB x))) := hAT
    have HALL : Hid (CS.all (·.oneCell') = true) := hALL
    have HS188 : Hid ((Tryz.prog.info? 188).map (·.size) = some CS.size) := by unfold Hid; rw [hSZ]; kernel_rfl
    have HSZ : Hid (Tryz.zeroCells188.size = CS.size) := by unfold Hid; rw [hSZ]; kernel_rfl
    clear hAT hALL hCS hSZ
    go_wp2_with (with_reducible refine wpList_store_row rfl 188 (.tmp 5) (.tmp 32) rfl w2.heap.size CS (by with_unfolding_all rfl) (by with_unfolding_all rfl) 188 _ HZ.out.h HS188.out HSZ.out HALL.out ?_)
    have hBr : BrS ((w2.alloc (Obj.cells Tryz.zeroCells188 188)).setRow w2.heap.size CS) w2.heap.size := fun c => by
      rw [cell_row (setRow_heap _ w2.heap.size _ _ 188 (0, 0) HZ.out.h)]
      exact HAT.out c
    have HBr : Hid _ := hBr
    have HB4 : Hid (Below W.heap.size W ((w2.alloc (Obj.cells Tryz.zeroCells188 188)).setRow w2.heap.size CS)) := below_setRow HB3.out HB1.out.size _
    obtain ⟨w4, hw4⟩ : ∃ q, (w2.alloc (Obj.cells Tryz.zeroCells188 188)).setRow w2.heap.size CS = q := ⟨_, rfl⟩
    rw [hw4] at HBr HB4 ⊢
    clear hw4 hBr HZ
    refine (trimR155 l HBr.out HL.out).mono ?_
    rintro e w5 ⟨rfl, rfl⟩
    go_wp2_with fail
    refine (trimL154 (trR l) HBr.out HR.out).mono ?_
    rintro e w6 ⟨rfl, rfl⟩
    go_wp2
    go_ret
    exact ⟨rfl, HB4.out⟩
end Go.Proofs.YtdnhhmnllhlbbaaGreatDoor
