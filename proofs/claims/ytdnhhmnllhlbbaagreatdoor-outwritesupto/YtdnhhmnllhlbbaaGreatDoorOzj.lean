/-
  What is proved here: What package strings does of texts: Cut, Split, Trim.
  What is proved here: The set of a text: setOf, of a text that a set is written as.
-/
import Derived.Test.YtdnhhmnllhlbbaaGreatDoorOvj
import Derived.Test.YtdnhhmnllhlbbaaGreatDoorXSh
import Derived.Test.YtdnhhmnllhlbbaaGreatDoorSj
import Derived.Test.YtdnhhmnllhlbbaaGreatDoorCClj
import Derived.Test.YtdnhhmnllhlbbaaGreatDoorCDr
import Derived.Lib.SplitLaws
import Derived.Test.YtdnhhmnllhlbbaaGreatDoorOg
namespace Go.Proofs.YtdnhhmnllhlbbaaGreatDoor
open Go.RowKit Go.Shelf
set_option linter.unusedVariables false
set_option linter.unusedSimpArgs false
/-- The library's variable that Cut and Split ask. -/
def MaxL (W : World) : Prop := 1 < W.heap.size ∧ ∃ m, W.cell? ⟨1, 0, none⟩ = some (.int .i64 m)
theorem MaxL.below {W w : World} {B : Nat} (h : MaxL W) (hb : Below B W w) (hB : 1 < B) : MaxL w := by
  obtain ⟨h1, m, h2⟩ := h
  exact ⟨Nat.lt_of_lt_of_le h1 hb.size, m, (hb.cell (p := ⟨1, 0, none⟩) hB).trans h2⟩
theorem MaxL.self {W w : World} (h : MaxL W) (hb : Below W.heap.size W w) : MaxL w := h.below hb h.1
theorem cut74 (s t : List UInt8) (w : World) (hM : MaxL w) (hs : s.length < 4294967281) :
    Calls Tryz.prog 74 #[.string (bs s), .string (bs t)] w fun e w' => e = .returned (.tuple #[.string (bs (Lib.cut s t).1), .string (bs (Lib.cut s t).2.1), .bool (Lib.cut s t).2.2]) ∧ Below w.heap.size w w' := by
  obtain ⟨_, m, hm⟩ := hM
  have h := Any.strings_Cut Tryz.laysCut (bs s) (bs t) m w hs hm
  rw [bs_data, bs_data] at h
  exact h.mono fun e w' ⟨he, n, hn⟩ => ⟨he, by rw [hn]; exact below_drewN (Below.refl _ _) n⟩
theorem split94 (s : List UInt8) (d : UInt8) (w : World) (hM : MaxL w) (hs : s.length < 4294967281) :
    Calls Tryz.prog 94 #[.string (bs s), .string (bs [d])] w fun e w' => ∃ b, e = .returned (.slice (some ⟨b, 0, none⟩) (Lib.split s [d]).length (Lib.split s [d]).length) ∧ b < w'.heap.size ∧ (∀ i x, (Lib.split s [d])[i]? = some x → w'.cell? ⟨b, i, none⟩ = some (.string (bs x))) ∧ Below w.heap.size w w' := by
  obtain ⟨_, m, hm⟩ := hM
  have hP : (Lib.splitB (bs [d]) 0 (Lib.countB (bs s) (bs [d])) (bs s)).map (·.data.toList) = Lib.split s [d] := by
    rw [Lib.splitB_data, bs_data, bs_data]
    unfold Lib.split Lib.countB
    rw [bs_data, bs_data]
  have hl : (Lib.split s [d]).length = Lib.countB (bs s) (bs [d]) + 1 := by rw [← hP, List.length_map]; exact Lib.splitB_all (bs [d]) (Nat.le_refl 1) 0 _ (bs s) rfl
  refine (Any.strings_Split Tryz.laysSplit (by kernel_rfl) (bs s) (bs [d]) m w hs hm (Nat.le_refl 1)).mono fun e w' ⟨he, hw⟩ => ?_
  subst hw
  refine ⟨w.heap.size, by rw [he, hl], by rw [World.size_alloc]; omega, fun i x hx => ?_, (Below.refl _ w).alloc (Nat.le_refl _) _⟩
  rw [cell_row (World.alloc_heap_new w _)]
  rw [← hP, List.getElem?_map] at hx
  simp only [List.getElem?_toArray, List.getElem?_map]
  cases h : (Lib.splitB (bs [d]) 0 (Lib.countB (bs s) (bs [d])) (bs s))[i]? with
  | none => rw [h] at hx; cases hx
  | some b =>
    rw [h] at hx
    injection hx with hx
    rw [← hx, bs_of]
    rfl
theorem bs_upto (l : List UInt8) (b : Nat) (h : b ≤ l.length) (X : World) :
    (Instr.slice 9 (.string (bs l)) none (some (.int .i64 (b : Int))) none).run Tryz.prog X = .ok (.string (bs (l.take b))) X := by
  rw [run_slice_string_to_if X 9 (bs l) .i64 b Tryz.underlying9, if_pos ⟨by omega, by rw [bs_size]; omega⟩]
  congr 2
  rw [← bs_of (ByteArray.extract _ _ _), Lib.extract_data, bs_data]
  simp

/-! ### Trim of braces -/

def brB (c : UInt8) : Bool := [123, 125].contains c
def trL (l : List UInt8) : List UInt8 := l.drop (spn brB l)
def trR (l : List UInt8) : List UInt8 := (trL l.reverse).reverse
theorem trL_cons (c : UInt8) (r : List UInt8) : trL (c :: r) = if brB c then trL r else c :: r := by
  unfold trL; rw [spn_cons]; split <;> simp
theorem trR_snoc (r : List UInt8) (c : UInt8) : trR (r ++ [c]) = if brB c then trR r else r ++ [c] := by
  unfold trR; rw [List.reverse_append, List.reverse_singleton, List.singleton_append, trL_cons]; split <;> simp
def szOf : Value → Nat
  | .string b => b.size
  | _ => 0
/-- A block that holds the set of braces. -/
def BrS (W : World) (g : Nat) : Prop := ∀ c : UInt8, W.cell? ⟨g, c.toNat, none⟩ = some (.bool (brB c))
theorem has163 {W : World} {g : Nat} (h : BrS W g) (c : UInt8) : Calls Tryz.prog 163 #[.pointer (some ⟨g, 0, none⟩), .int .u8 c.toNat] W fun e w' => e = .returned (.bool (brB c)) ∧ w' = W := Any.asciiSet_contains Tryz.laysContains g c _ W (h c)

set_option maxRecDepth 100000 in
set_option maxHeartbeats 4000000 in
theorem trimL154 {W : World} {g : Nat} (l : List UInt8) (hA : BrS W g) (hl : l.length ≤ 1000000000000) :
    Calls Tryz.prog 154 #[.string (bs l), .pointer (some ⟨g, 0, none⟩)] W fun e w' => e = .returned (.string (bs (trL l))) ∧ w' = W := by
  have HA : Hid (∀ c : UInt8, Calls Tryz.prog 163 #[.pointer (some ⟨g, 0, none⟩), .int .u8 c.toNat] W fun e w' => e = .returned (.bool (brB c)) ∧ w' = W) := fun c => has163 hA c
  have HL : Hid (l.length ≤ 1000000000000) := hl
  clear hA hl
  go_enter Tryz.func154, Tryz.ntmps154
  go_wp2
  go_loopw [0] (fun s wr => ∃ T, s = .string (bs T) ∧ Hid (trL T = trL l) ∧ Hid (T.length ≤ l.length) ∧ wr = W) (fun s _ => szOf s)
  case atStart => exact ⟨l, rfl, rfl, Nat.le_refl _, rfl⟩
  case round =>
    obtain ⟨T, rfl, HE, HT, rfl⟩ := hrel
    cases T with
    | nil =>
      have h0 : (bs []).size = 0 := rfl
      go_wp2
      go_ret
      exact ⟨by rw [← HE.out]; rfl, rfl⟩
    | cons c r =>
      obtain ⟨hcl, hcg⟩ := bs_get (c :: r) 0 c rfl
      have hfr : ∀ X, (Instr.slice 9 (.string (bs (c :: r))) (some (.int .i64 1)) none none).run Tryz.prog X = .ok (.string (bs r)) X := fun X => bs_from (c :: r) 1 (by simp) X
      have hsz : (bs (c :: r)).size = r.length + 1 := rfl
      have hb : r.length + 1 ≤ 1000000000000 := by have h1 := HT.out; have h2 := HL.out; rw [List.length_cons] at h1; omega
      have kc := HA.out c
      have hme : szOf (.string (bs r)) < szOf (.string (bs (c :: r))) := by show r.length < r.length + 1; omega
      have HME : Hid _ := hme
      cases hbr : brB c with
      | true =>
        rw [hbr] at kc
        have HE2 : Hid (trL r = trL l) := by unfold Hid; rw [← HE.out, trL_cons, hbr]; rfl
        have HT2 : Hid (r.length ≤ l.length) := by unfold Hid; have := HT.out; simp at this; omega
        obtain ⟨S, hS⟩ : ∃ S, bs (c :: r) = S := ⟨_, rfl⟩
        simp only [hS] at hcl hcg hfr hsz HME ⊢
        clear hbr hme
        go_wp2_with fail
        refine kc.mono ?_
        rintro e w1 ⟨rfl, rfl⟩
        clear kc
        go_wp2
        go_roundw
        case rel => exact ⟨r, rfl, HE2, HT2, by first | rfl | trivial⟩
        case measure => exact HME.out
      | false =>
        rw [hbr] at kc
        have HE2 : Hid (trL l = c :: r) := by unfold Hid; rw [← HE.out, trL_cons, hbr]; rfl
        obtain ⟨S, hS⟩ : ∃ S, bs (c :: r) = S := ⟨_, rfl⟩
        have HS : Hid (bs (c :: r) = S) := hS
        simp only [hS] at hcl hcg hfr hsz HME ⊢
        clear hbr hme
        go_wp2_with fail
        refine kc.mono ?_
        rintro e w1 ⟨rfl, rfl⟩
        clear kc
        go_wp2
        go_ret
        exact ⟨by rw [HE2.out, HS.out]; rfl, rfl⟩

set_option maxRecDepth 100000 in
set_option maxHeartbeats 4000000 in
theorem trimR155 {W : World} {g : Nat} (l : List UInt8) (hA : BrS W g) (hl : l.length ≤ 1000000000000) :
    Calls Tryz.prog 155 #[.string (bs l), .pointer (some ⟨g, 0, none⟩)] W fun e w' => e = .returned (.string (bs (trR l))) ∧ w' = W := by
  have HA : Hid (∀ c : UInt8, Calls Tryz.prog 163 #[.pointer (some ⟨g, 0, none⟩), .int .u8 c.toNat] W fun e w' => e = .returned (.bool (brB c)) ∧ w' = W) := fun c => has163 hA c
  have HL : Hid (l.length ≤ 1000000000000) := hl
  clear hA hl
  go_enter Tryz.func155, Tryz.ntmps155
  go_wp2
  go_loopw [0] (fun s wr => ∃ T, s = .string (bs T) ∧ Hid (trR T = trR l) ∧ Hid (T.length ≤ l.length) ∧ wr = W) (fun s _ => szOf s)
  case atStart => exact ⟨l, rfl, rfl, Nat.le_refl _, rfl⟩
  case round =>
    obtain ⟨T, rfl, HE, HT, rfl⟩ := hrel
    rcases List.eq_nil_or_concat T with rfl | ⟨r, c, rfl⟩
    · have h0 : (bs []).size = 0 := rfl
      go_wp2
      go_ret
      exact ⟨by rw [← HE.out]; rfl, rfl⟩
    · rw [List.concat_eq_append] at HE HT ⊢
      obtain ⟨n, hn⟩ : ∃ n, r.length = n := ⟨_, rfl⟩
      have HN : Hid (r.length = n) := hn
      obtain ⟨hcl, hcg⟩ := bs_get (r ++ [c]) n c (by rw [← hn]; simp)
      have hfr := bs_upto (r ++ [c]) n (by rw [← hn]; simp)
      rw [show (r ++ [c]).take n = r by rw [← hn]; simp] at hfr
      have hsz : (bs (r ++ [c])).size = n + 1 := by rw [bs_size, List.length_append, hn]; rfl
      have hb : n + 1 ≤ 1000000000000 := by have h1 := HT.out; have h2 := HL.out; rw [List.length_append, hn, List.length_singleton] at h1; omega
      have hw : IntKind.i64.wrap (((n + 1 : Nat) : Int) - 1) = (n : Int) := by rw [IntKind.wrap_i64]; omega
      have kc := HA.out c
      have HME : Hid (szOf (.string (bs r)) < szOf (.string (bs (r ++ [c])))) := by show r.length < (r ++ [c]).length; simp
      cases hbr : brB c with
      | true =>
        rw [hbr] at kc
        have HE2 : Hid (trR r = trR l) := by unfold Hid; rw [← HE.out, trR_snoc, hbr]; rfl
        have HT2 : Hid (r.length ≤ l.length) := by unfold Hid; have := HT.out; rw [List.length_append] at this; simp at this; omega
        obtain ⟨S, hS⟩ : ∃ S, bs (r ++ [c]) = S := ⟨_, rfl⟩
        simp only [hS] at hcl hcg hfr hsz HME ⊢
        clear hbr hn
        go_wp2_with fail
        refine kc.mono ?_
        rintro e w1 ⟨rfl, rfl⟩
        clear kc
        go_wp2
        go_roundw
        case rel => exact ⟨r, rfl, HE2, HT2, by first | rfl | trivial⟩
        case measure => exact HME.out
      | false =>
        rw [hbr] at kc
        have HE2 : Hid (trR l = r ++ [c]) := by unfold Hid; rw [← HE.out, trR_snoc, hbr]; rfl
        obtain ⟨S, hS⟩ : ∃ S, bs (r ++ [c]) = S := ⟨_, rfl⟩
        have HS : Hid (bs (r ++ [c]) = S) := hS
        simp only [hS] at hcl hcg hfr hsz HME ⊢
        clear hbr hn
        go_wp2_with fail
        refine kc.mono ?_
        rintro e w1 ⟨rfl, rfl⟩
        clear kc
        go_wp2
        go_ret
        exact ⟨by rw [HE2.out, HS.out]; rfl, rfl⟩
theorem below_setRow {B g : Nat} {a w : World} (h : Below B a w) (hg : B ≤ g) (cs : Array Value) : Below B a (w.setRow g cs) :=
  ⟨h.os, h.tape, h.output, by simpa [World.setRow] using h.size, fun k hk => (setRow_other w g k cs (by omega)).trans (h.block k hk)⟩
theorem zc188 : Tryz.zeroCells188 = Array.replicate 256 (.bool false) := by kernel_rfl
theorem zero188 (w : World) : (zeroValue 188).run Tryz.prog w = .ok (.agg (Array.replicate 256 (.bool false))) w := (Tryz.zeroValue188 w).trans (by rw [zc188])
theorem ascii153 (W : World) : Calls Tryz.prog 153 #[.string (bs [123, 125])] W fun e w' => e = .returned (.tuple #[.agg (Lib.setCells [123, 125]), .bool true]) ∧ w' = W.alloc (.cells (Lib.setCells [123, 125]) 188) := by
  have hz : (bs [123, 125]).size < 4294967281 := by rw [bs_size]; simp only [List.length_cons, List.length_nil]; omega
  have h := Any.strings_makeASCIISet Tryz.laysAscii zero188 (by kernel_rfl) (bs [123, 125]) W hz (by
    intro j b hb
    rw [bs_data] at hb
    have := List.mem_of_getElem? hb
    simp only [List.mem_cons, List.not_mem_nil, or_false] at this
    rcases this with rfl | rfl <;> decide)
  rw [bs_data] at h
  exact h

set_option maxRecDepth 100000 in
set_option maxHeartbeats 4000000 in
theorem trim139 (l : List UInt8) (hl : l.length ≤ 1000000000000) (W : World) : Calls Tryz.prog 139 #[.string (bs l), .string ⟨#[123, 125]⟩] W fun e w' => e = .returned (.string (bs (trL (trR l)))) ∧ Below W.heap.size W w' := by
  cases l with
  | nil =>
    go_enter Tryz.func139, Tryz.ntmps139
    have h0 : (bs []).toList = [] := bs_e0
    go_wp2
    go_ret
    exact ⟨rfl, Below.refl _ _⟩
  | cons c r =>
    have hne := bs_nee (c :: r) (by simp)
    have k1 := ascii153 W
    obtain ⟨w1, hw1⟩ : ∃ q, W.alloc (.cells (Lib.setCells [123, 125]) 188) = q := ⟨_, rfl⟩
    have hb1 : Below W.heap.size W w1 := by rw [← hw1]; exact (Below.refl _ _).alloc (Nat.le_refl _) _
    rw [hw1] at k1
    have HL : Hid ((c :: r).length ≤ 1000000000000) := hl
    have hR : (trR (c :: r)).length ≤ 1000000000000 := by
      have : (trR (c :: r)).length ≤ (c :: r).length := by unfold trR trL; rw [List.length_reverse, List.length_drop, List.length_reverse]; omega
      omega
    have HR : Hid _ := hR
    have HB1 : Hid _ := hb1
    generalize c :: r = l at *
    clear hw1 hb1 hR hl
    go_enter Tryz.func139, Tryz.ntmps139
    go_wp2_with fail
    refine k1.mono ?_
    rintro e w2 ⟨rfl, rfl⟩
    clear k1
    have hAT := Lib.setCells_at [123, 125]
    have hALL := Lib.setCells_one [123, 125]
    have hSZ := Lib.setCells_size [123, 125]
    obtain ⟨CS, hCS⟩ : ∃ q, Lib.setCells [123, 125] = q := ⟨_, rfl⟩
    rw [hCS] at hAT hALL hSZ ⊢
    have HZ : Hid (Blk (w2.alloc (Obj.cells Tryz.zeroCells188 188)) w2.heap.size Tryz.zeroCells188 188) := Blk.new _ _ _
    have HB3 : Hid (Below W.heap.size W (w2.alloc (Obj.cells Tryz.zeroCells188 188))) := HB1.out.alloc HB1.out.size _
    have HAT : Hid (∀ x : UInt8, CS[x.toNat]? = some (.bool (brB x))) := hAT
    have HALL : Hid (CS.all (·.oneCell') = true) := hALL
    have HS188 : Hid ((Tryz.prog.info? 188).map (·.size) = some CS.size) := by unfold Hid; rw [hSZ]; kernel_rfl
    have HSZ : Hid (Tryz.zeroCells188.size = CS.size) := by unfold Hid; rw [hSZ]; kernel_rfl
    clear hAT hALL hCS hSZ
    go_wp2_with (with_reducible refine wpList_store_row rfl 188 (.tmp 5) (.tmp 32) rfl w2.heap.size CS (by with_unfolding_all rfl) (by with_unfolding_all rfl) 188 _ HZ.out.h HS188.out HSZ.out HALL.out ?_)
    have hBr : BrS ((w2.alloc (Obj.cells Tryz.zeroCells188 188)).setRow w2.heap.size CS) w2.heap.size := fun c => by
      rw [cell_row (setRow_heap _ w2.heap.size _ _ 188 (0, 0) HZ.out.h)]
      exact HAT.out c
    have HBr : Hid _ := hBr
    have HB4 : Hid (Below W.heap.size W ((w2.alloc (Obj.cells Tryz.zeroCells188 188)).setRow w2.heap.size CS)) := below_setRow HB3.out HB1.out.size _
    obtain ⟨w4, hw4⟩ : ∃ q, (w2.alloc (Obj.cells Tryz.zeroCells188 188)).setRow w2.heap.size CS = q := ⟨_, rfl⟩
    rw [hw4] at HBr HB4 ⊢
    clear hw4 hBr HZ
    refine (trimR155 l HBr.out HL.out).mono ?_
    rintro e w5 ⟨rfl, rfl⟩
    go_wp2_with fail
    refine (trimL154 (trR l) HBr.out HR.out).mono ?_
    rintro e w6 ⟨rfl, rfl⟩
    go_wp2
    go_ret
    exact ⟨rfl, HB4.out⟩
end Go.Proofs.YtdnhhmnllhlbbaaGreatDoor

namespace Go.Proofs.YtdnhhmnllhlbbaaGreatDoor
open Go.RowKit Go.Shelf
set_option linter.unusedVariables false
set_option linter.unusedSimpArgs false
/-- Numbers in own memory. -/
def OwI (w : World) (s : Value) (l : List Int) : Prop := Ow w 2 s 1 (l.map fun x => [Value.int .i64 x])
theorem OwI.si {w : World} {B : Nat} {s : Value} {l : List Int} (h : OwI w s l) (hb : ∀ g, s.ownBlock = some g → B ≤ g) : Si B w s l := by
  obtain ⟨a, c, e, _, _⟩ := h.shape
  rw [List.length_map] at e
  refine ⟨a, c, e, fun h0 => ?_⟩
  obtain ⟨x, hx⟩ : ∃ x, l[0]? = some x := ⟨_, List.getElem?_eq_getElem h0⟩
  obtain ⟨g, cap, e2, hg, _, _, _, _⟩ := h.at (i := 0) (c := [.int .i64 x]) (by rw [List.getElem?_map, hx]; rfl)
  rw [e] at e2
  injection e2 with e2 _ _
  refine ⟨g, 0, e2, hb g (by rw [e, e2]; rfl), hg, fun i y hy => ?_⟩
  obtain ⟨g', cap', e3, _, _, _, hr, _⟩ := h.at (i := i) (c := [.int .i64 y]) (by rw [List.getElem?_map, hy]; rfl)
  rw [e, e2] at e3
  injection e3 with e3 _ _
  injection e3 with e3
  injection e3 with e3 _ _
  subst e3
  have := hr 0 (.int .i64 y) rfl
  simpa using this

set_option maxRecDepth 100000 in
set_option maxHeartbeats 4000000 in
theorem fld36 (x : Int) (w : World) : (Instr.field 36 (.agg #[.bool false, .int .i64 x, .slice none 0 0]) 1).run Tryz.prog w = .ok (.int .i64 x) w := rfl
theorem span_at {l : List Int} (h : setOk l = true) (hs : spanB l = true) : (∀ k, k < l.length → l[k]? = some (l.getD 0 0 + (k : Int))) ∧ l.getD (l.length - 1) 0 = l.getD 0 0 + (l.length : Int) - 1 := by
  have hr := (span_range h hs).1
  unfold spanB at hs
  simp only [Bool.and_eq_true, decide_eq_true_eq] at hs
  have e : l.getD (l.length - 1) 0 = l.getD 0 0 + (l.length : Int) - 1 := by omega
  refine ⟨fun k hk => ?_, e⟩
  generalize hlo : l.getD 0 0 = lo at *
  generalize hhi : l.getD (l.length - 1) 0 = hi at *
  rw [hr]
  unfold rangeI
  rw [List.getElem?_map, List.getElem?_range (by omega)]
  rfl

set_option maxRecDepth 100000 in
set_option maxHeartbeats 4000000 in
theorem setOf_span {W : World} (l : List Int) (h : setOk l = true) (hs : spanB l = true) (hM : MaxL W) :
    Calls Tryz.prog 124 #[.string (bs (setT l))] W fun e w' => ∃ sv, e = .returned (.agg #[.bool true, .int .i64 0, sv]) ∧ Si W.heap.size w' sv l ∧ Below W.heap.size W w' := by
  obtain ⟨hat, hhi⟩ := span_at h hs
  have hb0 := setOk_bd h 0
  have hlen := (setOk_facts h).1
  have hcut := cut_span hs
  have hl2 := (setT_len h).2
  obtain ⟨w1, hw1⟩ : ∃ q, (W.alloc (Obj.cells #[.bool false, .int .i64 0, .slice none 0 0] 36)).alloc (Obj.cells #[.bool true, .int .i64 0, .slice none 0 0] 36) = q := ⟨_, rfl⟩
  obtain ⟨R, hR⟩ : ∃ R, W.heap.size = R := ⟨_, rfl⟩
  have hbe : Below W.heap.size W w1 := by rw [← hw1]; exact ((Below.refl _ _).alloc (Nat.le_refl _) _).alloc (by rw [World.size_alloc]; omega) _
  have HR1 : Hid (Blk w1 R #[.bool false, .int .i64 0, .slice none 0 0] 36) := by rw [← hw1, ← hR]; exact (Blk.new _ _ _).alloc _
  have HA1 : Hid (Blk w1 (R + 1) #[.bool true, .int .i64 0, .slice none 0 0] 36) := by
    rw [← hw1, ← hR]
    have := Blk.new (W.alloc (Obj.cells #[.bool false, .int .i64 0, .slice none 0 0] 36)) #[.bool true, .int .i64 0, .slice none 0 0] 36
    rw [World.size_alloc] at this
    exact this
  obtain ⟨A, hA⟩ : ∃ A, R + 1 = A := ⟨_, rfl⟩
  have HRA : Hid (R < A) := by unfold Hid; omega
  rw [hA] at HA1
  have HB1 : Hid (Below W.heap.size W w1) := hbe
  have HW1 : Hid _ := hw1
  have HWR : Hid (W.heap.size = R ∧ R + 1 = A) := ⟨hR, hA⟩
  have kc := cut74 (setT l) [46, 46] w1 (hM.self hbe) (by omega)
  rw [hcut] at kc
  obtain ⟨lo, hlo⟩ : ∃ lo, l.getD 0 0 = lo := ⟨_, rfl⟩
  obtain ⟨hi, hhi2⟩ : ∃ hi, l.getD (l.length - 1) 0 = hi := ⟨_, rfl⟩
  rw [hlo] at hat hhi hb0 kc
  rw [hhi2] at hhi kc
  obtain ⟨n, hn⟩ : ∃ n, l.length = n := ⟨_, rfl⟩
  rw [hn] at hat hhi hlen
  have HN : Hid (l.length = n) := hn
  have HAT : Hid (∀ k, k < n → l[k]? = some (lo + (k : Int))) := hat
  have HHI : Hid (hi = lo + (n : Int) - 1) := hhi
  have hhib : -1000000 ≤ hi ∧ hi ≤ 1000000 := by have := setOk_bd h (l.length - 1); rw [hhi2] at this; exact this
  have k1 := fun X => number96 lo (by omega) (by omega) X
  have k2 := fun X => number96 hi (by omega) (by omega) X
  obtain ⟨T, hT⟩ : ∃ T, bs (setT l) = T := ⟨_, rfl⟩
  obtain ⟨T1, hT1⟩ : ∃ T, bs (Lib.itoa lo) = T := ⟨_, rfl⟩
  obtain ⟨T2, hT2⟩ : ∃ T, bs (Lib.itoa hi) = T := ⟨_, rfl⟩
  have HK1 : Hid (∀ X, Calls Tryz.prog 96 #[.string T1] X fun e w' => e = .returned (.agg #[.bool false, .int .i64 lo, .slice none 0 0]) ∧ Below X.heap.size X w') := by rw [← hT1]; exact k1
  have HK2 : Hid (∀ X, Calls Tryz.prog 96 #[.string T2] X fun e w' => e = .returned (.agg #[.bool false, .int .i64 hi, .slice none 0 0]) ∧ Below X.heap.size X w') := by rw [← hT2]; exact k2
  rw [hT, hT1, hT2] at kc
  rw [hT]
  clear hat hhi hcut hl2 hbe hlo hhi2 hn h hs hM hT hT1 hT2 k1 k2 hw1 hR hA
  have fl := fld36 lo
  have fh := fld36 hi
  go_enter Tryz.func124, Tryz.ntmps124
  go_wp2_with fail
  rw [HW1.out, HWR.out.1, HWR.out.2]
  refine kc.mono ?_
  rintro e w2 ⟨rfl, hb2⟩
  have HR2 : Hid (Blk w2 R #[.bool false, .int .i64 0, .slice none 0 0] 36) := HR1.out.below hb2
  have HA2 : Hid (Blk w2 A #[.bool true, .int .i64 0, .slice none 0 0] 36) := HA1.out.below hb2
  have HB2 : Hid (Below W.heap.size W w2) := HB1.out.trans (hb2.mono HB1.out.size)
  clear kc HW1 hb2 HR1 HA1 HB1
  go_wp2_with fail
  refine (HK1.out w2).mono ?_
  rintro e w3 ⟨rfl, hb3⟩
  have HR3 : Hid (Blk w3 R #[.bool false, .int .i64 0, .slice none 0 0] 36) := HR2.out.below hb3
  have HA3 : Hid (Blk w3 A #[.bool true, .int .i64 0, .slice none 0 0] 36) := HA2.out.below hb3
  have HB3 : Hid (Below W.heap.size W w3) := HB2.out.trans (hb3.mono HB2.out.size)
  clear hb3 HR2 HA2 HB2
  go_wp2_with fail
  refine (HK2.out w3).mono ?_
  rintro e w4 ⟨rfl, hb4⟩
  have HR4 : Hid (Blk w4 R #[.bool false, .int .i64 0, .slice none 0 0] 36) := HR3.out.below hb4
  have HA4 : Hid (Blk w4 A #[.bool true, .int .i64 0, .slice none 0 0] 36) := HA3.out.below hb4
  have HB4 : Hid (Below W.heap.size W w4) := HB3.out.trans (hb4.mono HB3.out.size)
  clear hb4 HR3 HA3 HB3
  have hz4 := HA4.out.cell 2
  go_wp2
  go_loopw [9] (fun i wr => ∃ (k : Nat) (S : Value), k ≤ n ∧ i = .int .i64 (lo + (k : Int)) ∧ Hid (Blk wr A #[.bool true, .int .i64 0, S] 36) ∧ Hid (Blk wr R #[.bool false, .int .i64 0, .slice none 0 0] 36) ∧ Hid (OwI wr S (l.take k)) ∧ Hid (∀ b, S.ownBlock = some b → A < b) ∧ Hid (Below W.heap.size W wr)) (fun i _ => n - (intOf i - lo).toNat)
  case atStart => exact ⟨0, .slice none 0 0, Nat.zero_le _, by simp, HA4, HR4, ⟨by simp, World.ownsRow_nil _ _ _ _⟩, fun b e => by (cases e), HB4⟩
  case round =>
    obtain ⟨k, S, hk, rfl, HA, HR, HS, HO, HB⟩ := hrel
    have hhi := HHI.out
    obtain ⟨sa, sc, rfl, _, _⟩ := HS.out.shape
    have hkl : ((l.take k).map fun x => [Value.int .i64 x]).length = k := by rw [List.length_map, List.length_take]; have := HN.out; omega
    rw [hkl] at HA HS HO
    by_cases hlt : k < n
    · have hle : lo + (k : Int) ≤ hi := by omega
      have hk64 : (k : Int) ≤ 64 := by omega
      have x2 := HA.out.cell 2
      have f2 := HA.out.frozen 2
      have hw1 : IntKind.i64.wrap (lo + (k : Int) + 1) = lo + (k : Int) + 1 := by rw [IntKind.wrap_i64]; omega
      have HOW : Hid (Ow (wr.alloc (Obj.cells #[.int .i64 (lo + (k : Int))] 2)) 2 (.slice sa k sc) 1 ((l.take k).map fun x => [Value.int .i64 x])) := HS.out.keep (fun g hg => Below.heap_alloc _ _ _ (HS.out.lt hg))
      have HRW : Hid (Blk (wr.alloc (Obj.cells #[.int .i64 (lo + (k : Int))] 2)) wr.heap.size #[.int .i64 (lo + (k : Int))] 2) := Blk.new _ _ _
      have HA5 : Hid (Blk (wr.alloc (Obj.cells #[.int .i64 (lo + (k : Int))] 2)) A #[.bool true, .int .i64 0, .slice sa k sc] 36) := HA.out.alloc _
      have HR5 : Hid (Blk (wr.alloc (Obj.cells #[.int .i64 (lo + (k : Int))] 2)) R #[.bool false, .int .i64 0, .slice none 0 0] 36) := HR.out.alloc _
      have HB5 : Hid (Below W.heap.size W (wr.alloc (Obj.cells #[.int .i64 (lo + (k : Int))] 2))) := HB.out.alloc HB.out.size _
      have HTK : Hid (l.take (k + 1) = l.take k ++ [lo + (k : Int)]) := by unfold Hid; rw [List.take_add_one, HAT.out k hlt]; rfl
      have HKL : Hid (((l.take k).map fun x => [Value.int .i64 x]).length = k) := hkl
      have HSZ : Hid (wr.heap.size ≤ (wr.alloc (Obj.cells #[.int .i64 (lo + (k : Int))] 2)).heap.size ∧ A < wr.heap.size) := ⟨by rw [World.size_alloc]; omega, HA.out.lt⟩
      clear hhi hkl HS HB HR
      go_wp2_with (at_builtin; refine list_app HOW.out 34 Tryz.underlying34 Tryz.info2 rfl (by decide) rfl (.tmp 39) (.tmp 41) rfl rfl ⟨wr.heap.size, 0, none⟩ 1 rfl [.int .i64 (lo + (k : Int))] rfl (fun j u hj => by rw [Addr.add_lit, Nat.zero_add, HRW.out.cell]; simpa using hj) (by intro u hu; rw [List.mem_singleton.1 hu]; rfl) (by rw [HKL.out]; omega) (by decide) ?_; intro v6 w6 h61 h62 h63; refine Hid.out ?_)
      refine (show Hid _ from ?_)
      unfold Hid
      have HA6 : Hid (Blk w6 A #[.bool true, .int .i64 0, .slice sa k sc] 36) := ⟨(h62.block A HA5.out.lt (fun e => by have := HO.out A e.symm; omega)).trans HA5.out.h⟩
      have HR6 : Hid (Blk w6 R #[.bool false, .int .i64 0, .slice none 0 0] 36) := ⟨(h62.block R HR5.out.lt (fun e => by have := HO.out R e.symm; have := HRA.out; omega)).trans HR5.out.h⟩
      have HB6 : Hid (Below W.heap.size W w6) := HB5.out.grown h62 HB5.out.size (fun b e => by have := HO.out b e; have := HRA.out; have := HWR.out.1; omega)
      have HS6 : Hid (OwI w6 v6 (l.take (k + 1))) := by unfold Hid OwI; rw [HTK.out, List.map_append]; exact h61
      have HO6 : Hid (∀ b, v6.ownBlock = some b → A < b) := fun b e => by
        rcases h63 b e with h | h
        · exact HO.out b h
        · have := HSZ.out; omega
      obtain ⟨va, vc, rfl, _, _⟩ := HS6.out.shape
      have hk1 : ((l.take (k + 1)).map fun x => [Value.int .i64 x]).length = k + 1 := by rw [List.length_map, List.length_take]; have := HN.out; omega
      rw [hk1] at HS6 HO6 ⊢
      obtain ⟨m, hm⟩ : ∃ m, k + 1 = m := ⟨_, rfl⟩
      have HM : Hid (k + 1 = m) := hm
      rw [hm] at HS6 HO6 ⊢
      have y2 := HA6.out.cell 2
      have g2 := HA6.out.frozen 2
      clear hk1 hm h61 h62 h63 HA5 HR5 HB5 HA HOW HRW
      go_wp2
      go_roundw
      case rel =>
        have hM := HM.out
        refine ⟨m, .slice va m vc, by omega, by go_num, HA6.out.set 2 _, HR6.out.other (by have := HRA.out; omega) 2 _, HS6.out.keep (fun g hg => Below.heap_setCell _ _ _ _ (by have := HO6.out g hg; show g ≠ A; omega)), HO6, HB6.out.setCell (by have := HRA.out; have := HWR.out.1; show W.heap.size ≤ A; omega) _⟩
      case measure => have hM := HM.out; simp [intOf]; omega
    · have hkn : k = n := by omega
      have hle : ¬ lo + (k : Int) ≤ hi := by omega
      have htk : l.take k = l := by rw [hkn, ← HN.out]; exact List.take_length
      subst hkn
      rw [htk] at HS
      have x0 := HA.out.cell 0
      have x1 := HA.out.cell 1
      have x2 := HA.out.cell 2
      have y0 := HR.out.cell 0
      have y1 := HR.out.cell 1
      have y2 := HR.out.cell 2
      have g0 := HR.out.frozen 0
      have g1 := HR.out.frozen 1
      have g2 := HR.out.frozen 2
      clear hhi htk hkl
      go_wp2
      have HF : Blk (((wr.setCell ⟨R, 0, none⟩ (.bool true)).setCell ⟨R, 1, none⟩ (.int .i64 0)).setCell ⟨R, 2, none⟩ (.slice sa k sc)) R #[.bool true, .int .i64 0, .slice sa k sc] 36 := ((HR.out.set 0 _).set 1 _).set 2 _
      have hne : ∀ g, (Value.slice sa k sc).ownBlock = some g → g ≠ R := fun g hg => by have := HO.out g hg; have := HRA.out; omega
      have hge : W.heap.size ≤ R := by rw [HWR.out.1]; exact Nat.le_refl _
      exact ⟨rfl, _, res_36 rfl _ HF rfl, _, rfl, OwI.si (((HS.out.keep (fun g hg => Below.heap_setCell _ _ _ _ (hne g hg))).keep (fun g hg => Below.heap_setCell _ _ _ _ (hne g hg))).keep (fun g hg => Below.heap_setCell _ _ _ _ (hne g hg))) (fun g hg => by have := HO.out g hg; have := HRA.out; omega), ((HB.out.setCell hge _).setCell hge _).setCell hge _⟩
end Go.Proofs.YtdnhhmnllhlbbaaGreatDoor
