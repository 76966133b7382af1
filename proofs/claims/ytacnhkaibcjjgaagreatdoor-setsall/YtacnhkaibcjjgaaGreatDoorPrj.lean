/-
  What is proved here: what the library's table reads as, and how a slice of ranges that came in is opened.
  What is proved here: the mathematics of SetsAlgebra.
-/
import Derived.Test.YtacnhkaibcjjgaaGreatDoorKmj
import Derived.Stop.LaidErr
import Derived.Test.YtacnhkaibcjjgaaGreatDoorRows
import Derived.Deep.SlicePairs
import Derived.Lib.LaidTab
import Derived.Lib.LaidU8
import Derived.SizedLaws
import Derived.WalkKit
import Derived.ProofKit
import Derived.LaidMore
import Derived.ChangeSlices
import Derived.ChangeOld
import Derived.OpenShut
import Derived.Stop.Joined
import Derived.Below
import Derived.Lay
import Derived.Test.YtacnhkaibcjjgaaGreatDoorSe
namespace Go.Proofs.YtacnhkaibcjjgaaGreatDoor
open Go.ChangeShapes Go.WideShapes Go.ChangeAt Go.RowKit Go.Deep
set_option linter.unusedVariables false
set_option linter.unusedSimpArgs false

theorem own : ownKnob Tryz.prog.godebug = none := by kernel_rfl
theorem laidOut : laidOutB Tryz.prog = true := by kernel_rfl
theorem gTen : Tryz.prog.globalNamed "internal/strconv.uint64pow10" = some 2 := by kernel_rfl
theorem tTen : (Tryz.prog.globals[2]?).map (·.type) = some 154 := by kernel_rfl
abbrev laidL : List (String × DataW Unit) := [("math/bits.deBruijn32tab", Rows.laid_math_bits_deBruijn32tab), ("math/bits.deBruijn64tab", Rows.laid_math_bits_deBruijn64tab), ("internal/strconv.uint64pow10", Rows.laid_internal_strconv_uint64pow10), ("unicode/utf8.acceptRanges", Rows.laid_unicode_utf8_acceptRanges), ("strconv.ErrRange", Rows.laid_strconv_ErrRange), ("strconv.ErrSyntax", Rows.laid_strconv_ErrSyntax), ("unicode/utf8.first", Rows.laid_unicode_utf8_first)]
theorem ten_is : (Rows.laid_internal_strconv_uint64pow10 : DataW Unit) = Lib.tabData .u64 Lib.pow10Tab := by rfl
theorem laid_plain (W : World) : laidMetH Tryz.prog laidL W = laidMet Tryz.prog laidL W := MakeChecks.laidMetH_plain _ _ _ (by kernel_rfl)
theorem of_laid {W : World} (h : laidMetH Tryz.prog laidL W) : Tens W.heap.size W := by
  rw [laid_plain] at h
  have h1 := Lib.laidMet.reads h (n := "internal/strconv.uint64pow10") (d := Rows.laid_internal_strconv_uint64pow10) (by simp)
  rw [ten_is] at h1
  refine Lib.tabBelow_of_tabIs ?_
  obtain ⟨g', t', cs, fuel, p, hg', ht', hvar, hd⟩ := h1
  obtain rfl := Option.some.inj (gTen.symm.trans hg')
  obtain rfl := Option.some.inj (tTen.symm.trans ht')
  unfold Lib.TabIs
  rw [hvar, ← Lib.cells_of_tab Tryz.underlying154 Tryz.underlying121 (by kernel_rfl) (by kernel_rfl) hd]
theorem maxl_of {W : World} (h : W.ShapedOpen Tryz.prog) : MaxL W := by
  obtain ⟨m, hm⟩ := Tryz.laysSplit.s1_3 W h
  have hm' : W.cell? ⟨3, 0, none⟩ = some (.int .i64 m) := hm
  refine ⟨?_, m, hm'⟩
  apply Classical.byContradiction
  intro hn
  have : W.heap[3]? = none := Array.getElem?_eq_none (by omega)
  simp [World.cell?, this] at hm'
theorem star : "*" ++ "errors.errorString" = "*errors.errorString" := by decide
theorem row169 (u : TypeId) (h : Tryz.prog.typeName? 3 u = some "*errors.errorString") : u = 169 :=
  typeName_ptr_named (nm := "errors.errorString") (by rw [star]; kernel_rfl) (by kernel_rfl) (by decide) u (by rw [star]; exact h)
theorem gRange : Tryz.prog.globalNamed "strconv.ErrRange" = some 1 := by kernel_rfl
theorem gSyntax : Tryz.prog.globalNamed "strconv.ErrSyntax" = some 0 := by kernel_rfl
theorem tRange : (Tryz.prog.globals[1]?).map (·.type) = some 69 := by kernel_rfl
theorem tSyntax : (Tryz.prog.globals[0]?).map (·.type) = some 69 := by kernel_rfl
theorem errv_of {W : World} (h : laidMetH Tryz.prog laidL W) : ErrV W := by
  rw [laid_plain] at h
  obtain ⟨a1, s1, hv1, _⟩ := laid_sentinel h.tail.tail.tail.tail gRange tRange Tryz.underlying69 row169 Tryz.underlying169 Tryz.underlying171 rfl rfl Tryz.underlying9 (by kernel_rfl) (by kernel_rfl)
  obtain ⟨a2, s2, hv2, _⟩ := laid_sentinel h.tail.tail.tail.tail.tail gSyntax tSyntax Tryz.underlying69 row169 Tryz.underlying169 Tryz.underlying171 rfl rfl Tryz.underlying9 (by kernel_rfl) (by kernel_rfl)
  have c1 : W.cell? ⟨1, 0, none⟩ = some (.iface 169 (.pointer (some a1))) := by have h0 := World.var?_cell gRange hv1 0; simpa using h0
  have c2 : W.cell? ⟨0, 0, none⟩ = some (.iface 169 (.pointer (some a2))) := by have h0 := World.var?_cell gSyntax hv2 0; simpa using h0
  refine ⟨?_, ⟨_, c2, .inr ⟨_, _, rfl⟩⟩, _, c1, .inr ⟨_, _, rfl⟩⟩
  apply Classical.byContradiction
  intro hn
  have : W.heap[1]? = none := Array.getElem?_eq_none (by omega)
  simp [World.cell?, this] at c1
set_option maxRecDepth 100000 in
theorem door_met (os : Os) (args : Array Value) : laidMetH Tryz.prog laidL ((World.laidAll Tryz.prog os laidL).forCall (fun _ _ => 0) ⟨#[], args, []⟩).memory := by
  rw [laid_plain]
  exact laidMet_laidAll _ (by kernel_rfl) (by kernel_rfl)

theorem laid_heap {w w' : World} (hh : w.heap = w'.heap) (h : laidMetH Tryz.prog laidL w) : laidMetH Tryz.prog laidL w' := h.of_heap hh
set_option maxRecDepth 100000 in
/-- A law of this program over listed variables, the world's shape at hand (the library reads a variable that the row does not list). -/
theorem returns_shaped {H : Type} {enc : TypeId × Value → H} {os : Os} {f : FuncId} {fn : Func} {s : ChangeSpec} (started : os.Started) (noInit : Tryz.checked.prog.inits.idxOf? f = none) (hfn : Tryz.checked.prog.funcs[f]? = some fn)
    (witness : ∃ (w : World) (tape : Tape) (i : Input), w.os = os ∧ (w.forCall tape i).Shaped Tryz.checked.prog ∧ i.vars = [] ∧ Input.okWide Tryz.checked.prog (w.forCall tape i) .any w.heap.size f i ∧
      ((s.pre enc Tryz.checked.prog fn [] false (w.forCall tape i).memory i.args ∧ laidMetH Tryz.prog laidL (w.forCall tape i).memory) ∧ sizedMet enc Tryz.checked.prog fn (OpenSpec.ofChange s) false (w.forCall tape i).memory i.args) ∧ ({} : Assume).holds Tryz.checked.prog (lone (Frame.enter Tryz.checked.prog f i.args .normal) [] (w.forCall tape i)))
    (contract : ∀ (W : World) (base : Nat) (args : Array Value) (ds gs : List (DataW H)) (before : List MemPlace),
      (∀ (j : Nat) t v, fn.params[j]? = some t → args[j]? = some v → Value.okWide Tryz.checked.prog W .any base t v) → DataW.Whole enc Tryz.checked.prog fn.params.toList s.vars false W args.toList ds gs before →
      (DataW.weightsEach Tryz.checked.prog (fn.params.toList ++ s.plain.varTypes Tryz.checked.prog) (ds ++ gs)).all (· ≤ reachBytes) = true → laidMetH Tryz.prog laidL W → W.ShapedOpen Tryz.prog →
      Calls Tryz.checked.prog f args W fun e W' => ∃ v, e = .returned v ∧ s.post enc Tryz.checked.prog fn false true false false W args v W') :
    ReturnsInHanded {} Tryz.checked os f .any (fun w args => (s.pre enc Tryz.checked.prog fn [] false w args ∧ laidMetH Tryz.prog laidL w) ∧ sizedMet enc Tryz.checked.prog fn (OpenSpec.ofChange s) false w args) (s.post enc Tryz.checked.prog fn false true false false) := by
  refine returnsInHanded_of_calls own started noInit witness ?_
  intro w tape i _ hsh _ hok hpre _
  obtain ⟨_, _, _, fn', hfn', _, _, _, _, hval⟩ := hok
  obtain rfl : fn' = fn := Option.some.inj (hfn'.symm.trans hfn)
  obtain ⟨⟨⟨ds, gs, before, hw, _⟩, hx⟩, hz⟩ := hpre
  have hx' : laidMetH Tryz.prog laidL (w.forCall tape i) := laid_heap (w := (w.forCall tape i).memory) rfl hx
  refine (contract (w.forCall tape i) w.heap.size i.args ds gs before hval (DataW.Whole.of_heap (w' := w.forCall tape i) (by rfl) hw) (hz.weights hw) hx' hsh).mono ?_
  rintro e W' ⟨v, rfl, hp⟩
  exact ChangeSpec.post_blind hp

theorem ints_in {H : Type} {enc : TypeId × Value → H} {W : World} {a : Option Addr} {len cap : Nat} {d : DataW H} {p : List MemPlace}
    (h : ∃ fuel, DataW.trod enc Tryz.prog W 0 (fun _ => true) true fuel 22 (Value.slice a len cap).cells.toList = some (d, p)) (lt0 : ∀ y ∈ p, y.block < W.heap.size) : ∃ l, Si W (.slice a len cap) l := by
  obtain ⟨fuel, hf⟩ := h
  rcases open_ints Tryz.underlying22 Tryz.underlying2 (by kernel_rfl) hf with ⟨hcs, _⟩ | ⟨x, l, c, zs, hcs, _, hl, hm, hz, hx, hcell, hwz⟩
  · simp [Value.cells] at hcs
    obtain ⟨rfl, rfl, rfl⟩ := hcs
    exact ⟨[], ⟨none, 0, rfl, fun h => absurd h (by decide)⟩⟩
  · simp [Value.cells] at hcs
    obtain ⟨rfl, rfl, rfl⟩ := hcs
    simp only [Prod.mk.injEq] at hx
    simp only [if_true] at hz
    have hlen : (zs.take len).length = len := by rw [List.length_take]; omega
    refine ⟨zs.take len, ⟨some x, cap, by rw [hlen], fun h => ?_⟩⟩
    rw [hlen] at h
    obtain ⟨b, off, spot⟩ := x
    have hspot : spot = none := by simpa [Addr.add] using World.cell?_spot (hcell 0 (by omega))
    subst hspot
    have hbW : b < W.heap.size := lt0 (.cell b off) (by rw [hx.2]; exact MemPlace.mem_row.2 ⟨0, by omega, by simp⟩)
    refine ⟨b, off, rfl, hbW, fun i hi => ?_⟩
    rw [hlen] at hi
    unfold nth
    rw [List.getD_eq_getElem?_getD, List.getElem?_take_of_lt hi]
    have := hcell i (by omega)
    rw [List.getD_eq_getElem?_getD, Addr.add_lit] at this
    exact this
end Go.Proofs.YtacnhkaibcjjgaaGreatDoor

namespace Go.Proofs.YtacnhkaibcjjgaaGreatDoor
open Go.RowKit Go.Shelf
set_option linter.unusedVariables false
set_option linter.unusedSimpArgs false

theorem cmp_neg : ∀ a b, cmpL a b = -cmpL b a
  | [], [] => rfl
  | [], _ :: _ => rfl
  | _ :: _, [] => rfl
  | x :: a, y :: b => by
    unfold cmpL
    have := cmp_neg a b
    split <;> split <;> first | omega | (split <;> omega) | skip
    all_goals (first | omega | rfl | (rw [if_neg (by omega)]; first | rfl | omega))
theorem cmp_zero : ∀ a b, cmpL a b = 0 → a = b
  | [], [], _ => rfl
  | [], _ :: _, h => by simp [cmpL] at h
  | _ :: _, [], h => by simp [cmpL] at h
  | x :: a, y :: b, h => by
    unfold cmpL at h
    split at h
    · omega
    · split at h
      · omega
      · have := cmp_zero a b h
        rw [this, show x = y by omega]
theorem cmp_trans : ∀ a b c, cmpL a b ≤ 0 → cmpL b c ≤ 0 → cmpL a c ≤ 0
  | [], _, [], _, _ => by simp [cmpL]
  | [], _, _ :: _, _, _ => by simp [cmpL]
  | _ :: _, [], _, h, _ => by simp [cmpL] at h
  | _ :: _, _ :: _, [], _, h => by simp [cmpL] at h
  | x :: a, y :: b, z :: c, h1, h2 => by
    have ih := cmp_trans a b c
    unfold cmpL at h1 h2 ⊢
    split at h1 <;> split at h2 <;> (try split at h1) <;> (try split at h2) <;> (try omega)
    all_goals (split <;> first | omega | (split <;> first | omega | (apply ih <;> omega)) | skip)
theorem cmp_range : ∀ a b, -1 ≤ cmpL a b ∧ cmpL a b ≤ 1
  | [], [] => by simp [cmpL]
  | [], _ :: _ => by simp [cmpL]
  | _ :: _, [] => by simp [cmpL]
  | x :: a, y :: b => by
    unfold cmpL
    have := cmp_range a b
    split
    · omega
    · split <;> omega

theorem set_pw {l : List Int} (h : IsSet l) : l.Pairwise (· < ·) := by
  rw [List.pairwise_iff_getElem]
  have step : ∀ d i, i + d + 1 < l.length → nth l i < nth l (i + d + 1) := by
    intro d
    induction d with
    | zero => intro i hi; have := (h.2 (i + 1) hi).2.2 (by omega); simpa using this
    | succ d ih => intro i hi; have h1 := ih i (by omega); have h2 := (h.2 (i + (d + 1) + 1) hi).2.2 (by omega); simp only [Nat.add_sub_cancel] at h2; exact Int.lt_trans (by simpa [Nat.add_assoc] using h1) h2
  intro i j hi hj hij
  have := step (j - i - 1) i (by omega)
  rw [show i + (j - i - 1) + 1 = j by omega] at this
  simpa [nth, hi, hj] using this
theorem set_of {l : List Int} (hl : l.length ≤ 64) (hb : ∀ x ∈ l, -1000000 ≤ x ∧ x ≤ 1000000) (hp : l.Pairwise (· < ·)) : IsSet l := by
  refine ⟨hl, fun i hi => ?_⟩
  have e : ∀ k (hk : k < l.length), nth l k = l[k] := fun k hk => by simp [nth, hk]
  have hm := hb l[i] (List.getElem_mem hi)
  refine ⟨by rw [e i hi]; exact hm.1, by rw [e i hi]; exact hm.2, fun h0 => ?_⟩
  rw [e i hi, e (i - 1) (by omega)]
  exact List.pairwise_iff_getElem.1 hp (i - 1) i (by omega) hi (by omega)
theorem set_mem {l : List Int} (h : IsSet l) : ∀ x ∈ l, -1000000 ≤ x ∧ x ≤ 1000000 := by
  intro x hx
  obtain ⟨i, hi, rfl⟩ := List.getElem_of_mem hx
  have := h.2 i hi
  unfold SetAt at this
  simp only [nth, List.getD_eq_getElem?_getD, List.getElem?_eq_getElem hi, Option.getD_some] at this
  exact ⟨this.1, this.2.1⟩
theorem set_filter {l : List Int} (h : IsSet l) (f : Int → Bool) : IsSet (l.filter f) :=
  set_of (Nat.le_trans (List.length_filter_le _ _) h.1) (fun x hx => set_mem h x (List.mem_filter.1 hx).1) ((set_pw h).filter _)
theorem sort_pw (l : List Int) : (sortL l).Pairwise (· ≤ ·) := by
  have := List.pairwise_mergeSort (le := fun x y : Int => decide (x ≤ y)) (by simp; omega) (by simp; omega) l
  exact this.imp (by simp)
theorem join_less {a b : List Int} (ha : IsSet a) (hb : IsSet b) (hj : IsSet (joinL a b)) : lessL (joinL a b) (meetL a b) = symL a b := by
  refine List.Perm.eq_of_pairwise (le := (· ≤ ·)) (fun x y _ _ h1 h2 => by omega) (((set_pw hj).filter _).imp (by omega)) (sort_pw _) ?_
  have p1 : (lessL (joinL a b) (meetL a b)).Perm ((a ++ lessL b a).filter fun x => !(meetL a b).contains x) := (List.mergeSort_perm _ _).filter _
  have p2 : (symL a b).Perm (lessL a b ++ lessL b a) := List.mergeSort_perm _ _
  refine p1.trans (List.Perm.trans ?_ p2.symm)
  rw [List.filter_append]
  have e1 : (a.filter fun x => !(meetL a b).contains x) = lessL a b := by
    unfold lessL
    apply List.filter_congr
    intro x hx
    simp [meetL, hx]
  have e2 : ((lessL b a).filter fun x => !(meetL a b).contains x) = lessL b a := by
    rw [List.filter_eq_self]
    intro x hx
    have := (List.mem_filter.1 hx).2
    simp at this
    simp [meetL, this]
  rw [e1, e2]
theorem sub_meet (a b : List Int) : subB (meetL a b) a = true := by
  have : lessL (meetL a b) a = [] := by
    unfold lessL
    rw [List.filter_eq_nil_iff]
    intro x hx
    have := (List.mem_filter.1 hx).1
    simp [this]
  unfold subB; rw [this]; rfl
theorem sub_join (a b : List Int) : subB a (joinL a b) = true := by
  have : lessL a (joinL a b) = [] := by
    unfold lessL
    rw [List.filter_eq_nil_iff]
    intro x hx
    have h : x ∈ joinL a b := (List.mergeSort_perm _ _).mem_iff.2 (List.mem_append_left _ hx)
    simp [h]
  unfold subB; rw [this]; rfl
end Go.Proofs.YtacnhkaibcjjgaaGreatDoor
