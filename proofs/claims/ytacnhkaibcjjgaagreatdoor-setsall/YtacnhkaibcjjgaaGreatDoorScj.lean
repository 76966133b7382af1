/-
  What is proved here: what sets.picked, Less and Meet answer of any sets.
  DERIVED: THE SHELF's CONTRACTS AT THIS DUMP, IN PLAIN WORDS (tools/lay-plain.mjs out of 'SetsLayB.lean', which tools/lay-shelf.mjs wrote): THE SAME DECLARATIONS UNDER THE SAME NAMES: 'import', 'namespace', 'open', 'def', 'theorem' AND NOTHING ELSE: no command of the shelf's: FOR A HAND-IN. Each laying: the table of numbers ('.._ren') and one theorem, a field a fact of the dump's own or the kernel's comparison; each contract: ONE APPLICATION.
-/
import Derived.Test.YtacnhkaibcjjgaaGreatDoorSb
import Derived.Shelf.SortG.Plain
import Derived.Shelf.SortG.SortNone
import Derived.Ground.SlgnProg
import Derived.Shelf.SlGeneric
import Derived.Test.YtacnhkaibcjjgaaGreatDoorProg
namespace Go.Proofs.YtacnhkaibcjjgaaGreatDoor
open Go.RowKit Go.Shelf
set_option linter.unusedVariables false
set_option linter.unusedSimpArgs false

theorem Tryz.info95 : (Tryz.prog.info? 95).map (fun i => (i.zero, i.size)) = some (some (.agg (Array.replicate 64 (.int .i64 0))), 64) := by kernel_rfl
/-- 64 numbers, of which the first are these. -/
def rowI (xs : List Int) : Array Value := ((List.range 64).map fun j => Value.int .i64 (nth xs j)).toArray
theorem rowI_size (xs : List Int) : (rowI xs).size = 64 := by simp [rowI]
theorem rowI_get (xs : List Int) (k : Nat) (h : k < 64) : (rowI xs)[k]? = some (.int .i64 (nth xs k)) := by simp [rowI, h]
theorem rowI_nil : rowI [] = Array.replicate 64 (.int .i64 0) := by
  apply Array.ext_getElem?
  intro j
  by_cases hj : j < 64
  · rw [rowI_get _ j hj]; simp [hj, nth]
  · rw [Array.getElem?_eq_none (by simp [rowI_size]; omega), Array.getElem?_eq_none (by simp; omega)]
theorem rowI_snoc (xs : List Int) (v : Int) : (rowI xs).setIfInBounds xs.length (.int .i64 v) = rowI (xs ++ [v]) := by
  apply Array.ext_getElem?
  intro j
  by_cases hj : j < 64
  · rw [rowI_get _ j hj, Array.getElem?_setIfInBounds]
    by_cases h : xs.length = j
    · subst h; simp [rowI_size, hj, nth]
    · rw [if_neg h, rowI_get _ j hj]
      congr 2
      unfold nth
      simp only [List.getD_eq_getElem?_getD]
      by_cases hl : j < xs.length
      · rw [List.getElem?_append_left hl]
      · rw [List.getElem?_eq_none (by omega), List.getElem?_eq_none (by simp; omega)]
  · rw [Array.getElem?_eq_none (by simp [rowI_size]; omega), Array.getElem?_eq_none (by simp [rowI_size]; omega)]
/-- Those of the first k of which f says what is wanted. -/
def pickL (l : List Int) (f : Nat → Bool) (wanted : Bool) (k : Nat) : List Int := ((List.range k).filter fun j => f j == wanted).map (nth l)
theorem pickL_succ (l : List Int) (f : Nat → Bool) (wanted : Bool) (k : Nat) : pickL l f wanted (k + 1) = pickL l f wanted k ++ (if f k == wanted then [nth l k] else []) := by
  unfold pickL
  rw [List.range_succ, List.filter_append, List.map_append]
  congr 1
  by_cases h : (f k == wanted) = true
  · simp [List.filter_cons, h]
  · simp [List.filter_cons, h]
theorem pickL_le (l : List Int) (f : Nat → Bool) (wanted : Bool) (k : Nat) : (pickL l f wanted k).length ≤ k := by
  unfold pickL
  rw [List.length_map]
  exact Nat.le_trans (List.length_filter_le _ _) (by simp)
/-- A slice in new memory with these numbers. -/
def Fresh (B : Nat) (W : World) (s : Value) (l : List Int) : Prop :=
  ∃ A off cap cur t, s = .slice (some ⟨A, off, none⟩) l.length cap ∧ B ≤ A ∧ A < W.heap.size ∧ W.heap[A]? = some (.cells cur t (0, 0)) ∧ ∀ i, i < l.length → cur[off + i]? = some (.int .i64 (nth l i))
theorem Fresh.si {B : Nat} {W : World} {s : Value} {l : List Int} (h : Fresh B W s l) : Si W s l := by
  obtain ⟨A, off, cap, cur, t, rfl, hB, hA, hh, hc⟩ := h
  refine ⟨_, cap, rfl, fun _ => ⟨A, off, rfl, hA, fun i hi => ?_⟩⟩
  simp only [World.cell?, hh]
  rw [if_neg (by simp)]
  exact hc i hi

set_option maxRecDepth 100000 in
set_option maxHeartbeats 2000000 in
theorem picked_any (s : Value) (l : List Int) (f : Nat → Bool) (wanted : Bool) (W : World) (h : Si W s l) (hlen : l.length ≤ 64) :
    Calls Tryz.prog 62 #[s, .agg (bits64 f), .bool wanted] W fun e w' => ∃ v, e = .returned v ∧ Fresh W.heap.size w' v (pickL l f wanted l.length) ∧ Below W.heap.size W w' := by
  obtain ⟨a1, c1, rfl, hc1⟩ := h
  obtain ⟨n, hn⟩ : ∃ n, l.length = n := ⟨_, rfl⟩
  have HN : Hid (l.length = n) := hn
  rw [hn] at hc1 hlen ⊢
  have HC : Hid _ := hc1
  obtain ⟨hz, hzs⟩ := zero_of_info Tryz.info95
  rw [← rowI_nil] at hz
  obtain ⟨Z, hZ⟩ : ∃ Z : Array Value, rowI [] = Z := ⟨_, rfl⟩
  rw [hZ] at hz
  have HZ : Hid (rowI [] = Z) := hZ
  have hone := bits64_one f
  have hget := bits64_get f
  obtain ⟨F, hF⟩ : ∃ F, bits64 f = F := ⟨_, rfl⟩
  rw [hF] at hone hget ⊢
  have HG : Hid _ := hget
  clear hn hc1 hZ hzs hget hF
  go_enter Tryz.func62, Tryz.ntmps62
  go_wp2
  have hB0 : Below W.heap.size W ((W.alloc (Obj.cells F 62)).alloc (Obj.cells Z 95)) := ((Below.refl _ W).alloc (Nat.le_refl _) _).alloc (by simp) _
  have HR1 : Hid (((W.alloc (Obj.cells F 62)).alloc (Obj.cells Z 95)).heap[W.heap.size]? = some (.cells F 62 (0, 0))) := (Below.heap_alloc _ _ _ (by simp)).trans (World.alloc_heap_new W _)
  have HR2 : Hid (((W.alloc (Obj.cells F 62)).alloc (Obj.cells Z 95)).heap[W.heap.size + 1]? = some (.cells Z 95 (0, 0))) := by
    have := World.alloc_heap_new (W.alloc (Obj.cells F 62)) (Obj.cells Z 95); rwa [World.size_alloc] at this
  go_loopw [8, 13] (fun c i wr => ∃ k q : Nat, k ≤ n ∧ i = .int .i64 k ∧ c = .int .i64 q ∧ q ≤ k ∧ Hid (q = (pickL l f wanted k).length) ∧ Hid (wr.heap[W.heap.size]? = some (.cells F 62 (0, 0))) ∧ Hid (wr.heap[W.heap.size + 1]? = some (.cells (rowI (pickL l f wanted k)) 95 (0, 0))) ∧ Below W.heap.size W wr) (fun _ i _ => n - (intOf i).toNat)
  case atStart => exact ⟨0, 0, Nat.zero_le _, rfl, rfl, Nat.le_refl _, rfl, HR1.out, by unfold Hid; rw [HR2.out, ← HZ.out]; rfl, hB0⟩
  case round =>
    obtain ⟨k, q, hk, rfl, rfl, hqk, HQ, H1, H2, hB⟩ := hrel
    clear HR1 HR2 hB0
    by_cases hlt : k < n
    · obtain ⟨b1, off, rfl, hb1, hcell⟩ := HC.out (by omega)
      have d1 := (hB.cell (p := ⟨b1, off + k, none⟩) hb1).trans (hcell k hlt)
      have hlt' : (k : Int) < (n : Int) := by omega
      obtain ⟨x, hx⟩ : ∃ x, nth l k = x := ⟨_, rfl⟩
      have HX : Hid (nth l k = x) := hx
      rw [hx] at d1
      clear hcell hx
      have hk64 : k < 64 := by omega
      have hk64' : (k : Int) < 64 := by omega
      have hq64' : (q : Int) < 64 := by omega
      have c1 : wr.cell? ⟨W.heap.size, k, none⟩ = some (.bool (f k)) := by simp only [World.cell?, H1.out]; rw [if_neg (by simp)]; exact HG.out k hk64
      have c2 : wr.cell? ⟨W.heap.size + 1, q, none⟩ = some (.int .i64 (nth (pickL l f wanted k) q)) := by simp only [World.cell?, H2.out]; rw [if_neg (by simp)]; exact rowI_get _ q (by omega)
      have f2 : wr.frozen? ⟨W.heap.size + 1, q, none⟩ = false := by simp [World.frozen?, H2.out]
      have HS := pickL_succ l f wanted k
      have HSS : Hid (pickL l f wanted (k + 1) = pickL l f wanted k ++ (if f k == wanted then [nth l k] else [])) := HS
      obtain ⟨y, hy⟩ : ∃ y, nth (pickL l f wanted k) q = y := ⟨_, rfl⟩
      rw [hy] at c2
      clear HS hy
      obtain ⟨fk, hfk⟩ : ∃ fk, f k = fk := ⟨_, rfl⟩
      rw [hfk] at c1 HSS
      clear hfk
      by_cases he : fk = wanted
      · subst he
        rw [if_pos (by simp)] at HSS
        go_wp2
        go_roundw
        case rel =>
          refine ⟨k + 1, q + 1, by omega, by go_num, by go_num, by omega, ?_, ?_, ?_, hB.setCell (p := ⟨W.heap.size + 1, q, none⟩) (by show W.heap.size ≤ W.heap.size + 1; omega) _⟩
          · unfold Hid; rw [HSS.out, List.length_append, ← HQ.out]; rfl
          · unfold Hid; rw [heap_setCell_other _ _ _ _ (by simp)]; exact H1.out
          · unfold Hid; rw [row_set H2.out, HQ.out, rowI_snoc, HSS.out, HX.out]
        case measure => simp [intOf]; omega
      · rw [if_neg (by simpa using he)] at HSS
        have he1 : (fk == wanted) = false := by simpa using he
        go_wp2
        go_roundw
        case rel =>
          refine ⟨k + 1, q, by omega, by go_num, rfl, by omega, ?_, H1.out, ?_, hB⟩
          · unfold Hid; rw [HSS.out, List.append_nil]; exact HQ.out
          · unfold Hid; rw [HSS.out, List.append_nil]; exact H2.out
        case measure => simp [intOf]; omega
    · obtain rfl : k = n := by omega
      have hlt' : ¬ (k : Int) < (k : Int) := by omega
      have hq64 : q ≤ 64 := by omega
      have hq64' : (q : Int) ≤ 64 := by omega
      go_wp2
      go_ret
      refine ⟨_, rfl, ⟨W.heap.size + 1, 0, q, _, 95, by rw [← HQ.out]; rfl, by omega, ?_, H2.out, fun i hi => ?_⟩, hB⟩
      · exact (Array.getElem?_eq_some_iff.1 H2.out).1
      · rw [Nat.zero_add]; exact rowI_get _ i (by rw [← HQ.out] at hi; omega)

/-- The elements of a that are not in b; those that are. -/
def lessL (a b : List Int) : List Int := a.filter fun x => !b.contains x
def meetL (a b : List Int) : List Int := a.filter fun x => b.contains x
theorem list_nth (a : List Int) : (List.range a.length).map (nth a) = a := by
  refine List.ext_getElem? fun i => ?_
  by_cases h : i < a.length
  · simp [h, nth]
  · rw [List.getElem?_eq_none (by simp; omega), List.getElem?_eq_none (by omega)]
theorem pickL_filter (a b : List Int) (w : Bool) : pickL a (sharedF a b a.length) w a.length = a.filter fun x => b.contains x == w := by
  have e : a.filter (fun x => b.contains x == w) = ((List.range a.length).map (nth a)).filter (fun x => b.contains x == w) := by rw [list_nth]
  rw [e, List.filter_map]
  unfold pickL
  congr 1
  refine List.filter_congr fun j hj => ?_
  have := List.mem_range.1 hj
  simp [sharedF, this]
theorem lessL_is (a b : List Int) : pickL a (sharedF a b a.length) false a.length = lessL a b := by
  rw [pickL_filter]; unfold lessL
  refine List.filter_congr fun x _ => ?_
  cases b.contains x <;> rfl
theorem meetL_is (a b : List Int) : pickL a (sharedF a b a.length) true a.length = meetL a b := by
  rw [pickL_filter]; unfold meetL
  refine List.filter_congr fun x _ => ?_
  cases b.contains x <;> rfl

set_option maxHeartbeats 1000000 in
theorem less_any (s1 s2 : Value) (a b : List Int) (W : World) (h1 : Si W s1 a) (h2 : Si W s2 b) :
    Calls Tryz.prog 12 #[s1, s2] W fun e w' => ∃ v, e = .returned v ∧ Fresh W.heap.size w' v (lessL (tkS a) (tkS b)) ∧ Below W.heap.size W w' := by
  have hk1 := known_any s1 a W h1
  have hk2 := fun X (hX : Below W.heap.size W X) => known_any s2 b X (h2.below hX)
  have h1' := h1
  have h2' := h2
  obtain ⟨a1, c1, rfl, _⟩ := h1'
  obtain ⟨a2, c2, rfl, _⟩ := h2'
  clear h1 h2
  go_enter Tryz.func12, Tryz.ntmps12
  go_wp2_with fail
  refine hk1.mono ?_
  rintro e w1 ⟨a3, n3, c3, rfl, HS1, HN1, m1, rfl⟩
  have hB1 : Below W.heap.size W (W.drewN m1) := below_drewN (Below.refl _ _) _
  have hS1 := HS1.out.below hB1
  have hk2' := hk2 _ hB1
  clear hk1 hk2
  go_wp2_with fail
  refine hk2'.mono ?_
  rintro e w2 ⟨a4, n4, c4, rfl, HS2, HN2, m2, rfl⟩
  have hB2 : Below (W.drewN m1).heap.size (W.drewN m1) ((W.drewN m1).drewN m2) := below_drewN (Below.refl _ _) _
  have hB2' : Below W.heap.size W ((W.drewN m1).drewN m2) := below_drewN hB1 _
  have hsh := shared_any _ _ (tkS a) (tkS b) _ (hS1.below hB2) (HS2.out.below hB2) (tkS_set a) (tkS_set b)
  have hS1' := hS1.below hB2
  obtain ⟨X2, hX2⟩ : ∃ X, (W.drewN m1).drewN m2 = X := ⟨_, rfl⟩
  have hsz : X2.heap.size = W.heap.size := by rw [← hX2]; rfl
  rw [hX2] at hsh hS1' hB2' ⊢
  clear hk2' hB1 hB2 hS1 hX2 HS1 HS2
  go_wp2_with fail
  refine hsh.mono ?_
  rintro e w3 ⟨rfl, hb3⟩
  have hp := picked_any _ (tkS a) (sharedF (tkS a) (tkS b) (tkS a).length) false w3 (hS1'.below hb3) (tkS_set a).1
  rw [lessL_is] at hp
  have hB3 : Below W.heap.size W w3 := hB2'.trans (hb3.mono hB2'.size)
  clear hsh hS1' hb3
  go_wp2_with fail
  refine hp.mono ?_
  rintro e w4 ⟨v, rfl, hF, hb4⟩
  obtain ⟨A, off, cap, cur, t, rfl, r⟩ := hF
  go_wp2
  go_ret
  refine ⟨_, rfl, ⟨A, off, cap, cur, t, rfl, Nat.le_trans hB3.size r.1, r.2⟩, hB3.trans (hb4.mono hB3.size)⟩

set_option maxHeartbeats 1000000 in
theorem meet_any (s1 s2 : Value) (a b : List Int) (W : World) (h1 : Si W s1 a) (h2 : Si W s2 b) :
    Calls Tryz.prog 11 #[s1, s2] W fun e w' => ∃ v, e = .returned v ∧ Fresh W.heap.size w' v (meetL (tkS a) (tkS b)) ∧ Below W.heap.size W w' := by
  have hk1 := known_any s1 a W h1
  have hk2 := fun X (hX : Below W.heap.size W X) => known_any s2 b X (h2.below hX)
  have h1' := h1
  have h2' := h2
  obtain ⟨a1, c1, rfl, _⟩ := h1'
  obtain ⟨a2, c2, rfl, _⟩ := h2'
  clear h1 h2
  go_enter Tryz.func11, Tryz.ntmps11
  go_wp2_with fail
  refine hk1.mono ?_
  rintro e w1 ⟨a3, n3, c3, rfl, HS1, HN1, m1, rfl⟩
  have hB1 : Below W.heap.size W (W.drewN m1) := below_drewN (Below.refl _ _) _
  have hS1 := HS1.out.below hB1
  have hk2' := hk2 _ hB1
  clear hk1 hk2
  go_wp2_with fail
  refine hk2'.mono ?_
  rintro e w2 ⟨a4, n4, c4, rfl, HS2, HN2, m2, rfl⟩
  have hB2 : Below (W.drewN m1).heap.size (W.drewN m1) ((W.drewN m1).drewN m2) := below_drewN (Below.refl _ _) _
  have hB2' : Below W.heap.size W ((W.drewN m1).drewN m2) := below_drewN hB1 _
  have hsh := shared_any _ _ (tkS a) (tkS b) _ (hS1.below hB2) (HS2.out.below hB2) (tkS_set a) (tkS_set b)
  have hS1' := hS1.below hB2
  obtain ⟨X2, hX2⟩ : ∃ X, (W.drewN m1).drewN m2 = X := ⟨_, rfl⟩
  have hsz : X2.heap.size = W.heap.size := by rw [← hX2]; rfl
  rw [hX2] at hsh hS1' hB2' ⊢
  clear hk2' hB1 hB2 hS1 hX2 HS1 HS2
  go_wp2_with fail
  refine hsh.mono ?_
  rintro e w3 ⟨rfl, hb3⟩
  have hp := picked_any _ (tkS a) (sharedF (tkS a) (tkS b) (tkS a).length) true w3 (hS1'.below hb3) (tkS_set a).1
  rw [meetL_is] at hp
  have hB3 : Below W.heap.size W w3 := hB2'.trans (hb3.mono hB2'.size)
  clear hsh hS1' hb3
  go_wp2_with fail
  refine hp.mono ?_
  rintro e w4 ⟨v, rfl, hF, hb4⟩
  obtain ⟨A, off, cap, cur, t, rfl, r⟩ := hF
  go_wp2
  go_ret
  refine ⟨_, rfl, ⟨A, off, cap, cur, t, rfl, Nat.le_trans hB3.size r.1, r.2⟩, hB3.trans (hb4.mono hB3.size)⟩
end Go.Proofs.YtacnhkaibcjjgaaGreatDoor

namespace Go.Proofs
set_option linter.unusedSimpArgs false
set_option linter.unusedVariables false
open Go.Shelf
def Tryz.laysSort_ren : Go.Shelf.Ren := ⟨fun | 53 => 89 | 64 => 110 | 63 => 109 | 78 => 137 | 79 => 138 | 70 => 129 | 71 => 130 | 72 => 131 | 73 => 132 | 74 => 133 | 75 => 134 | 59 => 103 | 76 => 135 | 77 => 136 | 88 => 154 | 89 => 155 | 90 => 156 | 91 => 157 | 92 => 158 | 68 => 128 | 96 => 168 | n => n, fun | 22 => 22 | 23 => 2 | 3 => 3 | 51 => 106 | 0 => 0 | 67 => 142 | 69 => 121 | 4 => 4 | 61 => 136 | 60 => 135 | 44 => 77 | 5 => 5 | 9 => 9 | 75 => 157 | 79 => 161 | 83 => 172 | 84 => 173 | n => n, fun | n => n⟩
theorem Tryz.laysSort : Go.Proofs.SlLaysN.n53 Tryz.prog Tryz.laysSort_ren := {
  mixed := by kernel_rfl
  f53 := ⟨Tryz.f89.name, by decide, Tryz.func89.trans (congrArg some (by kernel_rfl))⟩
  f59 := ⟨Tryz.f103.name, by decide, Tryz.func103.trans (congrArg some (by kernel_rfl))⟩
  f63 := ⟨Tryz.f109.name, by decide, Tryz.func109.trans (congrArg some (by kernel_rfl))⟩
  f64 := Tryz.func110.trans (congrArg some (by kernel_rfl))
  f68 := ⟨Tryz.f128.name, by decide, Tryz.func128.trans (congrArg some (by kernel_rfl))⟩
  f70 := ⟨Tryz.f129.name, by decide, Tryz.func129.trans (congrArg some (by kernel_rfl))⟩
  f71 := ⟨Tryz.f130.name, by decide, Tryz.func130.trans (congrArg some (by kernel_rfl))⟩
  f72 := ⟨Tryz.f131.name, by decide, Tryz.func131.trans (congrArg some (by kernel_rfl))⟩
  f73 := ⟨Tryz.f132.name, by decide, Tryz.func132.trans (congrArg some (by kernel_rfl))⟩
  f74 := ⟨Tryz.f133.name, by decide, Tryz.func133.trans (congrArg some (by kernel_rfl))⟩
  f75 := ⟨Tryz.f134.name, by decide, Tryz.func134.trans (congrArg some (by kernel_rfl))⟩
  f76 := ⟨Tryz.f135.name, by decide, Tryz.func135.trans (congrArg some (by kernel_rfl))⟩
  f77 := ⟨Tryz.f136.name, by decide, Tryz.func136.trans (congrArg some (by kernel_rfl))⟩
  f78 := Tryz.func137.trans (congrArg some (by kernel_rfl))
  f79 := Tryz.func138.trans (congrArg some (by kernel_rfl))
  f88 := ⟨Tryz.f154.name, by decide, Tryz.func154.trans (congrArg some (by kernel_rfl))⟩
  f89 := Tryz.func155.trans (congrArg some (by kernel_rfl))
  f90 := Tryz.func156.trans (congrArg some (by kernel_rfl))
  f91 := ⟨Tryz.f157.name, by decide, Tryz.func157.trans (congrArg some (by kernel_rfl))⟩
  f92 := ⟨Tryz.f158.name, by decide, Tryz.func158.trans (congrArg some (by kernel_rfl))⟩
  f96 := ⟨Tryz.f168.name, by decide, Tryz.func168.trans (congrArg some (by kernel_rfl))⟩
  t0 := Tryz.underlying0
  a0 := Tryz.isAgg0
  z0 := Tryz.sizeOf0
  v0 := Tryz.zeroValue0
  t3 := Tryz.underlying3
  a3 := Tryz.isAgg3
  z3 := Tryz.sizeOf3
  v3 := Tryz.zeroValue3
  t4 := Tryz.underlying4
  a4 := Tryz.isAgg4
  z4 := Tryz.sizeOf4
  v4 := Tryz.zeroValue4
  t5 := Tryz.underlying5
  a5 := Tryz.isAgg5
  z5 := Tryz.sizeOf5
  v5 := Tryz.zeroValue5
  t9 := Tryz.underlying9
  a9 := Tryz.isAgg9
  z9 := Tryz.sizeOf9
  v9 := Tryz.zeroValue9
  t22 := Tryz.underlying22
  a22 := Tryz.isAgg22
  z22 := Tryz.sizeOf22
  v22 := Tryz.zeroValue22
  t23 := Tryz.underlying2
  a23 := Tryz.isAgg2
  z23 := Tryz.sizeOf2
  v23 := Tryz.zeroValue2
  t44 := Tryz.underlying77
  a44 := Tryz.isAgg77
  z44 := Tryz.sizeOf77
  v44 := Tryz.zeroValue77
  t51 := Tryz.underlying106
  a51 := Tryz.isAgg106
  z51 := Tryz.sizeOf106
  v51 := Tryz.zeroValue106
  t60 := Tryz.underlying135
  a60 := Tryz.isAgg135
  z60 := Tryz.sizeOf135
  v60 := Tryz.zeroValue135
  t61 := Tryz.underlying136
  a61 := Tryz.isAgg136
  z61 := Tryz.sizeOf136
  v61 := Tryz.zeroValue136
  t67 := Tryz.underlying142
  a67 := Tryz.isAgg142
  z67 := Tryz.sizeOf142
  v67 := Tryz.zeroValue142
  t69 := Tryz.underlying121
  a69 := Tryz.isAgg121
  z69 := Tryz.sizeOf121
  v69 := Tryz.zeroValue121
  t75 := Tryz.underlying157
  a75 := Tryz.isAgg157
  z75 := Tryz.sizeOf157
  v75 := Tryz.zeroValue157
  t79 := Tryz.underlying161
  a79 := Tryz.isAgg161
  z79 := Tryz.sizeOf161
  v79 := Tryz.zeroValue161
  t83 := Tryz.underlying172
  a83 := Tryz.isAgg172
  z83 := Tryz.sizeOf172
  v83 := Tryz.zeroValue172
  t84 := Tryz.underlying173
  a84 := Tryz.isAgg173
  z84 := Tryz.sizeOf173
  v84 := Tryz.zeroValue173 }
end Go.Proofs
