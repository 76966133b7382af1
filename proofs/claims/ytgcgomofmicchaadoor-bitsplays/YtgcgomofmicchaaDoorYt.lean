/-
  What is proved here: alike tells that a set of bits and one of the reference with the same values are alike.
-/
import Derived.Test.YtgcgomofmicchaaDoorYr
import Derived.Test.YtgcgomofmicchaaDoorYp
import Derived.Test.YtgcgomofmicchaaDoorYn
import Derived.Test.YtgcgomofmicchaaDoorYo
import Derived.Test.YtgcgomofmicchaaDoorYs
import Derived.Test.YtgcgomofmicchaaDoorYu
import Derived.Test.YtgcgomofmicchaaDoorYv
import Derived.Deep.RegionHeld3
import Derived.Sort.CutIn
namespace Go.Proofs.YtgcgomofmicchaaDoor
open Go.RowKit Go.Shelf

attribute [local go_sem] Oper.semAt_some

structure Stopped (p : Prop) : Prop where
  out : p
theorem stop_block2 {F : Fence} {n : Nat} {P : Program} {i : Nat} {c : Code} {Q : Exit → Act → World → Prop} {a : Act} {w : World} (h : Stopped ((Code.block i c).wpIn F n P Q a w)) : (Code.block i c).wpIn F n P Q a w := h.out
theorem own_form {W : World} {base e size n : Nat} {s : Value} {xs : List Value} (h : W.ownsRow base e size s n xs) : ∃ a c, s = .slice a n c := by
  rcases h.2 with ⟨e1, e2⟩ | ⟨g', cap', cur, e1, _⟩
  · exact ⟨none, 0, by rw [e1, e2]⟩
  · exact ⟨_, _, e1⟩
/-- The slice with the address a, below block N, has the numbers vs. -/
def Nums (X : World) (N : Nat) (a : Option Addr) (vs : List Int) : Prop := 0 < vs.length → ∃ gv, a = some ⟨gv, 0, none⟩ ∧ gv < N ∧ ∀ i, i < vs.length → X.cell? ⟨gv, i, none⟩ = some (.int .i64 (vs[i]?.getD 0))
theorem own_nums {X : World} {base : Nat} {a : Option Addr} {c : Nat} {vs : List Int} (h : X.ownsRow base 2 1 (.slice a vs.length c) vs.length (nums vs)) : Nums X X.heap.size a vs := fun h0 => by
  obtain ⟨gv, cap, e, _, h2, h3⟩ := own_some h h0
  injection e with e1 _ _
  exact ⟨gv, e1, h2, fun i hi => h3 i _ (by unfold nums; simp [hi])⟩
theorem Nums.keep {X Y : World} {N : Nat} {a : Option Addr} {vs : List Int} (h : Nums X N a vs) (hb : ∀ B, B < N → Y.heap[B]? = X.heap[B]?) : Nums Y N a vs := fun h0 => by
  obtain ⟨gv, e, h1, h2⟩ := h h0
  exact ⟨gv, e, h1, fun i hi => by rw [← h2 i hi]; simp only [World.cell?, hb gv h1]⟩

theorem own_srg {W : World} {base : Nat} {a : Option Addr} {c : Nat} {l : List Rg} (h : W.ownsRow base 62 2 (.slice a l.length c) l.length (flat l)) : Sr W (.slice a l.length c) l := by
  rcases Nat.eq_zero_or_pos l.length with h0 | h0
  · exact ⟨a, c, rfl, fun h1 => by omega⟩
  · exact own_sr h h0

/-- What the range over the set needs of memory. -/
def Hold (R NL B b g c : Nat) (a1 : Option Addr) (n c1 : Nat) (vs : List Int) (f room : Int) (ws : List Nat) (X : World) : Prop :=
  Boxed X R 4 (.bool false) ∧ Boxed X NL 48 (.slice a1 n c1) ∧ Nums X NL a1 vs ∧ Boxed X B 24 (.pointer (some ⟨b, 0, none⟩)) ∧ Bits X b g c f room ws ∧ Tab X
theorem Hold.keep {R NL B b g c : Nat} {a1 : Option Addr} {n c1 : Nat} {vs : List Int} {f room : Int} {ws : List Nat} {X Y : World} (h : Hold R NL B b g c a1 n c1 vs f room ws X) {M : Nat} (hM : R < M ∧ NL < M ∧ B < M ∧ b < M ∧ g < M ∧ 0 < M)
    (hk : ∀ k, k < M → Y.heap[k]? = X.heap[k]?) (hs : X.heap.size ≤ Y.heap.size) : Hold R NL B b g c a1 n c1 vs f room ws Y :=
  ⟨(hk _ hM.1).trans h.1, (hk _ hM.2.1).trans h.2.1, h.2.2.1.keep (fun B' hB' => hk B' (by omega)), (hk _ hM.2.2.1).trans h.2.2.2.1, h.2.2.2.2.1.keep (hk _ hM.2.2.2.1) (hk _ hM.2.2.2.2.1), h.2.2.2.2.2.keep (hk 0 hM.2.2.2.2.2) hs⟩
theorem ownFrom_blocks {β : Type} {B M : Nat} {S : World → Prop} (hMB : M ≤ B) (hS : ∀ X Y, S X → (∀ k, k < M → Y.heap[k]? = X.heap[k]?) → X.heap.size ≤ Y.heap.size → S Y) : OwnFrom B (fun (_ : β) X => S X ∧ M ≤ X.heap.size) :=
  fun _ X Y row ⟨hs, hm⟩ hg hr => ⟨hS X Y hs (fun k hk => hg.block k (by omega) (fun e => by have := (hr k e.symm).1; omega)) hg.size, Nat.le_trans hm hg.size⟩
theorem set_blocks (X : World) (N q : Nat) (v : Value) : (∀ k, k < N → (X.setCell ⟨N, q, none⟩ v).heap[k]? = X.heap[k]?) ∧ X.heap.size ≤ (X.setCell ⟨N, q, none⟩ v).heap.size :=
  ⟨fun k hk => Below.heap_setCell _ _ _ k (by show k ≠ N; omega), (KeepsOthers.setCell X ⟨N, q, none⟩ v).size⟩
theorem prefix_take {vs : List Int} {pre : List Int} {r : List Int} (h : pre ++ r = vs) : pre = vs.take pre.length := by rw [← h]; simp
theorem take_snoc {vs pre : List Int} {x : Int} (h : pre = vs.take pre.length) (hx : pre.length < vs.length) (e : vs[pre.length]?.getD 0 = x) : pre ++ [x] = vs.take (pre ++ [x]).length := by
  rw [List.length_append, List.length_singleton, List.take_add_one, ← h]
  congr 1
  rw [List.getElem?_eq_getElem hx] at e ⊢
  simp at e
  simp [e]
theorem not_prefix {vs pre : List Int} {x : Int} (h : vs.length ≤ pre.length ∨ vs[pre.length]?.getD 0 ≠ x) : ¬ ∃ r, (pre ++ [x]) ++ r = vs := fun ⟨r, hr⟩ => by
  rcases h with h | h
  · rw [← hr] at h; simp at h; omega
  · apply h; rw [← hr]; simp

set_option maxRecDepth 100000 in
set_option maxHeartbeats 40000000 in
theorem alike_any (b g c rb rg rc : Nat) (f room v : Int) (ws : List Nat) (L : List Bool) (W : World) (h : Bits W b g c f room ws) (hz : Sz f room ws) (hc : Cl room ws) (hr : Ref W rb rg rc f L) (hrz : Rz f L) (hA : Agree room ws L) (hle : (runs (bvs f room ws)).length ≤ 4096) (hT : Tab W) :
    Calls Tryd.prog 14 #[.pointer (some ⟨b, 0, none⟩), .pointer (some ⟨rb, 0, none⟩), .int .i64 v] W fun e w' => e = .returned (.bool true) ∧ Below W.heap.size W w' := by
  refine (callsIn_wide (n := 6)).1 ?_
  refine callsIn_of_wp_marks Tryd.func14 rfl trivial ?_ rfl
  simp only [Tryd.ntmps14, List.size_toArray, List.length_cons, List.length_nil, Nat.reduceAdd, Nat.reduceSub, Array.replicate_succ, Array.replicate_zero, List.push_toArray, List.append_toArray, List.nil_append, List.cons_append]
  have hbl := h.b_lt; have hgl := h.g_lt; have hrbl := hr.b_lt; have hrgl := hr.g_lt
  have e1 := agree_bvs (f := f) hA
  obtain ⟨vs, hvs⟩ : ∃ vs, bvs f room ws = vs := ⟨_, rfl⟩
  have k23 := fun X (hb : Below W.heap.size W X) => refvalues_any rb rg rc f L X (hr.below hb hrbl hrgl) hrz
  have k27 := fun X (hb : Below W.heap.size W X) => ranges_any b g c f room ws X (h.below hb hbl hgl) hz hc (hT.below hb hT.1) hle
  have k47 := fun X (hb : Below W.heap.size W X) => refranges_any rb rg rc f L X (hr.below hb hrbl hrgl) hrz (by rw [← e1]; exact hle)
  have k31 := fun X (hb : Below W.heap.size W X) => words2_any b g c f room ws X (h.below hb hbl hgl) hz
  simp only [← e1, hvs] at k23 k27 k47
  have B0 : Below W.heap.size W (W.alloc (Obj.cells #[.bool false] 4)) := (Below.refl _ W).alloc (Nat.le_refl _) _
  gi_wp2_with fail
  refine ⟨trivial, (callsIn_wide.2 (k23 _ B0)).mono ?_⟩
  rintro e X1 ⟨s1, rfl, hown1, hb1⟩
  obtain ⟨a1, c1, rfl⟩ := own_form hown1
  have hN1 := own_nums hown1
  have B1 : Below W.heap.size W X1 := B0.trans (hb1.mono (by simp))
  obtain ⟨n, hn⟩ : ∃ n, vs.length = n := ⟨_, rfl⟩
  rw [hn]
  clear hown1
  have hs1 := hb1.size
  have bR1 : Boxed X1 W.heap.size 4 (.bool false) := (hb1.block _ (by simp)).trans (Boxed.new W 4 _)
  gi_wp2_with fail
  obtain ⟨NL, hNL⟩ : ∃ NL, X1.heap.size = NL := ⟨_, rfl⟩
  have bL : Boxed (X1.alloc (Obj.cells #[.slice a1 n c1] 48)) NL 48 (.slice a1 n c1) := by rw [← hNL]; exact Boxed.new X1 48 _
  have hsz1 : W.heap.size < X1.heap.size := by simp at hs1; omega
  have BY : Below W.heap.size W (X1.alloc (Obj.cells #[.slice a1 n c1] 48)) := B1.alloc (by omega) _
  have bR := bR1.alloc (Obj.cells #[.slice a1 n c1] 48)
  have hNY : Nums (X1.alloc (Obj.cells #[.slice a1 n c1] 48)) NL a1 vs := by rw [← hNL]; exact hN1.keep (fun B hB => Below.heap_alloc X1 _ B hB)
  have hNYs : NL < (X1.alloc (Obj.cells #[.slice a1 n c1] 48)).heap.size := by simp; omega
  rw [hNL] at hsz1 ⊢
  obtain ⟨Y, hY⟩ : ∃ Y, X1.alloc (Obj.cells #[.slice a1 n c1] 48) = Y := ⟨_, rfl⟩
  rw [hY] at bL BY bR hNY hNYs ⊢
  clear hY B1 hN1 hb1 bR1 hs1 B0 hNL
  refine ⟨trivial, (callsIn_wide.2 (k27 _ BY)).mono ?_⟩
  rintro e X2 ⟨s2, rfl, hown2, _, hb2⟩
  obtain ⟨a2, c2, rfl⟩ := own_form hown2
  have S2 := own_srg hown2
  have B2 : Below W.heap.size W X2 := BY.trans (hb2.mono BY.size)
  clear hown2
  obtain ⟨n2, hn2⟩ : ∃ n2, (runs vs).length = n2 := ⟨_, rfl⟩
  rw [hn2] at S2 ⊢
  gi_wp2_with fail
  refine ⟨trivial, (callsIn_wide.2 (k47 _ B2)).mono ?_⟩
  rintro e X3 ⟨s3, rfl, hown3, hb3⟩
  obtain ⟨a3, c3, rfl⟩ := own_form hown3
  have S3 := own_srg hown3
  have B3 : Below W.heap.size W X3 := B2.trans (hb3.mono B2.size)
  clear hown3
  rw [hn2] at S3 ⊢
  gi_wp2_with fail
  refine ⟨trivial, (callsIn_wide.2 (k31 _ B3)).mono ?_⟩
  rintro e X4 ⟨A4, rfl, hA1, hA2, hcw, hwr, hb4⟩
  have B4 : Below W.heap.size W X4 := B3.trans (hb4.mono B3.size)
  have S2' := (S2.below hb3).below hb4
  have S3' := S3.below hb4
  have hq2 := hb2.size; have hq3 := hb3.size; have hq4 := hb4.size
  have bR4 : Boxed X4 W.heap.size 4 (.bool false) := (hb4.block _ (by omega)).trans ((hb3.block _ (by omega)).trans ((hb2.block _ (by omega)).trans bR))
  have bL4 : Boxed X4 NL 48 (.slice a1 n c1) := (hb4.block _ (by omega)).trans ((hb3.block _ (by omega)).trans ((hb2.block _ (by omega)).trans bL))
  have hN4 := ((hNY.keep (fun B hB => hb2.block B (by omega))).keep (fun B hB => hb3.block B (by omega))).keep (fun B hB => hb4.block B (by omega))
  have hNL4 : NL < A4 := by omega
  have hBits4 := h.below B4 hbl hgl
  have hRef4 := hr.below B4 hrbl hrgl
  have hT4 := hT.below B4 hT.1
  clear S2 S3 hb2 hb3 hb4 bR bL hNY k23 k27 k47 k31 hq2 hq3 hq4 BY B2 B3 hNYs
  have c0 := hRef4.c0; have c1' := hRef4.c1; have cL := bL4.cell
  have hlen4 : ws.length ≤ 1024 := by have := hz.len; have := hz.most; omega
  have hnw : (L.length + 63) / 64 = ws.length := by have := hz.len; rw [hA.1] at this; omega
  have hbl4 : b < X4.heap.size := Nat.lt_of_lt_of_le hbl B4.size
  have hgl4 : g < X4.heap.size := Nat.lt_of_lt_of_le hgl B4.size
  have hrbl4 : rb < X4.heap.size := Nat.lt_of_lt_of_le hrbl B4.size
  have hrgl4 : rg < X4.heap.size := Nat.lt_of_lt_of_le hrgl B4.size
  have B0' : Below X4.heap.size X4 X4.drew := (Below.refl _ _).drew
  have k39 : ∀ X, Below X4.heap.size X4 X → Calls Tryd.prog 39 #[.pointer (some ⟨b, 0, none⟩)] X fun e w' => e = .returned (.int .i64 f) ∧ Below X4.heap.size X4 w' := fun X hb => (first_any b g c f room ws X (hBits4.below hb hbl4 hgl4)).mono (fun e w' ⟨he, hm⟩ => ⟨he, by rw [hm]; exact hb⟩)
  have k40 : ∀ X, Below X4.heap.size X4 X → Calls Tryd.prog 40 #[.pointer (some ⟨b, 0, none⟩)] X fun e w' => e = .returned (.int .i64 room) ∧ Below X4.heap.size X4 w' := fun X hb => (room_any b g c f room ws X (hBits4.below hb hbl4 hgl4)).mono (fun e w' ⟨he, hm⟩ => ⟨he, by rw [hm]; exact hb⟩)
  have k33 : ∀ X, Below X4.heap.size X4 X → Calls Tryd.prog 33 #[.pointer (some ⟨b, 0, none⟩)] X fun e w' => e = .returned (.int .i64 (n : Nat)) ∧ Below X4.heap.size X4 w' := fun X hb => (size_any b g c f room ws X (hBits4.below hb hbl4 hgl4) hz).mono (fun e w' ⟨he, hm⟩ => ⟨by rw [he, size_bvs hz hc, hvs, hn], by rw [hm]; exact hb⟩)
  have k29 : ∀ X, Below X4.heap.size X4 X → Calls Tryd.prog 29 #[.slice a2 n2 c2, .slice a3 n2 c3] X fun e w' => e = .returned (.bool true) ∧ Below X4.heap.size X4 w' := fun X hb =>
    (alikeR_same _ _ (runs vs) X (S2'.below hb) (S3'.below hb) (by rw [← hvs]; omega)).mono (fun e w' ⟨he, m, hm⟩ => ⟨he, by rw [hm]; exact below_drewN hb m⟩)
  have k49 : ∀ X, Below X4.heap.size X4 X → Calls Tryd.prog 49 #[.pointer (some ⟨rb, 0, none⟩)] X fun e w' => ∃ A5, e = .returned (.slice (some ⟨A5, 0, none⟩) ws.length ws.length) ∧ (∀ k, k < ws.length → w'.cell? ⟨A5, k, none⟩ = some (.int .u64 (wat ws k : Nat))) ∧ Below X4.heap.size X4 w' := fun X hb =>
    (refwords_any rb rg rc ws.length f L X (hRef4.below hb hrbl4 hrgl4) hrz hnw).mono (fun e w' ⟨A5, p, he, hA5, hU, hrow, hbw⟩ => ⟨A5, he, fun k hk => by
      have h9 := hrow.cell hk
      rw [h9]
      congr 3
      refine Nat.eq_of_testBit_eq fun r => ?_
      by_cases hr64 : r < 64
      · rw [(hU k).2 r hr64]
        by_cases hin : 64 * k + r < L.length
        · rw [← hA.2 _ hin, pb_at ws k r hr64]; simp [hin]
        · have h8 := hc ((64 * k + r : Nat) : Int) (by rw [hA.1]; omega)
          have h7 : pb ws (64 * k + r) = false := h8
          rw [pb_at ws k r hr64] at h7
          rw [h7]; simp [hin]
      · rw [Nat.testBit_lt_two_pow (Nat.lt_of_lt_of_le (hU k).1 (Nat.pow_le_pow_right (n := 2) (by decide) (by omega : 64 ≤ r))), Nat.testBit_lt_two_pow (Nat.lt_of_lt_of_le (hz.word k) (Nat.pow_le_pow_right (n := 2) (by decide) (by omega : 64 ≤ r)))], hb.trans (hbw.mono hb.size)⟩)
  have k48 : ∀ X A5, Below X4.heap.size X4 X → (∀ k, k < ws.length → X.cell? ⟨A5, k, none⟩ = some (.int .u64 (wat ws k : Nat))) → Calls Tryd.prog 48 #[.slice (some ⟨A4, 0, none⟩) ws.length ws.length, .slice (some ⟨A5, 0, none⟩) ws.length ws.length] X fun e w' => e = .returned (.bool true) ∧ Below X4.heap.size X4 w' := fun X A5 hb h5 =>
    (lawwords_same A4 A5 _ _ ws.length (wat ws) X hlen4 (fun k hk => (hb.cell (p := ⟨A4, k, none⟩) hA2).trans (hcw k hk)) h5).mono (fun e w' ⟨he, m, hm⟩ => ⟨he, by rw [hm]; exact below_drewN hb m⟩)
  have k32 : ∀ X, Below X4.heap.size X4 X → Calls Tryd.prog 32 #[.pointer (some ⟨b, 0, none⟩), .int .i64 v] X fun e w' => e = .returned (.bool (hasB f room ws v)) ∧ Below X4.heap.size X4 w' := fun X hb =>
    (has_any b g c f room v ws X (hBits4.below hb hbl4 hgl4) hz).mono (fun e w' ⟨he, m, hm⟩ => ⟨he, by rw [hm]; exact below_drewN hb m⟩)
  have k50 : ∀ X, Below X4.heap.size X4 X → Calls Tryd.prog 50 #[.pointer (some ⟨rb, 0, none⟩), .int .i64 v] X fun e w' => e = .returned (.bool (hasB f room ws v)) ∧ Below X4.heap.size X4 w' := fun X hb =>
    (refhas_any rb rg rc f v L X (hRef4.below hb hrbl4 hrgl4) hrz).mono (fun e w' ⟨he, m, hm⟩ => ⟨by rw [he, agree_has hA hc], by rw [hm]; exact below_drewN hb m⟩)
  have HK : ∀ w', Below X4.heap.size X4 w' → w'.cell? ⟨rb, 0, none⟩ = some (.int .i64 f) ∧ w'.cell? ⟨rb, 1, none⟩ = some (.slice (some ⟨rg, 0, none⟩) L.length rc) ∧ w'.cell? ⟨NL, 0, none⟩ = some (.slice a1 n c1) ∧ Below X4.heap.size X4 w' := fun w' hb => ⟨(hb.cell (p := ⟨rb, 0, none⟩) hrbl4).trans c0, (hb.cell (p := ⟨rb, 1, none⟩) hrbl4).trans c1', (hb.cell (p := ⟨NL, 0, none⟩) (by show NL < _; omega)).trans cL, hb⟩
  have hroom := hA.1
  obtain ⟨mL, hmL⟩ : ∃ mL, L.length = mL := ⟨_, rfl⟩
  obtain ⟨t, ht⟩ : ∃ t, hasB f room ws v = t := ⟨_, rfl⟩
  obtain ⟨nw, hnw'⟩ : ∃ nw, ws.length = nw := ⟨_, rfl⟩
  rw [ht] at k32 k50
  rw [hmL] at hroom
  simp only [hmL] at HK
  rw [hnw'] at k48 k49 ⊢
  rw [hroom] at k40
  have HB : Hid (Bits X4 b g c f room ws) := hBits4
  have HR : Hid (Ref X4 rb rg rc f L) := hRef4
  have HZ : Hid (Sz f room ws) := hz
  have HC : Hid (Cl room ws) := hc
  have HT : Hid (Tab X4) := hT4
  have HRZ : Hid (Rz f L) := hrz
  have HA : Hid (Agree room ws L) := hA
  have HN4 : Hid (Nums X4 NL a1 vs) := hN4
  have HVS : Hid (bvs f room ws = vs) := hvs
  have HN : Hid (vs.length = n) := hn
  have HB4 : Hid (Below W.heap.size W X4) := B4
  have HCW : Hid (∀ k, k < ws.length → X4.cell? ⟨A4, k, none⟩ = some (.int .u64 (wat ws k : Nat))) := hcw
  have HBR : Hid (Boxed X4 W.heap.size 4 (.bool false)) := bR4
  have HBL : Hid (Boxed X4 NL 48 (.slice a1 n c1)) := bL4
  have HNW : Hid (ws.length = nw) := hnw'
  have HWR : Hid (Wrd X4 A4 nw) := by rw [← hnw']; exact hwr
  clear hwr c0 c1' cL hBits4 hRef4 hz hc hT4 hrz hA hN4 hvs hn B4 hcw bR4 bL4 hnw' hnw h hr hT hle S2' S3' hn2 hmL ht e1 B0' hroom hlen4
  gi_wp2_with fail
  refine wpIn_wide.2 (wp_calm ?_)
  have HU : ∀ w', (w'.cell? ⟨rb, 0, none⟩ = some (.int .i64 f) ∧ w'.cell? ⟨rb, 1, none⟩ = some (.slice (some ⟨rg, 0, none⟩) mL rc) ∧ w'.cell? ⟨NL, 0, none⟩ = some (.slice a1 n c1) ∧ Below X4.heap.size X4 w') → Below X4.heap.size X4 w' := fun w' h => h.2.2.2
  have BD : Below X4.heap.size X4 X4.drew := (Below.refl _ _).drew
  go_region_held3 (fun w' => w'.cell? ⟨rb, 0, none⟩ = some (.int .i64 f) ∧ w'.cell? ⟨rb, 1, none⟩ = some (.slice (some ⟨rg, 0, none⟩) mL rc) ∧ w'.cell? ⟨NL, 0, none⟩ = some (.slice a1 n c1) ∧ Below X4.heap.size X4 w') (exact HK _ (by assumption)) (first | (go_at_call 39; refine (k39 _ ?_).mono ?_; (first | assumption | exact (HU _ (by assumption))); rintro e w1 ⟨rfl, hq⟩) | (go_at_call 40; refine (k40 _ ?_).mono ?_; (first | assumption | exact (HU _ (by assumption))); rintro e w1 ⟨rfl, hq⟩) | (go_at_call 33; refine (k33 _ ?_).mono ?_; (first | assumption | exact (HU _ (by assumption))); rintro e w1 ⟨rfl, hq⟩) | (go_at_call 29; refine (k29 _ ?_).mono ?_; (first | assumption | exact (HU _ (by assumption))); rintro e w1 ⟨rfl, hq⟩) | (go_at_call 32; refine (k32 _ ?_).mono ?_; (first | assumption | exact (HU _ (by assumption))); rintro e w1 ⟨rfl, hq⟩) | (go_at_call 50; refine (k50 _ ?_).mono ?_; (first | assumption | exact (HU _ (by assumption))); rintro e w1 ⟨rfl, hq⟩) | (go_at_call 49; refine (k49 _ ?_).mono ?_; (first | assumption | exact (HU _ (by assumption))); rintro e w1 ⟨A5, rfl, hc5, hq⟩) | (go_at_call 48; refine (k48 _ _ ?_ ?_).mono ?_; (first | assumption | exact (HU _ (by assumption))); assumption; rintro e w1 ⟨rfl, hq⟩))
  have hqX : Below X4.heap.size X4 w1 := hq
  clear k39 k40 k33 k29 k49 k48 k32 k50 HK HU
  have hw1 : Wrd w1 A4 nw := by
    obtain ⟨cur, h1, h2⟩ := HWR.out
    exact ⟨cur, (hqX.block _ hA2).trans h1, h2⟩
  have HQX : Hid (Below X4.heap.size X4 w1) := hqX
  have HW1 : Hid (Wrd w1 A4 nw) := hw1
  have hnw4 : (nw : Int) ≤ 1024 := by have h1 := HZ.out.len; have h2 := HZ.out.most; rw [HNW.out] at h1; omega
  clear hqX hw1
  gi_wp2_with fail
  gi_loopw [13] (fun i wr => ∃ k : Nat, k ≤ nw ∧ i = .int .i64 k ∧ Wrd wr A4 nw ∧ Sam A4 w1 wr ∧ Below W.heap.size W wr) (fun i _ => nw - (intOf i).toNat)
  case atStart => exact ⟨0, Nat.zero_le _, rfl, HW1.out, Sam.refl _ _, HB4.out.trans (HQX.out.mono HB4.out.size)⟩
  case round =>
    obtain ⟨k, hk, rfl, hwr, hsm, hBw⟩ := hrel
    by_cases hlt : k < nw
    · obtain ⟨⟨x, hx⟩, hfz⟩ := hwr.at k hlt
      have HP : Hid (Wrd (wr.setCell ⟨A4, k, none⟩ (.int .u64 99)) A4 nw ∧ Sam A4 w1 (wr.setCell ⟨A4, k, none⟩ (.int .u64 99)) ∧ Below W.heap.size W (wr.setCell ⟨A4, k, none⟩ (.int .u64 99))) := ⟨hwr.put k _, hsm.put k _, hBw.setCell (p := ⟨A4, k, none⟩) (by show W.heap.size ≤ A4; omega) _⟩
      have hkn : (k : Int) < (nw : Int) := by omega
      clear hwr hsm hBw
      gi_wp2
      go_roundw
      case rel => exact ⟨k + 1, by omega, by go_num, HP.out⟩
      case measure => simp [intOf]; omega
    · obtain rfl : k = nw := by omega
      have hF : ∀ B, B < A4 → wr.heap[B]? = X4.heap[B]? := fun B hB => (hsm.2 B (by omega)).trans (HQX.out.block B (by omega))
      have hbits : Bits wr b g c f room ws := HB.out.keep (hF b (by omega)) (hF g (by omega))
      have htab : Tab wr := HT.out.keep (hF 0 (by omega)) (Nat.le_trans HQX.out.size hsm.1)
      have hbr : Boxed wr W.heap.size 4 (.bool false) := (hF _ (by omega)).trans HBR.out
      have hbL : Boxed wr NL 48 (.slice a1 n c1) := (hF _ (by omega)).trans HBL.out
      have hnm : Nums wr NL a1 vs := HN4.out.keep (fun B hB => hF B (by omega))
      have k35 := minV b g c f room ws wr hbits HZ.out HC.out htab
      have k36 := fun m => maxV b g c f room ws (wr.drewN m) (hbits.drawn m) HZ.out HC.out
      have k37 := fun m => nextV b g c f room v ws (wr.drewN m) (hbits.drawn m) HZ.out HC.out (htab.drawn m)
      rw [HVS.out, HN.out] at k35
      simp only [HVS.out, HN.out] at k36 k37
      obtain ⟨mn, hmn⟩ : ∃ mn, vs[0]?.getD 0 = mn := ⟨_, rfl⟩
      obtain ⟨mx, hmx⟩ : ∃ mx, vs[n - 1]?.getD 0 = mx := ⟨_, rfl⟩
      obtain ⟨nx, hnx⟩ : ∃ nx, firstFrom v vs = nx := ⟨_, rfl⟩
      obtain ⟨ih, hih⟩ : ∃ ih, anyFrom v vs = ih := ⟨_, rfl⟩
      obtain ⟨ok, hok⟩ : ∃ ok, decide (0 < n) = ok := ⟨_, rfl⟩
      rw [hmn, hok] at k35
      simp only [hmx, hok] at k36
      simp only [hnx, hih] at k37
      have HMN : Hid (vs[0]?.getD 0 = mn) := hmn
      have HMX : Hid (vs[n - 1]?.getD 0 = mx) := hmx
      have HNX : Hid (firstFrom v vs = nx) := hnx
      have HIH : Hid (anyFrom v vs = ih) := hih
      have HOK : Hid (decide (0 < n) = ok) := hok
      have HBT : Hid (Bits wr b g c f room ws) := hbits
      have HTB : Hid (Tab wr) := htab
      have HR2 : Hid (Boxed wr W.heap.size 4 (.bool false)) := hbr
      have HL2 : Hid (Boxed wr NL 48 (.slice a1 n c1)) := hbL
      have HNM : Hid (Nums wr NL a1 vs) := hnm
      have HBW : Hid (Below W.heap.size W wr) := hBw
      clear hmn hmx hnx hih hok hbits htab hbr hbL hnm hBw hF hsm hwr
      gi_wp2_with fail
      refine ⟨trivial, (callsIn_wide.2 k35).mono ?_⟩
      rintro e w2 ⟨rfl, n1, rfl⟩
      gi_wp2_with fail
      refine ⟨trivial, (callsIn_wide.2 (k36 _)).mono ?_⟩
      rintro e w2 ⟨rfl, n2, rfl⟩
      gi_wp2_with fail
      try simp only [World.drewN_drewN]
      refine ⟨trivial, (callsIn_wide.2 (k37 _)).mono ?_⟩
      rintro e w2 ⟨rfl, n3, rfl⟩
      clear k35 k36 k37
      try simp only [World.drewN_drewN]
      obtain ⟨Y7, hY7⟩ : ∃ Y7, wr.drewN (n1 + n2 + n3) = Y7 := ⟨_, rfl⟩
      rw [hY7]
      have HY7 : Hid (wr.drewN (n1 + n2 + n3) = Y7) := hY7
      have cL7 : Y7.cell? ⟨NL, 0, none⟩ = some (.slice a1 n c1) := by rw [← hY7]; exact HL2.out.cell
      have HN7 : Hid (Nums Y7 NL a1 vs) := by rw [← hY7]; exact HNM.out
      clear hY7
      gi_upto_region 17 with (with_reducible refine stop_block2 ?_)
      refine Stopped.mk ?_
      gi_cut [20, 21] from 116 (fun a20 a21 wc => a20 = .int .i64 nx ∧ a21 = .bool ih ∧ ∃ m, wc = Y7.drewN m)
      case first =>
        gi_wp2_with fail
        gi_loopw [20, 21, 22] (fun a20 a21 a22 wq => ∃ (k m : Nat), k ≤ n ∧ a22 = .int .i64 k ∧ wq = Y7.drewN m ∧ ((a21 = .bool false ∧ a20 = .int .i64 0 ∧ ∀ j, j < k → vs[j]?.getD 0 < v) ∨ (a21 = .bool true ∧ a20 = .int .i64 nx ∧ ih = true))) (fun _ _ a22 _ => n - (intOf a22).toNat)
        case atStart => exact ⟨0, 0, Nat.zero_le _, rfl, rfl, .inl ⟨rfl, rfl, fun j hj => absurd hj (Nat.not_lt_zero _)⟩⟩
        case round =>
          obtain ⟨k2, m, hk2, rfl, rfl, hcase⟩ := hrel
          have hn4 : (n : Int) ≤ 1000000000 := by
            have h1 := bv_length f (pb ws) room.toNat
            have h2 : vs.length = (bv f (pb ws) room.toNat).length := by rw [← HVS.out]; rfl
            have h3 := HN.out; have h4 := HZ.out.most
            omega
          by_cases hkn : k2 < n
          · have hkn' : (k2 : Int) < (n : Int) := by omega
            rcases hcase with ⟨rfl, rfl, hlt2⟩ | ⟨rfl, rfl, hih2⟩
            · obtain ⟨gv, rfl, hgv, hcells⟩ := HN7.out (by rw [HN.out]; omega)
              have cx := hcells k2 (by rw [HN.out]; omega)
              have HLT : Hid (∀ j, j < k2 → vs[j]?.getD 0 < v) := hlt2
              obtain ⟨x, hx⟩ : ∃ x, vs[k2]?.getD 0 = x := ⟨_, rfl⟩
              have HX : Hid (vs[k2]?.getD 0 = x) := hx
              rw [hx] at cx
              clear hcells hlt2 hx
              by_cases hxv : v ≤ x
              · have hd : decide (v ≤ x) = true := by simpa using hxv
                obtain ⟨e1, e2⟩ := first_hit v vs k2 (by rw [HN.out]; exact hkn) HLT.out (by rw [HX.out]; exact hxv)
                rw [HX.out, HNX.out] at e1
                rw [HIH.out] at e2
                have E1 : Hid (nx = x) := e1
                have E2 : Hid (ih = true) := e2
                clear e1 e2
                gi_wp2
                go_roundw
                case rel => exact ⟨k2 + 1, _, by omega, by go_num, rfl, .inr ⟨rfl, by rw [E1.out], E2.out⟩⟩
                case measure => simp [intOf]; omega
              · have hd : decide (v ≤ x) = false := by simpa using hxv
                gi_wp2
                go_roundw
                case rel =>
                  refine ⟨k2 + 1, _, by omega, by go_num, rfl, .inl ⟨rfl, rfl, fun j hj => ?_⟩⟩
                  by_cases hjk : j = k2
                  · subst hjk; rw [HX.out]; omega
                  · exact HLT.out j (by omega)
                case measure => simp [intOf]; omega
            · have E2 : Hid (ih = true) := hih2
              clear hih2
              gi_wp2
              gi_meet
              case rel => exact ⟨rfl, by rw [E2.out], _, rfl⟩
          · have hkn' : ¬ (k2 : Int) < (n : Int) := by omega
            have hd : decide ((k2 : Int) < (n : Int)) = false := by simpa using hkn'
            have hr2 : Hid ((u20 : Value) = .int .i64 nx ∧ (u21 : Value) = .bool ih) := by
              unfold Hid
              rcases hcase with ⟨rfl, rfl, hlt2⟩ | ⟨rfl, rfl, hih2⟩
              · obtain ⟨e1, e2⟩ := first_none v vs (fun j hj => hlt2 j (by rw [HN.out] at hj; omega))
                rw [HNX.out] at e1
                rw [HIH.out] at e2
                rw [e1, e2]; exact ⟨rfl, rfl⟩
              · rw [hih2]; exact ⟨rfl, rfl⟩
            clear hcase
            gi_wp2
            gi_meet
            case rel => exact ⟨hr2.out.1, hr2.out.2, _, rfl⟩
      case rest =>
        obtain ⟨rfl, rfl, m7, rfl⟩ := hcut
        obtain ⟨Y8, hY8⟩ : ∃ Y8, Y7.drewN m7 = Y8 := ⟨_, rfl⟩
        have HB8 : Hid (Bits Y8 b g c f room ws) := by unfold Hid; rw [← hY8, ← HY7.out]; exact HBT.out
        have HT8 : Hid (Tab Y8) := by unfold Hid; rw [← hY8, ← HY7.out]; exact HTB.out
        have HR8 : Hid (Boxed Y8 W.heap.size 4 (.bool false)) := by unfold Hid; rw [← hY8, ← HY7.out]; exact HR2.out
        have HL8 : Hid (Boxed Y8 NL 48 (.slice a1 n c1)) := by unfold Hid; rw [← hY8, ← HY7.out]; exact HL2.out
        have HN8 : Hid (Nums Y8 NL a1 vs) := by unfold Hid; rw [← hY8, ← HY7.out]; exact HNM.out
        have HW8 : Hid (Below W.heap.size W Y8) := by unfold Hid; rw [← hY8, ← HY7.out]; exact below_drewN (below_drewN HBW.out _) _
        rw [hY8]
        clear hY8 cL7 HN7 HY7 HBT HTB HR2 HL2 HNM HBW HB HR HT HRZ HA HN4 HB4 HCW HBR HBL HQX HW1 HWR HNX HIH
        have cL8 := HL8.out.cell
        have hn4 : (n : Int) ≤ 1000000000 := by
          have h1 := bv_length f (pb ws) room.toNat
          have h2 : vs.length = (bv f (pb ws) room.toNat).length := by rw [← HVS.out]; rfl
          have h3 := HN.out; have h4 := HZ.out.most
          omega
        gi_upto_region 22 with fail
        gi_cut [187] from 136 (fun a187 wc => a187 = .bool false ∧ wc = Y8)
        case first =>
          by_cases h0 : 0 < n
          · have hok : ok = true := by rw [← HOK.out]; simpa using h0
            subst hok
            obtain ⟨gv, rfl, hgv, hcells⟩ := HN8.out (by rw [HN.out]; exact h0)
            have cm0 := hcells 0 (by rw [HN.out]; exact h0)
            have cm1 := hcells (n - 1) (by rw [HN.out]; omega)
            rw [HMN.out] at cm0
            rw [HMX.out] at cm1
            have h0' : (0 : Int) < (n : Int) := by omega
            have hlast : (n : Int) - 1 = ((n - 1 : Nat) : Int) := by omega
            have hd0 : decide ((0 : Int) < (n : Int)) = true := by simpa using h0
            clear hcells
            gi_wp2
            gi_meet
            case rel => exact ⟨rfl, rfl⟩
          · obtain rfl : n = 0 := by omega
            have hok : ok = false := by rw [← HOK.out]; rfl
            subst hok
            have hvs : vs = [] := List.eq_nil_of_length_eq_zero HN.out
            have hmn : mn = 0 := by rw [← HMN.out, hvs]; rfl
            have hmx : mx = 0 := by rw [← HMX.out, hvs]; rfl
            clear hvs
            subst hmn
            subst hmx
            gi_wp2
            case h_1.isFalse => rename_i hq _; simp [undef] at hq
            all_goals (gi_meet; case rel => exact ⟨rfl, rfl⟩)
        case rest =>
          obtain ⟨rfl, rfl⟩ := hcut
          clear cL8 HMN HMX HOK
          gi_wp2_with fail
          refine ⟨trivial, (callsIn_wide.2 (each2_any b g c f room ws wc HB8.out HZ.out)).mono ?_⟩
          rintro e Z0 ⟨B, b', rfl, bB, hib, hB1, hbZ⟩
          obtain ⟨g', c', hb1, hg1, hS0⟩ := hib.open
          have hef : ∀ (w : World) (cap : Array Value), (binOp .eql 69 (.func (.func 72) #[] cap) .nilFunc).run Tryd.prog w = .ok (.bool false) w := fun w cap => rfl
          have hZs := hbZ.size
          have hNLY := HL8.out.lt
          have hRY := HR8.out.lt
          have hT0 := HT8.out.1
          have hHold : Hold W.heap.size NL B b' g' c' a1 n c1 vs f room ws Z0 := ⟨(hbZ.block _ hRY).trans HR8.out, (hbZ.block _ hNLY).trans HL8.out, HN8.out.keep (fun B' hB' => hbZ.block B' (by omega)), bB, hS0, HT8.out.below hbZ hT0⟩
          have hWZ : Below W.heap.size W Z0 := HW8.out.trans (hbZ.mono HW8.out.size)
          have hBl := bB.lt; have hbl0 := hS0.b_lt; have hgl0 := hS0.g_lt
          clear hib bB hS0 HB8 HT8 HR8 HL8 HN8 HW8 hbZ
          have HH : Hid (Hold W.heap.size NL B b' g' c' a1 n c1 vs f room ws Z0) := hHold
          have HWZ : Hid (Below W.heap.size W Z0) := hWZ
          clear hHold hWZ
          gi_wp2_with fail
          obtain ⟨N, hN⟩ : ∃ N, Z0.heap.size = N := ⟨_, rfl⟩
          have hHold : Hold W.heap.size NL B b' g' c' a1 n c1 vs f room ws (Z0.alloc (Obj.cells #[Value.int IntKind.i64 0] 3)) := HH.out.keep (M := N) ⟨by omega, by omega, by omega, by omega, by omega, by omega⟩ (fun k hk => Below.heap_alloc Z0 _ k (by omega)) (by simp)
          have bI : Boxed (Z0.alloc (Obj.cells #[Value.int IntKind.i64 0] 3)) N 3 (.int .i64 0) := by rw [← hN]; exact Boxed.new Z0 3 _
          have hWZ : Below W.heap.size W (Z0.alloc (Obj.cells #[Value.int IntKind.i64 0] 3)) := HWZ.out.alloc HWZ.out.size _
          have hWZs := HWZ.out.size
          rw [hN] at hWZs
          obtain ⟨Z1, hZ1⟩ : ∃ Z1, Z0.alloc (Obj.cells #[Value.int IntKind.i64 0] 3) = Z1 := ⟨_, rfl⟩
          have hZ1s : Z1.heap.size = N + 1 := by rw [← hZ1, ← hN]; simp
          rw [hN]
          rw [hZ1] at hHold bI hWZ ⊢
          rw [hN] at hBl hbl0 hgl0 hZs
          have hRN : W.heap.size < N := by omega
          have hNLN : NL < N := by omega
          have h0N : 0 < N := by omega
          have hM : W.heap.size < N ∧ NL < N ∧ B < N ∧ b' < N ∧ g' < N ∧ 0 < N := ⟨hRN, hNLN, hBl, hbl0, hgl0, h0N⟩
          have HVN : Hid (vs.length = n) := HN.out
          clear hZ1 hN HH HWZ hbl hgl hrbl hrgl
          refine wpIn_rangeFunc_ownF (α := { x : Int // -1000000 ≤ x ∧ x ≤ 1000000 }) rfl (by decide) (gf := 72) (lb := #[.pointer (some ⟨B, 0, none⟩)]) rfl trivial (enters_of Tryd.func72 (by kernel_rfl) rfl)
            (encs := fun x => #[.int .i64 x.1]) (Kp := Kb B b' g') (S := fun xs => xs.map (·.1) = bvs f room ws) (Sp := fun pre => ∃ r, pre.map (·.1) ++ r = bvs f room ws) (N := 10000000) (w0 := Z1)
            (fun lr J Jx X hX hJ _ hY h0 => each2_in (p := fun x => -1000000 ≤ x ∧ x ≤ 1000000) 5 (by decide) lr B b' g' c' f room ws HZ.out HC.out (fun v hv => by have := has_fits hv; have := HZ.out.lo; have := HZ.out.hi; omega) J Jx hY X hJ ((hX.block B (by omega)).trans hHold.2.2.2.1) (hHold.2.2.2.2.1.below hX (by omega) (by omega)) (hHold.2.2.2.2.2.below hX (by omega)) h0)
            (fun h k => h.trans k) (fun X l o o' hl _ _ _ => Kb.put B b' g' X l Z1.heap.size o' (by omega) (by omega) (by omega) (by omega) hl) (Below.refl _ _) (fun _ => rfl)
            (fun pre X => (Hold W.heap.size NL B b' g' c' a1 n c1 vs f room ws X ∧ N ≤ X.heap.size) ∧ Boxed X N 3 (.int .i64 (pre.length : Nat)) ∧ Below W.heap.size W X ∧ (pre.map (·.1) = vs.take pre.length ∧ pre.length ≤ n))
            (fun c pre _ => c = .ret ∧ ¬ ∃ r, pre.map (·.1) ++ r = vs)
            (OwnFrom.and (ownFrom_blocks (by omega) (fun X Y h hk hs => h.keep hM hk hs)) (OwnFrom.and (Own.from (fun s W W' row h hg hr => boxed_own N 3 (fun pre : List { x : Int // -1000000 ≤ x ∧ x ≤ 1000000 } => .int .i64 (pre.length : Nat)) s W W' row h hg hr) _) (OwnFrom.and (ownFrom_below (Nat.le_refl _) (by omega)) (ownFrom_pure _ _))))
            (fun c => OwnFrom.and (ownFrom_pure _ _) (ownFrom_pure _ _))
            ⟨⟨hHold, by omega⟩, bI, hWZ, by simp, by simp⟩
            ?a1
            ?assign ?body ?done ?stop
          case assign =>
            intro l x X K hK
            gi_wp2
            exact hK
          case body =>
            rintro lr pre ⟨x, hx1, hx2⟩ X ⟨⟨hH, hNX⟩, hI, hB, hpre, hle⟩ _
            have cI := hI.cell; have fI := hI.frozen
            have cL := hH.2.1.cell
            have cR := hH.1.cell; have fR := hH.1.frozen
            obtain ⟨q, hq⟩ : ∃ q, pre.length = q := ⟨_, rfl⟩
            have HQ : Hid (pre.length = q) := hq
            have HPRE : Hid (pre.map (·.1) = vs.take pre.length) := hpre
            have HHX : Hid (Hold W.heap.size NL B b' g' c' a1 n c1 vs f room ws X) := hH
            have HI : Hid (Boxed X N 3 (.int .i64 (pre.length : Nat))) := hI
            rw [hq] at cI hle
            have hle4 : (q : Int) ≤ 1000000000 := by omega
            clear hq hpre hH hI
            by_cases hqn : q < n
            · obtain ⟨gv, rfl, hgv, hcells⟩ := HHX.out.2.2.1 (by rw [HVN.out]; omega)
              have cx := hcells q (by rw [HVN.out]; exact hqn)
              obtain ⟨y, hy⟩ : ∃ y, vs[q]?.getD 0 = y := ⟨_, rfl⟩
              have HY : Hid (vs[q]?.getD 0 = y) := hy
              rw [hy] at cx
              have hqn' : (q : Int) < (n : Int) := by omega
              have hd : decide ((n : Int) ≤ (q : Int)) = false := by simp; omega
              clear hcells hy
              by_cases hxy : y = x
              · have HXY : Hid (y = x) := hxy
                rw [hxy] at cx
                clear hxy
                gi_wp2
                have hsb := set_blocks X N 0 (.int .i64 ((q : Int) + 1))
                refine ⟨KeepsOthers.setCell _ _ _, kb_of (n₀ := N) (O := N) (by omega) (by omega) (by omega) (by omega) hsb.2 (fun k _ hk => hsb.1 k hk) (by omega) (by omega) (by omega) (by omega), ⟨HHX.out.keep hM hsb.1 hsb.2, Nat.le_trans hNX hsb.2⟩, ?_, hB.setCell (p := ⟨N, 0, none⟩) (Nat.le_of_lt hRN) _, ?_, ?_⟩
                · have h9 := HI.out.set (.int .i64 ((q : Int) + 1))
                  rw [show (((pre ++ [(⟨x, hx1, hx2⟩ : { x : Int // -1000000 ≤ x ∧ x ≤ 1000000 })]).length : Nat) : Int) = (q : Int) + 1 by simp [HQ.out]]
                  exact h9
                · rw [List.map_append, List.map_singleton]
                  have h9 := take_snoc (vs := vs) (pre := pre.map (·.1)) (x := x) (by rw [List.length_map]; exact HPRE.out) (by rw [List.length_map, HQ.out, HVN.out]; exact hqn) (by rw [List.length_map, HQ.out, HY.out]; exact HXY.out)
                  rw [show (pre ++ [(⟨x, hx1, hx2⟩ : { x : Int // -1000000 ≤ x ∧ x ≤ 1000000 })]).length = (pre.map (·.1) ++ [x]).length by simp]
                  exact h9
                · rw [List.length_append, HQ.out]; simp; omega
              · have hne : (y == x) = false := by simpa using hxy
                have hne2 : (y != x) = true := by simpa using hxy
                have HXY : Hid (¬ y = x) := hxy
                clear hxy
                gi_wp2
                refine ⟨KeepsOthers.setCell _ _ _, rfl, ?_⟩
                rw [List.map_append, List.map_singleton]
                exact not_prefix (.inr (by rw [List.length_map, HQ.out, HY.out]; exact HXY.out))
            · have hd : decide ((n : Int) ≤ (q : Int)) = true := by simp; omega
              have hqn' : (n : Int) ≤ (q : Int) := by omega
              gi_wp2
              refine ⟨KeepsOthers.setCell _ _ _, rfl, ?_⟩
              rw [List.map_append, List.map_singleton]
              exact not_prefix (.inl (by rw [List.length_map, HQ.out, HVN.out]; omega))
          case stop =>
            rintro D c pre X hD ⟨r, hr⟩ ⟨_, hnp⟩ hK
            exact (hnp ⟨r, hr.trans HVS.out⟩).elim
          case done =>
            rintro D xs X hD hS ⟨⟨hH, hNX⟩, hI, hB, _, _⟩ hK
            have hlen : xs.length = n := by
              have h1 := congrArg List.length hS
              rw [List.length_map, HVS.out, HVN.out] at h1; exact h1
            rw [hlen] at hI
            have hDl : D < X.heap.size := (Array.getElem?_eq_some_iff.1 hK).1
            clear hlen
            gi_wp2_with fail
            refine wpIn_rangeFunc_ownF (α := { x : Int // -1000000 ≤ x ∧ x ≤ 1000000 }) rfl (by decide) (gf := 72) (lb := #[.pointer (some ⟨B, 0, none⟩)]) rfl trivial (enters_of Tryd.func72 (by kernel_rfl) rfl)
              (encs := fun x => #[.int .i64 x.1]) (Kp := Kb B b' g') (S := fun xs => xs.map (·.1) = bvs f room ws) (Sp := fun pre => ∃ r, pre.map (·.1) ++ r = bvs f room ws) (N := 10000000) (w0 := X)
              (fun lr J Jx X2 hX hJ _ hY h0 => each2_in (p := fun x => -1000000 ≤ x ∧ x ≤ 1000000) 5 (by decide) lr B b' g' c' f room ws HZ.out HC.out (fun v hv => by have := has_fits hv; have := HZ.out.lo; have := HZ.out.hi; omega) J Jx hY X2 hJ ((hX.block B (by omega)).trans hH.2.2.2.1) (hH.2.2.2.2.1.below hX (by omega) (by omega)) (hH.2.2.2.2.2.below hX (by omega)) h0)
              (fun h k => h.trans k) (fun X2 l o o' hl _ _ _ => Kb.put B b' g' X2 l X.heap.size o' (by omega) (by omega) (by omega) (by omega) hl) (Below.refl _ _) (fun _ => rfl)
              (fun _ X2 => (Hold W.heap.size NL B b' g' c' a1 n c1 vs f room ws X2 ∧ N ≤ X2.heap.size) ∧ Boxed X2 N 3 (.int .i64 (n : Nat)) ∧ Below W.heap.size W X2 ∧ (X2.heap[D]? = some (.deferred (some [])) ∧ D + 1 ≤ X2.heap.size))
              (fun c _ X2 => c = .exit 6 ∧ (Hold W.heap.size NL B b' g' c' a1 n c1 vs f room ws X2 ∧ N ≤ X2.heap.size) ∧ Boxed X2 N 3 (.int .i64 (n : Nat)) ∧ Below W.heap.size W X2 ∧ (X2.heap[D]? = some (.deferred (some [])) ∧ D + 1 ≤ X2.heap.size))
              (OwnFrom.and (ownFrom_blocks (by omega) (fun X Y h hk hs => h.keep hM hk hs)) (OwnFrom.and (Own.from (boxed_own _ _ _) _) (OwnFrom.and (ownFrom_below (Nat.le_refl _) (by omega)) (ownFrom_blocks (by omega) (fun X Y h hk _ => (hk D (by omega)).trans h)))))
              (fun c => OwnFrom.and (ownFrom_pure _ _) (OwnFrom.and (ownFrom_blocks (by omega) (fun X Y h hk hs => h.keep hM hk hs)) (OwnFrom.and (Own.from (boxed_own _ _ _) _) (OwnFrom.and (ownFrom_below (Nat.le_refl _) (by omega)) (ownFrom_blocks (by omega) (fun X Y h hk _ => (hk D (by omega)).trans h))))))
              ⟨⟨hH, hNX⟩, hI, hB, hK, by omega⟩
              ?a2
              ?assign ?body ?done ?stop
            case assign =>
              intro l x X K hK
              gi_wp2
              exact hK
            case body =>
              rintro lr pre ⟨x, hx1, hx2⟩ X2 h2 _
              gi_wp2
              exact ⟨KeepsOthers.refl _, rfl, h2⟩
            case done =>
              rintro D2 xs2 X2 hD2 _ ⟨⟨hH2, hNX2⟩, hI2, hB2, hKD, _⟩ hK2
              have cI := hI2.cell
              have cL := hH2.2.1.cell
              have cR := hH2.1.cell; have fR := hH2.1.frozen
              gi_wp2
              have hK3 : (X2.setCell ⟨W.heap.size, 0, none⟩ (.bool true)).heap[D2]? = some (.deferred (some [])) := (KeepsOthers.setCell X2 ⟨W.heap.size, 0, none⟩ (.bool true)).same D2 _ hK2 rfl
              have hK4 : ((X2.setCell ⟨W.heap.size, 0, none⟩ (.bool true)).putObj D2 (.deferred none)).heap[D]? = some (.deferred (some [])) := (World.putObj_heap_other (by omega)).trans ((KeepsOthers.setCell X2 ⟨W.heap.size, 0, none⟩ (.bool true)).same D _ hKD rfl)
              have bR3 : Boxed (X2.setCell ⟨W.heap.size, 0, none⟩ (.bool true)) W.heap.size 4 (.bool true) := hH2.1.set _
              have cR4 := cell_kept bR3.cell (grownBy_putObj' (X2.setCell ⟨W.heap.size, 0, none⟩ (.bool true)) D2 (.deferred none)) (fun r e => by cases e; exact ⟨_, hK3, rfl⟩)
              have cR5 := cell_kept cR4 (grownBy_putObj' ((X2.setCell ⟨W.heap.size, 0, none⟩ (.bool true)).putObj D2 (.deferred none)) D (.deferred none)) (fun r e => by cases e; exact ⟨_, hK4, rfl⟩)
              refine ⟨by simp, .inl ⟨_, _, rfl, run_takeDeferred hK3, ?_⟩⟩
              refine ⟨by simp, .inl ⟨_, _, rfl, run_takeDeferred hK4, ?_⟩⟩
              refine ⟨.bool true, by simp [results, Tryd.results14, go_sem, cR5], rfl, ?_⟩
              have hb9 := hB2.setCell (p := ⟨W.heap.size, 0, none⟩) (Nat.le_refl _) (.bool true)
              exact (hb9.trans (belowK_b (n₀ := W.heap.size) (w := W) (Nat.le_refl _) _ D2 _ (.deferred none) (by omega) hK3 rfl rfl)).trans (belowK_b (n₀ := W.heap.size) (w := W) (Nat.le_refl _) _ D _ (.deferred none) (by omega) hK4 rfl rfl)
            case stop =>
              rintro D2 c pre2 X2 hD2 _ ⟨rfl, ⟨hH2, hNX2⟩, hI2, hB2, hKD, _⟩ hK2
              have cI := hI2.cell
              have cL := hH2.2.1.cell
              have cR := hH2.1.cell; have fR := hH2.1.frozen
              gi_wp2
              have hK3 : (X2.setCell ⟨W.heap.size, 0, none⟩ (.bool true)).heap[D2]? = some (.deferred (some [])) := (KeepsOthers.setCell X2 ⟨W.heap.size, 0, none⟩ (.bool true)).same D2 _ hK2 rfl
              have hK4 : ((X2.setCell ⟨W.heap.size, 0, none⟩ (.bool true)).putObj D2 (.deferred none)).heap[D]? = some (.deferred (some [])) := (World.putObj_heap_other (by omega)).trans ((KeepsOthers.setCell X2 ⟨W.heap.size, 0, none⟩ (.bool true)).same D _ hKD rfl)
              have bR3 : Boxed (X2.setCell ⟨W.heap.size, 0, none⟩ (.bool true)) W.heap.size 4 (.bool true) := hH2.1.set _
              have cR4 := cell_kept bR3.cell (grownBy_putObj' (X2.setCell ⟨W.heap.size, 0, none⟩ (.bool true)) D2 (.deferred none)) (fun r e => by cases e; exact ⟨_, hK3, rfl⟩)
              have cR5 := cell_kept cR4 (grownBy_putObj' ((X2.setCell ⟨W.heap.size, 0, none⟩ (.bool true)).putObj D2 (.deferred none)) D (.deferred none)) (fun r e => by cases e; exact ⟨_, hK4, rfl⟩)
              refine ⟨by simp, .inl ⟨_, _, rfl, run_takeDeferred hK3, ?_⟩⟩
              refine ⟨by simp, .inl ⟨_, _, rfl, run_takeDeferred hK4, ?_⟩⟩
              refine ⟨.bool true, by simp [results, Tryd.results14, go_sem, cR5], rfl, ?_⟩
              have hb9 := hB2.setCell (p := ⟨W.heap.size, 0, none⟩) (Nat.le_refl _) (.bool true)
              exact (hb9.trans (belowK_b (n₀ := W.heap.size) (w := W) (Nat.le_refl _) _ D2 _ (.deferred none) (by omega) hK3 rfl rfl)).trans (belowK_b (n₀ := W.heap.size) (w := W) (Nat.le_refl _) _ D _ (.deferred none) (by omega) hK4 rfl rfl)
end Go.Proofs.YtgcgomofmicchaaDoor
