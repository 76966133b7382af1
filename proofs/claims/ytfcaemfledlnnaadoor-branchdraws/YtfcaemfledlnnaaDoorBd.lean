/-
  What is proved here: what an iterator tells, put into a list: slices.AppendSeq and slices.Collect; Open.
-/
import Derived.Test.YtfcaemfledlnnaaDoorBc
import Derived.OwnWalk
import Derived.OwnWalkIn
namespace Go.Proofs.YtfcaemfledlnnaaDoor
open Go.RowKit Go.Shelf
set_option linter.unusedVariables false
set_option linter.unusedSimpArgs false

attribute [local go_sem] Oper.semAt_some
theorem Tryd.infoI : (Tryd.prog.info? 3).map (fun i => (i.zero, i.size, i.bytes)) = some (some (.int .i64 0), 1, 8) := by kernel_rfl
def ivl (l : List Int) : List Value := l.map fun v => .int .i64 v
/-- Numbers in memory of its own. -/
def Oi (B : Nat) (w : World) (v : Value) (l : List Int) : Prop := w.ownsRow B 3 1 v l.length (ivl l)
theorem own_keep {w w' : World} {B : Nat} {e : TypeId} {s : Nat} {v : Value} {n : Nat} {xs : List Value} (h : w.ownsRow B e s v n xs) (hb : ∀ g, v.ownBlock = some g → w'.heap[g]? = w.heap[g]?) : w'.ownsRow B e s v n xs := by
  refine ⟨h.1, ?_⟩
  rcases h.2 with e | ⟨g, cap, cur, e1, e2, hg, r⟩
  · exact .inl e
  · exact .inr ⟨g, cap, cur, e1, e2, (hb g (by rw [e1]; rfl)).trans hg, r⟩
theorem own_base {w : World} {B B' : Nat} {e : TypeId} {s : Nat} {v : Value} {n : Nat} {xs : List Value} (h : w.ownsRow B e s v n xs) (hB : B' ≤ B) : w.ownsRow B' e s v n xs :=
  ⟨h.1, by
    rcases h.2 with h2 | ⟨g, cap, cur, e1, hb, r⟩
    · exact .inl h2
    · exact .inr ⟨g, cap, cur, e1, Nat.le_trans hB hb, r⟩⟩
theorem Oi.typ {B : Nat} {w : World} {v : Value} {l : List Int} (h : Oi B w v l) {g : Nat} (hg : v.ownBlock = some g) : B ≤ g ∧ g < w.heap.size ∧ ∃ cur, w.heap[g]? = some (.cells cur 3 (0, 0)) := by
  rcases h.2 with ⟨e1, _⟩ | ⟨g', cap, cur, e1, e2, hg', r⟩
  · rw [e1] at hg; simp [Value.ownBlock] at hg
  · rw [e1] at hg
    obtain rfl : g' = g := by simpa [Value.ownBlock] using hg
    exact ⟨e2, (Array.getElem?_eq_some_iff.1 hg').1, cur, hg'⟩
theorem Oi.below {B : Nat} {w w' : World} {v : Value} {l : List Int} (h : Oi B w v l) (hb : Below w.heap.size w w') : Oi B w' v l := own_keep h fun g q => hb.block g (h.typ q).2.1
theorem Oi.ns {B : Nat} {w : World} {v : Value} {l : List Int} (h : Oi B w v l) : Ns w v l := by
  rcases h.2 with ⟨e1, e2⟩ | ⟨g, cap, cur, e1, hB, hg, hn, hm, hs, ht⟩
  · exact ⟨none, 0, by rw [e1, e2], fun h0 => by omega⟩
  · refine ⟨some ⟨g, 0, none⟩, cap, e1, fun h0 => ⟨g, 0, rfl, (Array.getElem?_eq_some_iff.1 hg).1, fun q => q, fun i x hx => ?_⟩⟩
    have hi := (List.getElem?_eq_some_iff.1 hx).1
    have hc : w.cell? ⟨g, 0 + i, none⟩ = cur[i]? := by simp [World.cell?, hg]
    have h1 : (ivl l)[i]? = some (.int .i64 x) := by simp [ivl, hx]
    rw [← ht, List.getElem?_take, if_pos (by omega), Array.getElem?_toList] at h1
    rw [hc]; exact h1
theorem Oi.shape {B : Nat} {w : World} {v : Value} {l : List Int} (h : Oi B w v l) : ∃ a c, v = .slice a l.length c := h.ns.shape
theorem below_put {B k : Nat} {W X : World} (h : Below B W X) (hk : B ≤ k) (o : Obj) : Below B W (X.putObj k o) := ⟨h.os, h.tape, h.output, by rw [World.putObj_size]; exact h.size, fun i hi => (World.putObj_heap_other (by omega)).trans (h.block i hi)⟩
theorem Bx.put {w : World} {g k : Nat} {cs : Array Value} {t : TypeId} {o o' : Obj} (h : Bx w g cs t) (hk : w.heap[k]? = some o) (ho : o.isCells = false) : Bx (w.putObj k o') g cs t :=
  ⟨(World.putObj_heap_other (fun e => by subst e; rw [h.h] at hk; cases hk; simp [Obj.isCells] at ho)).trans h.h⟩
theorem Oi.put {B k : Nat} {w : World} {v : Value} {l : List Int} {o o' : Obj} (h : Oi B w v l) (hk : w.heap[k]? = some o) (ho : o.isCells = false) : Oi B (w.putObj k o') v l :=
  own_keep h fun g q => by
    obtain ⟨_, _, cur, hc⟩ := h.typ q
    exact World.putObj_heap_other (fun e => by subst e; rw [hc] at hk; cases hk; simp [Obj.isCells] at ho)
/-- What lies in a box and in its row. -/
def Col (N : Nat) (W : World) (l : List Int) (X : World) : Prop := ∃ v, Bx X N #[v] 22 ∧ Oi (N + 1) X v l ∧ Below N W X
theorem col_app {N k : Nat} {W X w1 : World} {va : Option Addr} {vc : Nat} {l l' : List Int} {tmp : Obj} {v' : Value} (H1 : Bx X N #[.slice va k vc] 22) (HO : X.ownsRow (N + 1) 3 1 (.slice va k vc) k (ivl l)) (H3 : Below N W X)
    (hown : w1.ownsRow (N + 1) 3 1 v' (k + 1) (ivl l')) (hl' : l'.length = k + 1) (hgrow : (X.alloc tmp).grownBy w1 (Value.slice va k vc).ownBlock) (hbase : N + 1 ≤ X.heap.size) (B : Nat) :
    Bx w1 N #[.slice va k vc] 22 ∧ Col N W l' (w1.setCell ⟨N, 0, none⟩ v') ∧ KA B X (w1.setCell ⟨N, 0, none⟩ v') := by
  have hob : ∀ j, (Value.slice va k vc).ownBlock = some j → N + 1 ≤ j ∧ ∃ cur, X.heap[j]? = some (.cells cur 3 (0, 0)) := fun j ej => by
    rcases HO.2 with ⟨e, _⟩ | ⟨gg, cap, cur, e, hb, hgb, _⟩
    · rw [e] at ej; simp [Value.ownBlock] at ej
    · rw [e] at ej
      obtain rfl : gg = j := by simpa [Value.ownBlock] using ej
      exact ⟨hb, _, hgb⟩
  have hblk : ∀ b, b < X.heap.size → (Value.slice va k vc).ownBlock ≠ some b → w1.heap[b]? = X.heap[b]? := fun b hb hn =>
    (hgrow.block b (by simp; omega) (fun e => hn e.symm)).trans (Below.heap_alloc X tmp b hb)
  have b1 : Bx w1 N #[.slice va k vc] 22 := ⟨(hblk N (by omega) (fun e => by have := (hob N e).1; omega)).trans H1.h⟩
  have hsz : X.heap.size ≤ w1.heap.size := by have := hgrow.size; simp at this; omega
  have hO : Oi (N + 1) w1 v' l' := by unfold Oi; rw [hl']; exact hown
  refine ⟨b1, ⟨v', b1.set0, ?_, ?_⟩, ?_, ?_⟩
  · exact own_keep hO fun g q => Below.heap_setCell _ _ _ g (fun e => by
      obtain ⟨_, _, cur, hc⟩ := hO.typ q
      have e' : g = N := e
      subst e'
      rw [b1.h] at hc; cases hc)
  · refine ⟨hgrow.os.trans H3.os, hgrow.tape.trans H3.tape, hgrow.output.trans H3.output, ?_, fun b hb => ?_⟩
    · have := H3.size; simp [World.setCell]; omega
    · refine (Below.heap_setCell _ _ _ b (fun e => by have e' : b = N := e; omega)).trans ((hblk b (by omega) (fun e => by have := (hob b e).1; omega)).trans (H3.block b hb))
  · simpa [World.setCell] using hsz
  · intro b o _ hc ho
    have hb : b < X.heap.size := (Array.getElem?_eq_some_iff.1 ho).1
    refine (Below.heap_setCell _ _ _ b (fun e => ?_)).trans ((hblk b hb (fun e => ?_)).trans ho)
    · have e' : b = N := e
      subst e'
      rw [H1.h] at ho; cases ho; simp [Obj.isCells] at hc
    · obtain ⟨_, cur, h⟩ := hob b e
      rw [h] at ho; cases ho; simp [Obj.isCells] at hc
theorem openL_le (l : List Int) (D : List MD) : (openL l D).length ≤ l.length := List.length_filter_le _ _

set_option maxRecDepth 100000 in
set_option maxHeartbeats 4000000 in
theorem appendSeq_any (F : Nat) (caps : Array Value) (xs : List Int) (Kp : World → Prop) (W : World) (hT : Tells Tryd.prog F caps (ivl xs) Kp) (hF : ∀ args w, (callFunc F args).run Tryd.prog w = .ok (.enter F args) w)
    (hK : ∀ w', Below W.heap.size W w' → Kp w') (hxs : xs.length * 8 ≤ 140737488355328) :
    Calls Tryd.prog 34 #[.slice none 0 0, .func (.func F) #[] caps] W fun e w' => ∃ v, e = .returned v ∧ Oi W.heap.size w' v xs ∧ Below W.heap.size W w' := by
  refine (callsIn_wide (n := 6)).1 ?_
  refine callsIn_of_wp_marks Tryd.func34 rfl trivial ?_ rfl
  simp only [Tryd.ntmps34, List.size_toArray, List.length_cons, List.length_nil, Nat.reduceAdd, Nat.reduceSub, Array.replicate_succ, Array.replicate_zero, List.push_toArray, List.append_toArray, List.nil_append, List.cons_append]
  obtain ⟨N, hN⟩ : ∃ N, W.heap.size = N := ⟨_, rfl⟩
  have HT : Hid (Tells Tryd.prog F caps (ivl xs) Kp) := hT
  have HK : Hid _ := hK
  clear hT hK
  gi_wp2_with fail
  obtain ⟨Wa, hWa⟩ : ∃ Wa, W.alloc (Obj.cells #[Value.slice none 0 0] 22) = Wa := ⟨_, rfl⟩
  have hsa : Wa.heap.size = N + 1 := by rw [← hWa, ← hN]; simp
  have hba : Below N W Wa := by rw [← hWa, ← hN]; exact (Below.refl _ W).alloc (Nat.le_refl _) _
  have bx : Bx Wa N #[.slice none 0 0] 22 := by rw [← hWa]; exact Bx.new' hN _ _
  rw [hWa]
  have HSA : Hid _ := hsa
  have HN : Hid _ := hN
  have HXS : Hid _ := hxs
  clear hWa hsa hN hxs
  rw [HN.out] at HK
  refine range_any (id := 0) _ F caps (ivl xs) Kp HT.out rfl hF (fun k X => Col N W (xs.take k) X) (fun _ => False) (fun _ => False) (fun k X ⟨v, _, _, hb⟩ => HK.out _ hb) ?hIb ?hIp (fun _ _ _ _ _ h => h.elim) (fun _ _ _ _ _ h => h.elim) ⟨_, bx, by simpa [Oi, ivl] using World.ownsRow_nil _ _ _ _, hba⟩ (fun v => { tmps := #[.slice none 0 0, .func (.func F) #[] caps, .pointer (some ⟨N, 0, none⟩), undef, .slice none 0 0, v, .func (.func F) #[] caps, v, undef, undef, undef, undef, undef], defers := [] }) ?assign ?body (fun _ _ _ h => h.elim) (fun _ _ _ h => h.elim) ?done
  case hIb =>
    rintro k X X' hX ⟨v, h1, h2, h3⟩ hb
    exact ⟨v, h1.below hb, h2.below hb, h3.trans (hb.mono (by have := h3.size; have := HN.out; omega))⟩
  case hIp =>
    rintro k X j o o' hj ⟨v, h1, h2, h3⟩ ho hc
    exact ⟨v, h1.put ho hc, h2.put ho hc, below_put h3 (by have := HSA.out; omega) _⟩
  case assign =>
    intro l m v X K hK
    gi_wp2
    exact hK
  case body =>
    rintro l m k x X hx hX ⟨v, h1, h2, h3⟩
    obtain ⟨y, hy, rfl⟩ : ∃ y, xs[k]? = some y ∧ x = .int .i64 y := by
      unfold ivl at hx
      rw [List.getElem?_map, Option.map_eq_some_iff] at hx
      obtain ⟨y, h, rfl⟩ := hx
      exact ⟨y, h, rfl⟩
    have hk : k < xs.length := (List.getElem?_eq_some_iff.1 hy).1
    have hlen : (xs.take k).length = k := by simp; omega
    obtain ⟨i0, hi0, hz0, hz1, hz2⟩ := info_parts Tryd.infoI
    have HO : Hid (X.ownsRow (N + 1) 3 1 v k (ivl (xs.take k))) := by have := h2; unfold Oi at this; rw [hlen] at this; exact this
    obtain ⟨va, vc, rfl⟩ := h2.shape
    rw [hlen] at h1 h2 HO
    have c0 := h1.cell 0
    have cf := h1.fr 0
    simp only [List.getElem?_toArray, List.getElem?_cons_zero] at c0
    have hbytes : (k + 1) * 8 ≤ 140737488355328 := by have := HXS.out; omega
    have hlenm : k + 1 ≤ maxLen := by unfold maxLen; omega
    have hbase : N + 1 ≤ X.heap.size := by have := h1.lt; omega
    have HTK : Hid (ivl (xs.take (k + 1)) = ivl (xs.take k) ++ [.int .i64 y] ∧ (xs.take (k + 1)).length = k + 1) := by
      unfold Hid ivl; rw [List.take_add_one, hy]; simp; omega
    have H1 : Hid _ := h1
    have H2 : Hid _ := h2
    have H3 : Hid _ := h3
    have HNW : Hid ((X.alloc (Obj.cells #[.int .i64 y] 3)).cell? ⟨X.heap.size, 0, none⟩ = some (.int .i64 y)) := (Bx.new X #[.int .i64 y] 3).cell 0
    clear h1 h2 h3 hx hy
    gi_wp2_with (gi_at_builtin; refine wpListIn_append_own _ rfl _ _ 22 rfl (N + 1) 3 i0 (.int .i64 0) 1 8 Tryd.underlying22 hi0 hz0 hz1 hz2 rfl (by decide) _ _ _ rfl (HO.out.alloc _) ⟨X.heap.size, 0, none⟩ 1 1 [.int .i64 y] rfl rfl (fun j u hj => by cases j with | zero => (simp at hj; subst hj; simp [Addr.add]) | succ j => simp at hj) (by simp [Value.oneCell']) hlenm hbytes (by simp; omega) ?_; intro v' w1 hown' hgrow _; obtain ⟨gn, capn, rfl⟩ := ownsRow_succ hown'; obtain ⟨q1, q2, q3⟩ := col_app (l' := xs.take (k + 1)) (B := Wa.heap.size) H1.out HO.out H3.out (by rw [HTK.out.1]; exact hown') HTK.out.2 hgrow hbase; have hc2 := q1.cell 0; have hf2 := q1.fr 0; have Q2 : Hid _ := q2; have Q3 : Hid _ := q3; clear q1 q2 q3; simp only [List.getElem?_toArray, List.getElem?_cons_zero] at hc2)
    exact ⟨Q3.out, Q2.out⟩
  case done =>
    rintro D X hD ⟨v, h1, h2, h3⟩ hK
    rw [show (ivl xs).length = xs.length by simp [ivl], List.take_length] at h2
    obtain ⟨va, vc, rfl⟩ := h2.shape
    have c0 := h1.cell 0
    simp only [List.getElem?_toArray, List.getElem?_cons_zero] at c0
    generalize hxn : xs.length = xn at *
    have hgp := grownBy_putObj' X D (.deferred none)
    have HXN : Hid _ := hxn
    have H2 : Hid _ := h2
    have H3 : Hid _ := h3
    clear h2 h3 h1 hxn
    gi_wp2
    refine ⟨by simp, .inl ⟨_, _, rfl, run_takeDeferred hK, ?_⟩⟩
    refine ⟨.slice va xn vc, by simp [results, Tryd.results34, go_sem], _, rfl, ?_, ?_⟩
    · rw [HN.out]
      exact Oi.put (own_base H2.out (Nat.le_succ _)) hK rfl
    · rw [HN.out]
      exact below_put H3.out (by have := HSA.out; omega) _

set_option maxRecDepth 100000 in
set_option maxHeartbeats 4000000 in
theorem collect_any (F : Nat) (caps : Array Value) (xs : List Int) (Kp : World → Prop) (W : World) (hT : Tells Tryd.prog F caps (ivl xs) Kp) (hF : ∀ args w, (callFunc F args).run Tryd.prog w = .ok (.enter F args) w)
    (hK : ∀ w', Below W.heap.size W w' → Kp w') (hxs : xs.length * 8 ≤ 140737488355328) :
    Calls Tryd.prog 22 #[.func (.func F) #[] caps] W fun e w' => ∃ v, e = .returned v ∧ Oi W.heap.size w' v xs ∧ Below W.heap.size W w' := by
  have ka := appendSeq_any F caps xs Kp W hT hF hK hxs
  clear hT hF hK hxs
  go_enter Tryd.func22, Tryd.ntmps22
  go_wp2_with (go_at_call 34; refine ka.mono ?_; rintro e w1 ⟨v, rfl, ho, hb⟩; obtain ⟨a, c, rfl⟩ := ho.shape)
  go_ret
  exact ⟨_, rfl, ho, hb⟩
theorem callOpen1 (args : Array Value) (w : World) : (callFunc 32 args).run Tryd.prog w = .ok (.enter 32 args) w := enters_of Tryd.func32 (by kernel_rfl) rfl args w
/-- The open ones of some variables, as a list. -/
theorem collect_open {W : World} {s1 s2 : Value} {B1 B2 : Nat} {l : List Int} {D : List MD} (h : OpK B1 B2 s1 s2 l D W) (hD : ∀ d ∈ D, Good d) (hl : l.length * 8 ≤ 140737488355328) (hDl : D.length ≤ 9223372036854775806) :
    Calls Tryd.prog 22 #[.func (.func 32) #[] #[.pointer (some ⟨B1, 0, none⟩), .pointer (some ⟨B2, 0, none⟩)]] W fun e w' => ∃ v, e = .returned v ∧ Oi W.heap.size w' v (openL l D) ∧ Below W.heap.size W w' :=
  collect_any _ _ (openL l D) _ W (open1_tells B1 B2 s1 s2 l D hD (by omega) hDl) callOpen1 (fun w' hb => h.below hb) (by have := openL_le l D; omega)
end Go.Proofs.YtfcaemfledlnnaaDoor
