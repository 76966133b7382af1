/-
  What is proved here: what Copy and Each of a set hand back.
-/
import Derived.Test.YtgcgomofmicchaaDoorXm
import Derived.Test.YtgcgomofmicchaaDoorMb
namespace Go.Proofs.YtgcgomofmicchaaDoor
open Go.RowKit Go.Shelf

set_option maxRecDepth 100000 in
set_option maxHeartbeats 4000000 in
theorem copy_any (b g c : Nat) (f room : Int) (ws : List Nat) (W : World) (h : Bits W b g c f room ws) (hz : Sz f room ws) :
    Calls Tryd.prog 24 #[.pointer (some ⟨b, 0, none⟩)] W fun e w' => ∃ b', e = .returned (.pointer (some ⟨b', 0, none⟩)) ∧ IsBits w' W.heap.size b' f room ws ∧ Below W.heap.size W w' := by
  have c0 := h.c0; have c1 := h.c1; have c2 := h.c2
  have hl := hz.len; have z3 := hz.most
  have hbl := h.b_lt
  have kc := clone64 g 0 c ws W.drew (by omega) (fun i hi => by rw [Nat.zero_add]; exact (h.cw i hi).1)
  obtain ⟨n, hn⟩ : ∃ n, ws.length = n := ⟨_, rfl⟩
  have HN : Hid (ws.length = n) := hn
  rw [hn] at c2 kc
  obtain ⟨ww, hww⟩ : ∃ ww, words ws = ww := ⟨_, rfl⟩
  rw [hww] at kc
  have HWW : Hid (words ws = ww) := hww
  clear hn hl h hz hww
  go_enter Tryd.func24, Tryd.ntmps24
  go_wp2
  go_region_with (go_at_call 59; refine kc.mono ?_; clear kc; rintro e w1 ⟨g1, c1', rfl, hown, hb1⟩; have d0 := (hb1.cell (p := ⟨b, 0, none⟩) hbl).trans c0; have d1 := (hb1.cell (p := ⟨b, 1, none⟩) hbl).trans c1; have d2 := (hb1.cell (p := ⟨b, 2, none⟩) hbl).trans c2)
  all_goals go_wp2
  all_goals
    go_ret
    refine ⟨w1.heap.size, rfl, ?_, ?_⟩
    · have hs1 : W.heap.size ≤ w1.heap.size := hb1.size
      refine ⟨g1, c1', hs1, ?_, ?_⟩
      · rw [HN.out]; exact World.alloc_heap_new w1 _
      · rw [HN.out, HWW.out]; exact hown.alloc _
    · exact ((Below.refl W.heap.size W).drew.trans hb1).alloc hb1.size _

set_option maxHeartbeats 400000 in
theorem each2_any (b g c : Nat) (f room : Int) (ws : List Nat) (W : World) (h : Bits W b g c f room ws) (hz : Sz f room ws) :
    Calls Tryd.prog 38 #[.pointer (some ⟨b, 0, none⟩)] W fun e w' => ∃ B b', e = .returned (.func (.func 72) #[] #[.pointer (some ⟨B, 0, none⟩)]) ∧ Boxed w' B 24 (.pointer (some ⟨b', 0, none⟩)) ∧ IsBits w' W.heap.size b' f room ws ∧ W.heap.size ≤ B ∧ Below W.heap.size W w' := by
  have k := copy_any b g c f room ws W h hz
  have hmf : ∀ (fn : Fn) (first cap : Array Value) (w : World), (Instr.makeFunc fn first cap).run Tryd.prog w = .ok (.func fn first cap) w := fun _ _ _ _ => rfl
  clear h hz
  go_enter Tryd.func38, Tryd.ntmps38
  go_wp2_with (go_at_call 24; refine k.mono ?_; clear k; rintro e w1 ⟨b', rfl, hib, hb1⟩)
  go_ret
  refine ⟨w1.heap.size, b', rfl, Boxed.new _ _ _, ?_, hb1.size, hb1.alloc hb1.size _⟩
  obtain ⟨g', c', q1, q2, q3⟩ := hib
  exact ⟨g', c', q1, (Below.heap_alloc w1 _ b' (Array.getElem?_eq_some_iff.1 q2).1).trans q2, q3.alloc _⟩
end Go.Proofs.YtgcgomofmicchaaDoor
