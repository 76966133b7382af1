/-
  What is proved here: The blocks with which a text begins are read: blocksOf.
-/
import Derived.Test.YtdnhhmnllhlbbaaGreatDoorPm
import Derived.Test.YtdnhhmnllhlbbaaGreatDoorPn
import Derived.Test.YtdnhhmnllhlbbaaGreatDoorPhj
namespace Go.Proofs.YtdnhhmnllhlbbaaGreatDoor
open Go.RowKit Go.Shelf
set_option linter.unusedVariables false
set_option linter.unusedSimpArgs false
/-- What blocksOf does. -/
def ReadBs (q : Nat) (xss : List (List (List Vl))) (W : World) (e : Ending) (w : World) : Prop := ∃ sv, e = .returned (.tuple #[sv, .int .i64 (q : Int), .bool true]) ∧ Sv3 (fun b => b < W.heap.size) w sv xss ∧ Below W.heap.size W w
theorem Tryz.info28 : (Tryz.prog.info? 28).map (fun i => (i.zero, i.size, i.bytes)) = some (some (.slice none 0 0), 1, 24) := by kernel_rfl

set_option maxRecDepth 100000 in
set_option maxHeartbeats 4000000 in
theorem blocks47 {W : World} {os : Value} {l : List Ou} {xss : List (List (List Vl))} (s r : List UInt8) (h : Sou W os l) (hr : RightN l = 0) (hz : ∀ o ∈ l, OuZ o) (hnm : ∀ o ∈ l, o.nm.length ≤ 10000000000) (hxs : ∀ x ∈ xss, ∃ vals, ousV l vals = some x)
    (hat : s = blksT l xss ++ (61 :: r)) (hs : s.length ≤ 1000000000) (hT : Tens W) (hM : MaxL W) :
    Calls Tryz.prog 47 #[.string (bs s), os] W fun e w' => ReadBs (blksT l xss).length xss W e w' := by
  obtain ⟨hn1, hwr⟩ := right_ok hr
  have K1 : Hid (∀ (X : World) (q : Nat) (x : List (List Vl)) (R : List UInt8), Below W.heap.size W X → x ∈ xss → q ≤ s.length → s.drop q = blockT l x ++ R → Calls Tryz.prog 46 #[.string (bs s), .int .i64 (q : Int), os] X fun e w' => ReadB (q + (blockT l x).length) x X e w') := fun X q x R hX hx hq hd => by
    obtain ⟨vals, hv⟩ := hxs x hx
    exact block46 s R (h.below hX) hr hz hnm hv hd hq (by omega) (hT.self hX) (hM.self hX)
  have K2 : Hid (∀ (X : World) (q : Nat), Below W.heap.size W X → q ≤ s.length → s.drop q = 61 :: r → Calls Tryz.prog 46 #[.string (bs s), .int .i64 (q : Int), os] X fun e w' => ReadF q X e w') := fun X q hX hq hd => block46_bad s r (h.below hX) hr hz hnm hd hq (by omega) (hT.self hX)
  have K3 : Hid (∀ (X : World), Below W.heap.size W X → Calls Tryz.prog 73 #[.string (bs (61 :: r)), os] X fun e w' => e = .returned (.bool false) ∧ w' = X) := fun X hX => beg73 r (h.below hX) hn1 (fun o ho => (wr_ok (hwr o ho)).1)
  obtain ⟨n, hn⟩ : ∃ n, xss.length = n := ⟨_, rfl⟩
  have HN : Hid (xss.length = n) := hn
  have hnb : n ≤ 100000000 := by have := blks_len l xss; rw [hat, List.length_append] at hs; omega
  have HS : Hid (s = blksT l xss ++ (61 :: r) ∧ s.length ≤ 1000000000) := ⟨hat, hs⟩
  obtain ⟨oa, on, oc, rfl⟩ : ∃ a n c, os = .slice a n c := by obtain ⟨a, c, e, _⟩ := h; exact ⟨_, _, _, e⟩
  clear h hr hz hnm hxs hat hs hT hM hn1 hwr hn
  go_enter Tryz.func47, Tryz.ntmps47
  go_wp2
  go_loopw [7, 8] (fun u i wr => ∃ (k : Nat), i = .int .i64 (((blksT l (xss.take k)).length : Nat) : Int) ∧ k ≤ n ∧ Hid (Gw W.heap.size wr u (xss.take k)) ∧ Hid (Below W.heap.size W wr)) (fun u i _ => (blksT l xss).length - (intOf i).toNat)
  case atStart => exact ⟨0, by simp [blksT], Nat.zero_le _, Gw.nil _ _, Below.refl _ _⟩
  case round =>
    obtain ⟨k, rfl, hk, HG, HB⟩ := hrel
    obtain ⟨q, hq⟩ : ∃ q, (blksT l (xss.take k)).length = q := ⟨_, rfl⟩
    obtain ⟨ua, un, uc, rfl⟩ : ∃ a n c, u7 = .slice a n c := by obtain ⟨ss, _, hs2, _⟩ := HG.out.o; obtain ⟨a9, c9, e9, _⟩ := hs2.shape; exact ⟨_, _, _, e9⟩
    by_cases hlt : k < n
    · obtain ⟨x, hx⟩ : ∃ g, xss[k]? = some g := ⟨_, List.getElem?_eq_getElem (by rw [HN.out]; exact hlt)⟩
      obtain ⟨R, e1, e2⟩ := blks_at (l := l) hx
      have hXT : xss.take (k + 1) = xss.take k ++ [x] := by rw [List.take_add_one, hx]; rfl
      have hd : s.drop q = blockT l x ++ (R ++ (61 :: r)) := by rw [HS.out.1, e1, ← hq, List.append_assoc, List.drop_left, List.append_assoc]
      have hql : q ≤ s.length := by rw [HS.out.1, e1, ← hq]; simp only [List.length_append]; omega
      have kb := K1.out wr q x _ HB.out (List.mem_of_getElem? hx) hql hd
      have hq2 : (blksT l (xss.take (k + 1))).length = q + (blockT l x).length := by rw [e2, List.length_append, hq]
      have hbp := block_pos l x
      have hle : q + (blockT l x).length ≤ (blksT l xss).length := by rw [e1, ← hq]; simp only [List.length_append]; omega
      obtain ⟨q3, hq3⟩ : ∃ q3, q + (blockT l x).length = q3 := ⟨_, rfl⟩
      rw [hq3] at kb hq2 hle
      have HQ : Hid ((blksT l (xss.take (k + 1))).length = q3 ∧ q < q3 ∧ q3 ≤ (blksT l xss).length) := ⟨hq2, by omega, hle⟩
      have HXT : Hid (xss.take (k + 1) = xss.take k ++ [x]) := hXT
      rw [hq]
      clear hx e1 e2 hXT hd hql hq2 hbp hle hq3
      go_wp2_with fail
      refine kb.mono ?_
      rintro e w2 ⟨sv, rfl, hsv, hb2⟩
      obtain ⟨sa, sc, rfl, _⟩ := id hsv
      obtain ⟨sn, hsn⟩ : ∃ n, x.length = n := ⟨_, rfl⟩
      have HSV : Hid (SvvX (fun b => b < wr.heap.size) w2 (.slice sa sn sc) x) := by rw [← hsn]; exact hsv
      have HB2 : Hid (Below W.heap.size W w2) := HB.out.trans (hb2.mono HB.out.size)
      have HG2 : Hid (Gw W.heap.size w2 (.slice ua un uc) (xss.take k)) := HG.out.kept (Kept.of_below hb2)
      have HOW : Hid (∀ b, (Value.slice ua un uc).ownBlock = some b → W.heap.size ≤ b ∧ b < wr.heap.size) := fun b e => ⟨HG.out.b b e, by obtain ⟨ss, _, h9, _⟩ := HG.out.o; exact h9.lt e⟩
      rw [hsn]
      have HBW := HB
      clear kb hsv hb2 HB HG hsn
      have hb3 : Below w2.heap.size w2 (w2.alloc (Obj.cells #[.slice sa sn sc] 28)) := (Below.refl _ _).alloc (Nat.le_refl _) _
      have HRW : Hid (Blk (w2.alloc (Obj.cells #[.slice sa sn sc] 28)) w2.heap.size #[.slice sa sn sc] 28) := Blk.new _ _ _
      have HG3 : Hid (Gw W.heap.size (w2.alloc (Obj.cells #[.slice sa sn sc] 28)) (.slice ua un uc) (xss.take k)) := HG2.out.kept (Kept.of_below hb3)
      have HB3 : Hid (Below W.heap.size W (w2.alloc (Obj.cells #[.slice sa sn sc] 28))) := HB2.out.trans (hb3.mono HB2.out.size)
      have HSV3 : Hid (SvvX (fun b => b < wr.heap.size) (w2.alloc (Obj.cells #[.slice sa sn sc] 28)) (.slice sa sn sc) x) := HSV.out.below hb3
      obtain ⟨ss, hs1, hs2, hs3⟩ := HG3.out.o
      have HS2 : Hid (Ow (w2.alloc (Obj.cells #[.slice sa sn sc] 28)) 28 (.slice ua un uc) 1 (ss.map fun x => [x])) := hs2
      have HS13 : Hid (ss.length = (xss.take k).length ∧ ∀ (j : Nat) (x : List (List Vl)) (sj : Value), (xss.take k)[j]? = some x → ss[j]? = some sj → SvvX (fun b => b < W.heap.size ∨ (Value.slice ua un uc).ownBlock = some b) (w2.alloc (Obj.cells #[.slice sa sn sc] 28)) sj x) := ⟨hs1, hs3⟩
      have hsl : (ss.map fun x => [x]).length ≤ 100000000 := by rw [List.length_map, hs1, List.length_take]; omega
      have HWR : Hid (W.heap.size ≤ wr.heap.size) := HBW.out.size
      clear hb3 hs1 hs2 hs3 HG2 HB2 HSV
      go_wp2_with (at_builtin; refine list_app HS2.out 43 Tryz.underlying43 Tryz.info28 rfl (by decide) rfl (.tmp 36) (.tmp 38) rfl rfl ⟨w2.heap.size, 0, none⟩ 1 rfl [.slice sa sn sc] rfl (fun j u hu => by rw [Addr.add_lit, Nat.zero_add, HRW.out.cell j]; simpa using hu) (by intro u hu; rw [List.mem_singleton.1 hu]; rfl) hsl (by decide) ?_; intro d1 w8 hr1 hg1 hn1; refine Hid.out ?_)
      refine (show Hid _ from ?_)
      unfold Hid
      have HG8 : Hid (Gw W.heap.size w8 d1 (xss.take (k + 1))) := by
        unfold Hid
        rw [HXT.out]
        exact HG3.out.snoc HB3.out.size HS13.out.1 HS13.out.2 (HSV3.out.mono (fun b q => by
          rcases q with q | q
          · have := HWR.out; omega
          · exact (HOW.out b q).2)) hr1 hg1 hn1
      have HB8 : Hid (Below W.heap.size W w8) := HB3.out.grown hg1 HB3.out.size (fun b e => (HOW.out b e).1)
      obtain ⟨va, vn, vc, rfl⟩ : ∃ a n c, d1 = .slice a n c := by obtain ⟨a9, c9, e9, _⟩ := hr1.shape; exact ⟨_, _, _, e9⟩
      clear hr1 hg1 hn1 hsl HS13 HS2 HG3 HB3 HSV3 HRW HOW HWR
      go_wp2
      go_roundw
      case rel => exact ⟨k + 1, by rw [HQ.out.1], by omega, HG8.out, HB8.out⟩
      case measure => have := HQ.out.2; simp [intOf]; omega
    · have hkn : k = n := by omega
      have ht : xss.take k = xss := by rw [hkn, ← HN.out]; exact List.take_length
      rw [ht] at hq HG
      have hd : s.drop q = 61 :: r := by rw [HS.out.1, ← hq, List.drop_left]
      have hql : q ≤ s.length := by rw [HS.out.1, ← hq]; simp only [List.length_append]; omega
      have kb := K2.out wr q HB.out hql hd
      have hfr := bs_from s q hql
      rw [hd] at hfr
      have HQ : Hid ((blksT l xss).length = q) := hq
      rw [ht, hq]
      clear ht hd hql hq
      go_wp2_with fail
      refine kb.mono ?_
      rintro e w2 ⟨rfl, hb2⟩
      have HB2 : Hid (Below W.heap.size W w2) := HB.out.trans (hb2.mono HB.out.size)
      have HG2 : Hid (Gw W.heap.size w2 (.slice ua un uc) xss) := HG.out.kept (Kept.of_below hb2)
      have k3 := K3.out w2 HB2.out
      clear kb hb2 HB HG
      go_wp2_with fail
      refine k3.mono ?_
      rintro e w3 ⟨rfl, rfl⟩
      clear k3
      have HSF : Hid (Sv3 (fun b => b < W.heap.size) w3 (.slice ua un uc) xss) := HG2.out.done
      go_wp2
      go_ret3
      exact ⟨_, by rw [HQ.out]; rfl, HSF.out, HB2.out⟩
end Go.Proofs.YtdnhhmnllhlbbaaGreatDoor
