/-
  What is proved here: A block that stands at a place is read: blockAt.
-/
import Derived.Test.YtdnhhmnllhlbbaaGreatDoorPhj
import Derived.Test.YtdnhhmnllhlbbaaGreatDoorOr
namespace Go.Proofs.YtdnhhmnllhlbbaaGreatDoor
open Go.RowKit Go.Shelf
set_option linter.unusedVariables false
set_option linter.unusedSimpArgs false
theorem outs_at : ∀ {l : List Ou} {xs : List (List Vl)} {k : Nat} {o : Ou} {x : List Vl}, l[k]? = some o → xs[k]? = some x → ∃ R, outsT l xs = outsT (l.take k) (xs.take k) ++ (outT o x ++ R)
  | [], xs, k, o, x, h, _ => by simp at h
  | a :: l, [], k, o, x, _, h => by simp at h
  | a :: l, b :: xs, 0, o, x, h, h2 => by
    simp at h h2
    subst h h2
    exact ⟨outsT l xs, rfl⟩
  | a :: l, b :: xs, k + 1, o, x, h, h2 => by
    obtain ⟨R, e⟩ := outs_at (l := l) (xs := xs) (k := k) (by simpa using h) (by simpa using h2)
    refine ⟨R, ?_⟩
    show outT a b ++ outsT l xs = outT a b ++ outsT (l.take k) (xs.take k) ++ (outT o x ++ R)
    rw [e, List.append_assoc]
theorem ouV_con {o : Ou} {vals : List Vl} {x : List Vl} (h : ouV o vals = some x) : ∀ (i : Nat) (t : Tm) (v : Vl), o.l[i]? = some t → x[i]? = some v → t.v = -1 → v.n = t.n ∧ v.s = t.s := by
  unfold ouV at h
  split at h
  · injection h with h
    subst h
    intro i t v ht hv hc
    rw [List.getElem?_map, ht] at hv
    injection hv with hv
    subst hv
    have e : voV t vals = (⟨t.set, t.n, t.s⟩, true) := by unfold voV; rw [if_pos hc]
    show (voV t vals).1.n = t.n ∧ (voV t vals).1.s = t.s
    rw [e]
    exact ⟨rfl, rfl⟩
  · cases h
theorem wp_norm {c : Code} {P : Program} {Q : Exit → Act → World → Prop} {a : Act} {w : World} (h : c.wp P (Exit.then (fun a w => Q .normal a w) (fun _ _ _ => False)) a w) : c.wp P Q a w := wp_mono h (fun e a w h => by cases e <;> first | exact h | exact h.elim)
theorem res_46 {fn : Func} (hf : fn.results = #[.cell 6 28, .cell 7 3, .cell 8 4]) (tmps : Array Value) {w : World} {A : Nat} {u v x : Value} (h : Res3 w A u v x) (h6 : tmps.getD 6 undef = .pointer (some ⟨A, 0, none⟩)) (h7 : tmps.getD 7 undef = .pointer (some ⟨A + 1, 0, none⟩)) (h8 : tmps.getD 8 undef = .pointer (some ⟨A + 2, 0, none⟩)) :
    (results fn tmps).run Tryz.prog w = .ok (.tuple #[u, v, x]) w := by
  have c1 : w.cell? ⟨A, 0, none⟩ = some u := h.h1.cell 0
  have c2 : w.cell? ⟨A + 1, 0, none⟩ = some v := h.h2.cell 0
  have c3 : w.cell? ⟨A + 2, 0, none⟩ = some x := h.h3.cell 0
  have h6' : tmps[6]?.getD undef = .pointer (some ⟨A, 0, none⟩) := by simpa using h6
  have h7' : tmps[7]?.getD undef = .pointer (some ⟨A + 1, 0, none⟩) := by simpa using h7
  have h8' : tmps[8]?.getD undef = .pointer (some ⟨A + 2, 0, none⟩) := by simpa using h8
  simp [results, hf, h6', h7', h8', asAddr, Sem.run_bind, Result.andThen, go_sem, c1, c2, c3]
/-- What blockAt does where a block stands at a place. -/
def ReadB (q : Nat) (xs : List (List Vl)) (W : World) (e : Ending) (w : World) : Prop := ∃ sv, e = .returned (.tuple #[sv, .int .i64 (q : Int), .bool true]) ∧ SvvX (fun b => b < W.heap.size) w sv xs ∧ Below W.heap.size W w

set_option maxRecDepth 100000 in
set_option maxHeartbeats 4000000 in
theorem block46 {W : World} {os : Value} {l : List Ou} {vals : List Vl} {xs : List (List Vl)} {p : Nat} (s r : List UInt8) (h : Sou W os l) (hr : RightN l = 0) (hz : ∀ o ∈ l, OuZ o) (hnm : ∀ o ∈ l, o.nm.length ≤ 10000000000) (hxs : ousV l vals = some xs)
    (hat : s.drop p = blockT l xs ++ r) (hp : p ≤ s.length) (hs : s.length ≤ 1000000000000) (hT : Tens W) (hM : MaxL W) :
    Calls Tryz.prog 46 #[.string (bs s), .int .i64 (p : Int), os] W fun e w' => ReadB (p + (blockT l xs).length) xs W e w' := by
  have hmf : ∀ (fn : Fn) (first cap : Array Value) (w : World), (Instr.makeFunc fn first cap).run Tryz.prog w = .ok (.func fn first cap) w := fun _ _ _ _ => rfl
  have hxl := ousV_len hxs
  obtain ⟨hn1, hwr⟩ := right_ok hr
  obtain ⟨a, c, rfl, h'⟩ := h
  have HA : Hid (Sou W (.slice a l.length c) l) := ⟨_, _, rfl, h'⟩
  obtain ⟨n, hn⟩ : ∃ n, l.length = n := ⟨_, rfl⟩
  have HN : Hid (l.length = n ∧ xs.length = n) := ⟨hn, by rw [hxl, hn]⟩
  have HR : Hid (∀ o ∈ l, wrB o = false) := hwr
  have HZ : Hid (∀ o ∈ l, OuZ o ∧ o.nm.length ≤ 10000000000) := fun o ho => ⟨hz o ho, hnm o ho⟩
  have HXS : Hid (ousV l vals = some xs) := hxs
  have HTM : Hid (Tens W ∧ MaxL W) := ⟨hT, hM⟩
  rw [hn] at HA hn1 ⊢
  have h1 : s.drop p = outsT l xs ++ (dashT ++ r) := by rw [hat]; unfold blockT; rw [List.append_assoc]
  obtain ⟨q1, hq1⟩ : ∃ q, p + (outsT l xs).length = q := ⟨_, rfl⟩
  have h2 : s.drop q1 = dashT ++ r := by rw [← hq1]; exact drop_app h1
  have hq1l : q1 ≤ s.length := by rw [← hq1]; exact drop_le hp h1
  have hq2 : p + (blockT l xs).length = q1 + dashT.length := by unfold blockT; rw [List.length_append]; omega
  obtain ⟨q2, hq2'⟩ : ∃ q, q1 + dashT.length = q := ⟨_, rfl⟩
  have HS : Hid (s.drop p = outsT l xs ++ (dashT ++ r) ∧ p ≤ s.length ∧ s.length ≤ 1000000000000 ∧ q1 ≤ s.length) := ⟨h1, hp, hs, hq1l⟩
  have HQ : Hid (p + (outsT l xs).length = q1 ∧ q1 + dashT.length = q2) := ⟨hq1, hq2'⟩
  have HLC : Hid (lcp (s.drop q1) dashT = dashT.length) := by unfold Hid; rw [h2]; exact lcp_app _ _
  rw [hq2, hq2']
  obtain ⟨A, hA⟩ : ∃ A, W.heap.size = A := ⟨_, rfl⟩
  have HAW : Hid (W.heap.size = A) := hA
  obtain ⟨w1, hw1⟩ : ∃ q, ((W.alloc (Obj.cells #[.slice none 0 0] 28)).alloc (Obj.cells #[.int .i64 0] 3)).alloc (Obj.cells #[.bool false] 4) = q := ⟨_, rfl⟩
  have hs1 : w1.heap.size = A + 3 := by rw [← hw1, ← hA]; simp
  have hb1 : Below W.heap.size W w1 := by rw [← hw1]; exact (((Below.refl _ _).alloc (Nat.le_refl _) _).alloc (by simp) _).alloc (by simp; omega) _
  have HR1 : Hid (Res3 w1 A (.slice none 0 0) (.int .i64 0) (.bool false)) := by
    have e1 := Blk.new W #[.slice none 0 0] 28
    have e2 := Blk.new (W.alloc (Obj.cells #[.slice none 0 0] 28)) #[.int .i64 0] 3
    have e3 := Blk.new ((W.alloc (Obj.cells #[.slice none 0 0] 28)).alloc (Obj.cells #[.int .i64 0] 3)) #[.bool false] 4
    rw [World.size_alloc, hA] at e2
    rw [World.size_alloc, World.size_alloc, hA] at e3
    rw [hA] at e1
    rw [← hw1]
    exact ⟨(e1.alloc _).alloc _, e2.alloc _, e3⟩
  obtain ⟨g, hg⟩ : ∃ g, A + 3 = g := ⟨_, rfl⟩
  have HG : Hid (A + 3 = g) := hg
  rw [hg] at hs1
  have hb2 : Below w1.heap.size w1 (w1.alloc (Obj.cells #[.string (bs s), .int .i64 (p : Int)] 115)) := (Below.refl _ _).alloc (Nat.le_refl _) _
  have HX2 : Hid (Blk (w1.alloc (Obj.cells #[.string (bs s), .int .i64 (p : Int)] 115)) g #[.string (bs s), .int .i64 (p : Int)] 115) := by rw [← hs1]; exact Blk.new _ _ _
  obtain ⟨w2, hw2⟩ : ∃ q, w1.alloc (Obj.cells #[.string (bs s), .int .i64 (p : Int)] 115) = q := ⟨_, rfl⟩
  rw [hw2] at hb2 HX2
  have HR2 : Hid (Res3 w2 A (.slice none 0 0) (.int .i64 0) (.bool false)) := HR1.out.below hb2
  have HB2 : Hid (Below W.heap.size W w2) := hb1.trans (hb2.mono hb1.size)
  have HW : Hid (((W.alloc (Obj.cells #[.slice none 0 0] 28)).alloc (Obj.cells #[.int .i64 0] 3)).alloc (Obj.cells #[.bool false] 4) = w1 ∧ w1.alloc (Obj.cells #[.string (bs s), .int .i64 (p : Int)] 115) = w2 ∧ w1.heap.size = g) := ⟨hw1, hw2, hs1⟩
  clear h' hn hwr hz hnm hxs hT hM h1 h2 hq1 hq1l hq2 hq2' hA hw1 hs1 hb1 HR1 hg hb2 hw2 hxl hr hat hp hs
  go_enter_defers Tryz.func46, Tryz.ntmps46
  go_upto_region 2 with (fail)
  rw [HW.out.1, HAW.out]
  go_upto_region 3 with (fail)
  rw [HW.out.2.1, HW.out.2.2]
  clear HW
  go_wp2
  go_loopw [18] (fun i wr => ∃ (k : Nat) (u : Value), i = .int .i64 (k : Int) ∧ k ≤ n ∧ Hid (Res3 wr A u (.int .i64 0) (.bool false)) ∧ Hid (Gv (g + 1) wr u (xs.take k)) ∧ Hid (Blk wr g #[.string (bs s), .int .i64 ((p + (outsT (l.take k) (xs.take k)).length : Nat) : Int)] 115) ∧ Hid (Below W.heap.size W wr)) (fun i _ => n - (intOf i).toNat)
  case atStart => exact ⟨0, .slice none 0 0, rfl, Nat.zero_le _, HR2.out, Gv.nil _ _, HX2.out, HB2.out⟩
  case round =>
    obtain ⟨k, u, rfl, hk, HRR, HGG, HX, HB⟩ := hrel
    by_cases hlt : k < n
    · have hlt' : (k : Int) < n := by omega
      obtain ⟨o, ho⟩ : ∃ g, l[k]? = some g := ⟨_, List.getElem?_eq_getElem (by rw [HN.out.1]; exact hlt)⟩
      have hol := List.mem_of_getElem? ho
      obtain ⟨x, hx, hov⟩ := ousV_get HXS.out ho
      obtain ⟨hxl, hxv⟩ := ouV_facts hov
      have hcon := ouV_con hov
      have hsh := (wr_ok (HR.out o hol)).2.2.1
      have HTK : Hid (outsT (l.take (k + 1)) (xs.take (k + 1)) = outsT (l.take k) (xs.take k) ++ outT o x) := outsT_take ho hx
      have HXT : Hid (xs.take (k + 1) = xs.take k ++ [x]) := by unfold Hid; rw [List.take_add_one, hx]; rfl
      obtain ⟨Rx, hRx⟩ := outs_at ho hx
      obtain ⟨b, off, dv, lv, rfl, hb, hdv, hlv, d0, d1, d2, d3, d4⟩ := HA.out.at ho
      obtain ⟨da, dc, rfl, _⟩ := id hdv
      obtain ⟨la, lc, rfl, _⟩ := id hlv
      have hbo : Below W.heap.size W wr := HB.out
      obtain ⟨D, hD⟩ : ∃ D, outsT (l.take k) (xs.take k) = D := ⟨_, rfl⟩
      rw [hD] at HX HTK hRx
      have hat1 : s.drop p = D ++ (outT o x ++ (Rx ++ (dashT ++ r))) := by rw [HS.out.1, hRx]; simp only [List.append_assoc]
      obtain ⟨q, hq⟩ : ∃ q, p + D.length = q := ⟨_, rfl⟩
      have hat2 : s.drop q = outT o x ++ (Rx ++ (dashT ++ r)) := by rw [← hq]; exact drop_app hat1
      have hql : q ≤ s.length := by rw [← hq]; exact drop_le HS.out.2.1 hat1
      rw [hq] at HX
      have HQN : Hid (p + (outsT (l.take (k + 1)) (xs.take (k + 1))).length = q + (outT o x).length) := by unfold Hid; rw [HTK.out, List.length_append]; omega
      obtain ⟨ss, hs1, hs2, hs3⟩ := id HGG.out.o
      obtain ⟨ua, uc, rfl, hu1, hu2⟩ := hs2.shape
      have hul : (ss.map fun x => [x]).length = k := by rw [List.length_map, hs1, List.length_take, HN.out.2]; omega
      rw [hul] at HGG HRR
      have HOWN : Hid (∀ b, (Value.slice ua k uc).ownBlock = some b → g + 1 ≤ b ∧ b < wr.heap.size) := fun b e => ⟨HGG.out.b b e, by rw [hul] at hs2; exact hs2.lt e⟩
      have hwk : IntKind.i64.wrap ((k : Int) + 1) = (k : Int) + 1 := by rw [IntKind.wrap_i64]; omega
      have y0 := (hbo.cell (p := ⟨b, off + k * 5, none⟩) hb).trans d0
      have y1 := (hbo.cell (p := ⟨b, off + k * 5 + 1, none⟩) hb).trans d1
      have y2 := (hbo.cell (p := ⟨b, off + k * 5 + 2, none⟩) hb).trans d2
      have y3 := (hbo.cell (p := ⟨b, off + k * 5 + 3, none⟩) hb).trans d3
      have y4 := (hbo.cell (p := ⟨b, off + k * 5 + 4, none⟩) hb).trans d4
      have KO : Hid (∀ X, Below W.heap.size W X → Blk X g #[.string (bs s), .int .i64 (q : Int)] 115 → Calls Tryz.prog 71 #[.pointer (some ⟨g, 0, none⟩), .agg #[.string (bs o.nm), .slice da o.dims.length dc, .slice la o.l.length lc, .int .i64 o.kind, .bool o.one]] X fun e w' => ReadO s g (q + (outT o x).length) x X e w') := fun X hX hXg =>
        output71 s _ o x hdv hlv hX (by have := HG.out; rw [HAW.out]; omega) hXg hxl hxv hcon hat2 hql HS.out.2.2.1 (HZ.out o hol).2 hsh (HZ.out o hol).1 HTM.out.1 HTM.out.2
      obtain ⟨dn, hdn⟩ : ∃ q, o.dims.length = q := ⟨_, rfl⟩
      obtain ⟨m, hm⟩ : ∃ q, o.l.length = q := ⟨_, rfl⟩
      obtain ⟨q3, hq3⟩ : ∃ q', q + (outT o x).length = q' := ⟨_, rfl⟩
      rw [hdn] at KO d1 y1
      rw [hm] at KO d2 y2
      rw [hq3] at KO HQN
      have HXN : Hid (xs.length = n) := HN.out.2
      clear hD hul hs1 hs2 hs3 hu1 hu2 hx ho hov hxl hxv hcon hsh hRx hdv hlv hat1 hat2 hql hq hq3 hdn hm d0 d1 d2 d3 d4 hol hbo HTK
      go_upto_region 6 with (fail)
      clear y0 y1 y2 y3 y4
      obtain ⟨xb, hxb⟩ : ∃ q, wr.heap.size = q := ⟨_, rfl⟩
      obtain ⟨w2', hw2'⟩ : ∃ q, wr.alloc (Obj.cells #[.string (bs o.nm), .slice da dn dc, .slice la m lc, .int .i64 o.kind, .bool o.one] 53) = q := ⟨_, rfl⟩
      have hbw2 : Below wr.heap.size wr w2' := by rw [← hw2']; exact (Below.refl _ _).alloc (Nat.le_refl _) _
      have HO3 : Hid (Blk w2'.drew xb #[.string (bs o.nm), .slice da dn dc, .slice la m lc, .int .i64 o.kind, .bool o.one] 53) := by rw [← hw2', ← hxb]; exact (Blk.new _ _ _).below ((Below.refl _ _).drew)
      have hbw3 : Below wr.heap.size wr w2'.drew := hbw2.drew
      rw [hw2', hxb]
      rw [hxb] at HOWN
      obtain ⟨w3, hw3⟩ : ∃ q, w2'.drew = q := ⟨_, rfl⟩
      rw [hw3] at HO3 hbw3
      have HRR3 : Hid (Res3 w3 A (.slice ua k uc) (.int .i64 0) (.bool false)) := HRR.out.below hbw3
      have HX3 : Hid (Blk w3 g #[.string (bs s), .int .i64 (q : Int)] 115) := HX.out.below hbw3
      have HB3 : Hid (Below W.heap.size W w3) := HB.out.trans (hbw3.mono HB.out.size)
      have HG3 : Hid (Gv (g + 1) w3 (.slice ua k uc) (xs.take k)) := HGG.out.kept (Kept.of_below hbw3)
      have HW3 : Hid (w2'.drew = w3) := hw3
      have HXB : Hid (g < xb) := by rw [← hxb]; exact HX.out.lt
      clear hw2' hxb hbw2 hbw3 hw3 HRR HX HB HGG
      refine wp_norm ?_
      refine wp_region_held_drew (S := (fun X : World => Blk X xb #[.string (bs o.nm), .slice da dn dc, .slice la m lc, .int .i64 o.kind, .bool o.one] 53)) (by kernel_rfl) ((by rw [HW3.out]; exact HO3.out)) (fun hHeld => ?_)
      refine tkI 1 rfl hHeld ?_ (hy := by intro w hSw; have z0 := hSw.cell 0; have z1 := hSw.cell 1; have z2 := hSw.cell 2; have z3 := hSw.cell 3; have z4 := hSw.cell 4; go_simp <;> with_reducible rfl)
      try simp only [Act.put, zS, eZ, eS]
      refine rd2 0 2 (fun K hK => ?_) (fun K hK => ?_)
      · (try rw [HW3.out])
        have zc := HRR3.out.h1.cell 0
        go_simp
        clear zc
        clear hHeld; refine hK.out _ _ (HO3.out) fun hHeld => ?_
        clear hK K
        try simp only [Act.put, zS, eZ, eS]
        refine rdy 2 rfl fun K hK => ?_
        (try rw [HW3.out])
        go_simp
        refine (KO.out w3 HB3.out HX3.out).mono ?_
        rintro e w5 ⟨sv, rfl, hsv, hX5, hK5⟩
        obtain ⟨sa, sc, rfl, _⟩ := id hsv
        have HG5 : Hid (Gv (g + 1) w5 (.slice ua k uc) (xs.take k)) := HG3.out.kept ((Kept.refl (fun b => b < g + 1) w3).trans hK5 (fun b q => .inl (by omega)))
        have HRR5 : Hid (Res3 w5 A (.slice ua k uc) (.int .i64 0) (.bool false)) := ⟨⟨(hK5.block A HRR3.out.h1.lt (by have := HG.out; omega)).trans HRR3.out.h1.h⟩, ⟨(hK5.block (A + 1) HRR3.out.h2.lt (by have := HG.out; omega)).trans HRR3.out.h2.h⟩, ⟨(hK5.block (A + 2) HRR3.out.h3.lt (by have := HG.out; omega)).trans HRR3.out.h3.h⟩⟩
        have HO5 : Hid (Blk w5 xb #[.string (bs o.nm), .slice da dn dc, .slice la m lc, .int .i64 o.kind, .bool o.one] 53) := ⟨(hK5.block xb HO3.out.lt (by have := HXB.out; omega)).trans HO3.out.h⟩
        have HX5 : Hid (Blk w5 g #[.string (bs s), .int .i64 (q3 : Int)] 115) := hX5
        have HB5 : Hid (Below W.heap.size W w5) := HB3.out.trans (hK5.below HB3.out.size (fun b q => by have := HG.out; have := HAW.out; omega))
        have HSV5 : Hid (SvX (fun b => b < g + 1 ∨ (Value.slice ua k uc).ownBlock = some b) w5 (.slice sa x.length sc) x) := hsv.mono (fun b q => by
          rcases q with q | q
          · have := HX3.out.lt; omega
          · obtain ⟨ss9, _, h9, _⟩ := HG3.out.o
            exact h9.lt q)
        obtain ⟨xn, hxn⟩ : ∃ q, x.length = q := ⟨_, rfl⟩
        rw [hxn] at HSV5 ⊢
        clear hsv hX5 hK5
        clear hHeld; refine hK.out _ _ (HO5.out) fun hHeld => ?_
        clear hK K
        try simp only [Act.put, zS, eZ, eS]
        refine rdy 3 rfl fun K hK => ?_
        obtain ⟨bq, hbq⟩ : ∃ q, w5.heap.size = q := ⟨_, rfl⟩
        go_simp
        (try rw [hbq])
        obtain ⟨wb, hwb⟩ : ∃ q, w5.alloc (Obj.cells #[.slice sa xn sc] 23) = q := ⟨_, rfl⟩
        rw [hwb]
        have hbb : Below w5.heap.size w5 wb := by rw [← hwb]; exact (Below.refl _ _).alloc (Nat.le_refl _) _
        have HRB : Hid (Blk wb bq #[.slice sa xn sc] 23) := by rw [← hwb, ← hbq]; exact Blk.new _ _ _
        have HG6 : Hid (Gv (g + 1) wb (.slice ua k uc) (xs.take k)) := HG5.out.kept (Kept.of_below hbb)
        have HRR6 : Hid (Res3 wb A (.slice ua k uc) (.int .i64 0) (.bool false)) := HRR5.out.below hbb
        have HO6 : Hid (Blk wb xb #[.string (bs o.nm), .slice da dn dc, .slice la m lc, .int .i64 o.kind, .bool o.one] 53) := HO5.out.below hbb
        have HX6 : Hid (Blk wb g #[.string (bs s), .int .i64 (q3 : Int)] 115) := HX5.out.below hbb
        have HB6 : Hid (Below W.heap.size W wb) := HB5.out.trans (hbb.mono HB5.out.size)
        have HSV6 : Hid (SvX (fun b => b < g + 1 ∨ (Value.slice ua k uc).ownBlock = some b) wb (.slice sa xn sc) x) := HSV5.out.kept (Kept.of_below hbb)
        clear hwb hbq hbb HG5 HRR5 HO5 HX5 HB5 HSV5
        clear hHeld; refine hK.out _ _ (HO6.out) fun hHeld => ?_
        clear hK K
        try simp only [Act.put, zS, eZ, eS]
        refine rdy 4 rfl fun K hK => ?_
        obtain ⟨ss, hs1, hs2, hs3⟩ := HG6.out.o
        have HS2 : Hid (Ow wb 23 (.slice ua k uc) 1 (ss.map fun x => [x])) := hs2
        have HS13 : Hid (ss.length = (xs.take k).length ∧ ∀ (j : Nat) (x : List Vl) (sj : Value), (xs.take k)[j]? = some x → ss[j]? = some sj → SvX (fun b => b < g + 1 ∨ (Value.slice ua k uc).ownBlock = some b) wb sj x) := ⟨hs1, hs3⟩
        have hsl : (ss.map fun x => [x]).length ≤ 100000000 := by rw [List.length_map, hs1, List.length_take]; omega
        clear hs1 hs2 hs3
        refine step_app HS2.out 28 Tryz.underlying28 Tryz.info23 rfl (by decide) rfl _ _ rfl rfl ⟨bq, 0, none⟩ 1 (by with_unfolding_all rfl) [.slice sa xn sc] rfl (fun j u hj => by rw [Addr.add_lit, Nat.zero_add, HRB.out.cell]; simpa using hj) (by intro u hu; rw [List.mem_singleton.1 hu]; rfl) hsl (by decide) ?_
        intro v6 w6 h61 h62 h63
        have hown : ∀ b, (Value.slice ua k uc).ownBlock = some b → g + 1 ≤ b := HG6.out.b
        have HG7 : Hid (Gv (g + 1) w6 v6 (xs.take (k + 1))) := by
          unfold Hid
          rw [HXT.out]
          exact HG6.out.snoc (by have := HX6.out.lt; omega) HS13.out.1 HS13.out.2 HSV6.out h61 h62 h63
        have HRR7 : Hid (Res3 w6 A (.slice ua k uc) (.int .i64 0) (.bool false)) := ⟨⟨(h62.block A HRR6.out.h1.lt (fun e => by have := hown A e.symm; have := HG.out; omega)).trans HRR6.out.h1.h⟩, ⟨(h62.block (A + 1) HRR6.out.h2.lt (fun e => by have := hown _ e.symm; have := HG.out; omega)).trans HRR6.out.h2.h⟩, ⟨(h62.block (A + 2) HRR6.out.h3.lt (fun e => by have := hown _ e.symm; have := HG.out; omega)).trans HRR6.out.h3.h⟩⟩
        have HX7 : Hid (Blk w6 g #[.string (bs s), .int .i64 (q3 : Int)] 115) := ⟨(h62.block g HX6.out.lt (fun e => by have := hown g e.symm; omega)).trans HX6.out.h⟩
        have HO7 : Hid (Blk w6 xb #[.string (bs o.nm), .slice da dn dc, .slice la m lc, .int .i64 o.kind, .bool o.one] 53) := ⟨(h62.block xb HO6.out.lt (fun e => by have := (HOWN.out xb e.symm).2; omega)).trans HO6.out.h⟩
        have HB7 : Hid (Below W.heap.size W w6) := HB6.out.grown h62 HB6.out.size (fun b e => by have := hown b e; have := HG.out; have := HAW.out; omega)
        obtain ⟨va, vn, vc, rfl⟩ : ∃ a n c, v6 = .slice a n c := by obtain ⟨a9, c9, e9, _⟩ := h61.shape; exact ⟨_, _, _, e9⟩
        clear h61 h62 h63 hown HG6 HRR6 HX6 HB6 HSV6 HS2 HS13 hsl HRB HO6
        clear hHeld; refine hK.out _ _ (HO7.out) fun hHeld => ?_
        clear hK K
        try simp only [Act.put, zS, eZ, eS]
        refine rdy 5 rfl fun K hK => ?_
        have zc := HRR7.out.h1.cell 0
        have zf := HRR7.out.h1.frozen 0
        go_simp
        clear zc zf
        clear hHeld; refine hK.out _ _ (HO7.out.other (k := A) (by have := HG.out; have := HXB.out; omega) 0 _) fun hHeld => ?_
        clear hK K
        try simp only [Act.put, zS, eZ, eS]
        refine wpAnyH_done (by kernel_rfl) ?_ _
        go_wp2
        go_roundw
        case rel =>
          refine ⟨k + 1, .slice va vn vc, by go_num, by omega, ⟨HRR7.out.h1.set 0 _, HRR7.out.h2.other (by omega) 0 _, HRR7.out.h3.other (by omega) 0 _⟩, HG7.out.kept ((Kept.refl _ _).setCell (by have := HG.out; omega) 0 _), ?_, HB7.out.setCell (by have := HAW.out; show W.heap.size ≤ A; omega) _⟩
          rw [HQN.out]
          exact HX7.out.other (by have := HG.out; omega) 0 _
        case measure => simp [intOf]; omega
      · (try rw [HW3.out])
        go_simp
        refine (KO.out w3 HB3.out HX3.out).mono ?_
        rintro e w5 ⟨sv, rfl, hsv, hX5, hK5⟩
        obtain ⟨sa, sc, rfl, _⟩ := id hsv
        have HG5 : Hid (Gv (g + 1) w5 (.slice ua k uc) (xs.take k)) := HG3.out.kept ((Kept.refl (fun b => b < g + 1) w3).trans hK5 (fun b q => .inl (by omega)))
        have HRR5 : Hid (Res3 w5 A (.slice ua k uc) (.int .i64 0) (.bool false)) := ⟨⟨(hK5.block A HRR3.out.h1.lt (by have := HG.out; omega)).trans HRR3.out.h1.h⟩, ⟨(hK5.block (A + 1) HRR3.out.h2.lt (by have := HG.out; omega)).trans HRR3.out.h2.h⟩, ⟨(hK5.block (A + 2) HRR3.out.h3.lt (by have := HG.out; omega)).trans HRR3.out.h3.h⟩⟩
        have HO5 : Hid (Blk w5 xb #[.string (bs o.nm), .slice da dn dc, .slice la m lc, .int .i64 o.kind, .bool o.one] 53) := ⟨(hK5.block xb HO3.out.lt (by have := HXB.out; omega)).trans HO3.out.h⟩
        have HX5 : Hid (Blk w5 g #[.string (bs s), .int .i64 (q3 : Int)] 115) := hX5
        have HB5 : Hid (Below W.heap.size W w5) := HB3.out.trans (hK5.below HB3.out.size (fun b q => by have := HG.out; have := HAW.out; omega))
        have HSV5 : Hid (SvX (fun b => b < g + 1 ∨ (Value.slice ua k uc).ownBlock = some b) w5 (.slice sa x.length sc) x) := hsv.mono (fun b q => by
          rcases q with q | q
          · have := HX3.out.lt; omega
          · obtain ⟨ss9, _, h9, _⟩ := HG3.out.o
            exact h9.lt q)
        obtain ⟨xn, hxn⟩ : ∃ q, x.length = q := ⟨_, rfl⟩
        rw [hxn] at HSV5 ⊢
        clear hsv hX5 hK5
        clear hHeld; refine hK.out _ _ (HO5.out) fun hHeld => ?_
        clear hK K
        try simp only [Act.put, zS, eZ, eS]
        refine rd2 0 3 (fun K hK => ?_) (fun K hK => ?_)
        · have zc := HRR5.out.h1.cell 0
          go_simp
          clear zc
          clear hHeld; refine hK.out _ _ (HO5.out) fun hHeld => ?_
          clear hK K
          try simp only [Act.put, zS, eZ, eS]
          refine rdy 3 rfl fun K hK => ?_
          obtain ⟨bq, hbq⟩ : ∃ q, w5.heap.size = q := ⟨_, rfl⟩
          go_simp
          (try rw [hbq])
          obtain ⟨wb, hwb⟩ : ∃ q, w5.alloc (Obj.cells #[.slice sa xn sc] 23) = q := ⟨_, rfl⟩
          rw [hwb]
          have hbb : Below w5.heap.size w5 wb := by rw [← hwb]; exact (Below.refl _ _).alloc (Nat.le_refl _) _
          have HRB : Hid (Blk wb bq #[.slice sa xn sc] 23) := by rw [← hwb, ← hbq]; exact Blk.new _ _ _
          have HG6 : Hid (Gv (g + 1) wb (.slice ua k uc) (xs.take k)) := HG5.out.kept (Kept.of_below hbb)
          have HRR6 : Hid (Res3 wb A (.slice ua k uc) (.int .i64 0) (.bool false)) := HRR5.out.below hbb
          have HO6 : Hid (Blk wb xb #[.string (bs o.nm), .slice da dn dc, .slice la m lc, .int .i64 o.kind, .bool o.one] 53) := HO5.out.below hbb
          have HX6 : Hid (Blk wb g #[.string (bs s), .int .i64 (q3 : Int)] 115) := HX5.out.below hbb
          have HB6 : Hid (Below W.heap.size W wb) := HB5.out.trans (hbb.mono HB5.out.size)
          have HSV6 : Hid (SvX (fun b => b < g + 1 ∨ (Value.slice ua k uc).ownBlock = some b) wb (.slice sa xn sc) x) := HSV5.out.kept (Kept.of_below hbb)
          clear hwb hbq hbb HG5 HRR5 HO5 HX5 HB5 HSV5
          clear hHeld; refine hK.out _ _ (HO6.out) fun hHeld => ?_
          clear hK K
          try simp only [Act.put, zS, eZ, eS]
          refine rdy 4 rfl fun K hK => ?_
          obtain ⟨ss, hs1, hs2, hs3⟩ := HG6.out.o
          have HS2 : Hid (Ow wb 23 (.slice ua k uc) 1 (ss.map fun x => [x])) := hs2
          have HS13 : Hid (ss.length = (xs.take k).length ∧ ∀ (j : Nat) (x : List Vl) (sj : Value), (xs.take k)[j]? = some x → ss[j]? = some sj → SvX (fun b => b < g + 1 ∨ (Value.slice ua k uc).ownBlock = some b) wb sj x) := ⟨hs1, hs3⟩
          have hsl : (ss.map fun x => [x]).length ≤ 100000000 := by rw [List.length_map, hs1, List.length_take]; omega
          clear hs1 hs2 hs3
          refine step_app HS2.out 28 Tryz.underlying28 Tryz.info23 rfl (by decide) rfl _ _ rfl rfl ⟨bq, 0, none⟩ 1 (by with_unfolding_all rfl) [.slice sa xn sc] rfl (fun j u hj => by rw [Addr.add_lit, Nat.zero_add, HRB.out.cell]; simpa using hj) (by intro u hu; rw [List.mem_singleton.1 hu]; rfl) hsl (by decide) ?_
          intro v6 w6 h61 h62 h63
          have hown : ∀ b, (Value.slice ua k uc).ownBlock = some b → g + 1 ≤ b := HG6.out.b
          have HG7 : Hid (Gv (g + 1) w6 v6 (xs.take (k + 1))) := by
            unfold Hid
            rw [HXT.out]
            exact HG6.out.snoc (by have := HX6.out.lt; omega) HS13.out.1 HS13.out.2 HSV6.out h61 h62 h63
          have HRR7 : Hid (Res3 w6 A (.slice ua k uc) (.int .i64 0) (.bool false)) := ⟨⟨(h62.block A HRR6.out.h1.lt (fun e => by have := hown A e.symm; have := HG.out; omega)).trans HRR6.out.h1.h⟩, ⟨(h62.block (A + 1) HRR6.out.h2.lt (fun e => by have := hown _ e.symm; have := HG.out; omega)).trans HRR6.out.h2.h⟩, ⟨(h62.block (A + 2) HRR6.out.h3.lt (fun e => by have := hown _ e.symm; have := HG.out; omega)).trans HRR6.out.h3.h⟩⟩
          have HX7 : Hid (Blk w6 g #[.string (bs s), .int .i64 (q3 : Int)] 115) := ⟨(h62.block g HX6.out.lt (fun e => by have := hown g e.symm; omega)).trans HX6.out.h⟩
          have HO7 : Hid (Blk w6 xb #[.string (bs o.nm), .slice da dn dc, .slice la m lc, .int .i64 o.kind, .bool o.one] 53) := ⟨(h62.block xb HO6.out.lt (fun e => by have := (HOWN.out xb e.symm).2; omega)).trans HO6.out.h⟩
          have HB7 : Hid (Below W.heap.size W w6) := HB6.out.grown h62 HB6.out.size (fun b e => by have := hown b e; have := HG.out; have := HAW.out; omega)
          obtain ⟨va, vn, vc, rfl⟩ : ∃ a n c, v6 = .slice a n c := by obtain ⟨a9, c9, e9, _⟩ := h61.shape; exact ⟨_, _, _, e9⟩
          clear h61 h62 h63 hown HG6 HRR6 HX6 HB6 HSV6 HS2 HS13 hsl HRB HO6
          clear hHeld; refine hK.out _ _ (HO7.out) fun hHeld => ?_
          clear hK K
          try simp only [Act.put, zS, eZ, eS]
          refine rdy 5 rfl fun K hK => ?_
          have zc := HRR7.out.h1.cell 0
          have zf := HRR7.out.h1.frozen 0
          go_simp
          clear zc zf
          clear hHeld; refine hK.out _ _ (HO7.out.other (k := A) (by have := HG.out; have := HXB.out; omega) 0 _) fun hHeld => ?_
          clear hK K
          try simp only [Act.put, zS, eZ, eS]
          refine wpAnyH_done (by kernel_rfl) ?_ _
          go_wp2
          go_roundw
          case rel =>
            refine ⟨k + 1, .slice va vn vc, by go_num, by omega, ⟨HRR7.out.h1.set 0 _, HRR7.out.h2.other (by omega) 0 _, HRR7.out.h3.other (by omega) 0 _⟩, HG7.out.kept ((Kept.refl _ _).setCell (by have := HG.out; omega) 0 _), ?_, HB7.out.setCell (by have := HAW.out; show W.heap.size ≤ A; omega) _⟩
            rw [HQN.out]
            exact HX7.out.other (by have := HG.out; omega) 0 _
          case measure => simp [intOf]; omega
        · obtain ⟨bq, hbq⟩ : ∃ q, w5.heap.size = q := ⟨_, rfl⟩
          go_simp
          (try rw [hbq])
          obtain ⟨wb, hwb⟩ : ∃ q, w5.alloc (Obj.cells #[.slice sa xn sc] 23) = q := ⟨_, rfl⟩
          rw [hwb]
          have hbb : Below w5.heap.size w5 wb := by rw [← hwb]; exact (Below.refl _ _).alloc (Nat.le_refl _) _
          have HRB : Hid (Blk wb bq #[.slice sa xn sc] 23) := by rw [← hwb, ← hbq]; exact Blk.new _ _ _
          have HG6 : Hid (Gv (g + 1) wb (.slice ua k uc) (xs.take k)) := HG5.out.kept (Kept.of_below hbb)
          have HRR6 : Hid (Res3 wb A (.slice ua k uc) (.int .i64 0) (.bool false)) := HRR5.out.below hbb
          have HO6 : Hid (Blk wb xb #[.string (bs o.nm), .slice da dn dc, .slice la m lc, .int .i64 o.kind, .bool o.one] 53) := HO5.out.below hbb
          have HX6 : Hid (Blk wb g #[.string (bs s), .int .i64 (q3 : Int)] 115) := HX5.out.below hbb
          have HB6 : Hid (Below W.heap.size W wb) := HB5.out.trans (hbb.mono HB5.out.size)
          have HSV6 : Hid (SvX (fun b => b < g + 1 ∨ (Value.slice ua k uc).ownBlock = some b) wb (.slice sa xn sc) x) := HSV5.out.kept (Kept.of_below hbb)
          clear hwb hbq hbb HG5 HRR5 HO5 HX5 HB5 HSV5
          clear hHeld; refine hK.out _ _ (HO6.out) fun hHeld => ?_
          clear hK K
          try simp only [Act.put, zS, eZ, eS]
          refine rdy 0 rfl fun K hK => ?_
          have zc := HRR6.out.h1.cell 0
          go_simp
          clear zc
          clear hHeld; refine hK.out _ _ (HO6.out) fun hHeld => ?_
          clear hK K
          try simp only [Act.put, zS, eZ, eS]
          refine rdy 4 rfl fun K hK => ?_
          obtain ⟨ss, hs1, hs2, hs3⟩ := HG6.out.o
          have HS2 : Hid (Ow wb 23 (.slice ua k uc) 1 (ss.map fun x => [x])) := hs2
          have HS13 : Hid (ss.length = (xs.take k).length ∧ ∀ (j : Nat) (x : List Vl) (sj : Value), (xs.take k)[j]? = some x → ss[j]? = some sj → SvX (fun b => b < g + 1 ∨ (Value.slice ua k uc).ownBlock = some b) wb sj x) := ⟨hs1, hs3⟩
          have hsl : (ss.map fun x => [x]).length ≤ 100000000 := by rw [List.length_map, hs1, List.length_take]; omega
          clear hs1 hs2 hs3
          refine step_app HS2.out 28 Tryz.underlying28 Tryz.info23 rfl (by decide) rfl _ _ rfl rfl ⟨bq, 0, none⟩ 1 (by with_unfolding_all rfl) [.slice sa xn sc] rfl (fun j u hj => by rw [Addr.add_lit, Nat.zero_add, HRB.out.cell]; simpa using hj) (by intro u hu; rw [List.mem_singleton.1 hu]; rfl) hsl (by decide) ?_
          intro v6 w6 h61 h62 h63
          have hown : ∀ b, (Value.slice ua k uc).ownBlock = some b → g + 1 ≤ b := HG6.out.b
          have HG7 : Hid (Gv (g + 1) w6 v6 (xs.take (k + 1))) := by
            unfold Hid
            rw [HXT.out]
            exact HG6.out.snoc (by have := HX6.out.lt; omega) HS13.out.1 HS13.out.2 HSV6.out h61 h62 h63
          have HRR7 : Hid (Res3 w6 A (.slice ua k uc) (.int .i64 0) (.bool false)) := ⟨⟨(h62.block A HRR6.out.h1.lt (fun e => by have := hown A e.symm; have := HG.out; omega)).trans HRR6.out.h1.h⟩, ⟨(h62.block (A + 1) HRR6.out.h2.lt (fun e => by have := hown _ e.symm; have := HG.out; omega)).trans HRR6.out.h2.h⟩, ⟨(h62.block (A + 2) HRR6.out.h3.lt (fun e => by have := hown _ e.symm; have := HG.out; omega)).trans HRR6.out.h3.h⟩⟩
          have HX7 : Hid (Blk w6 g #[.string (bs s), .int .i64 (q3 : Int)] 115) := ⟨(h62.block g HX6.out.lt (fun e => by have := hown g e.symm; omega)).trans HX6.out.h⟩
          have HO7 : Hid (Blk w6 xb #[.string (bs o.nm), .slice da dn dc, .slice la m lc, .int .i64 o.kind, .bool o.one] 53) := ⟨(h62.block xb HO6.out.lt (fun e => by have := (HOWN.out xb e.symm).2; omega)).trans HO6.out.h⟩
          have HB7 : Hid (Below W.heap.size W w6) := HB6.out.grown h62 HB6.out.size (fun b e => by have := hown b e; have := HG.out; have := HAW.out; omega)
          obtain ⟨va, vn, vc, rfl⟩ : ∃ a n c, v6 = .slice a n c := by obtain ⟨a9, c9, e9, _⟩ := h61.shape; exact ⟨_, _, _, e9⟩
          clear h61 h62 h63 hown HG6 HRR6 HX6 HB6 HSV6 HS2 HS13 hsl HRB HO6
          clear hHeld; refine hK.out _ _ (HO7.out) fun hHeld => ?_
          clear hK K
          try simp only [Act.put, zS, eZ, eS]
          refine rdy 5 rfl fun K hK => ?_
          have zc := HRR7.out.h1.cell 0
          have zf := HRR7.out.h1.frozen 0
          go_simp
          clear zc zf
          clear hHeld; refine hK.out _ _ (HO7.out.other (k := A) (by have := HG.out; have := HXB.out; omega) 0 _) fun hHeld => ?_
          clear hK K
          try simp only [Act.put, zS, eZ, eS]
          refine wpAnyH_done (by kernel_rfl) ?_ _
          go_wp2
          go_roundw
          case rel =>
            refine ⟨k + 1, .slice va vn vc, by go_num, by omega, ⟨HRR7.out.h1.set 0 _, HRR7.out.h2.other (by omega) 0 _, HRR7.out.h3.other (by omega) 0 _⟩, HG7.out.kept ((Kept.refl _ _).setCell (by have := HG.out; omega) 0 _), ?_, HB7.out.setCell (by have := HAW.out; show W.heap.size ≤ A; omega) _⟩
            rw [HQN.out]
            exact HX7.out.other (by have := HG.out; omega) 0 _
          case measure => simp [intOf]; omega
    · have hkn : k = n := by omega
      have t1 : l.take k = l := by rw [hkn, ← HN.out.1]; exact List.take_length
      have t2 : xs.take k = xs := by rw [hkn, ← HN.out.2]; exact List.take_length
      have hlt' : ¬ (k : Int) < (n : Int) := by omega
      rw [t1, t2, HQ.out.1] at HX
      rw [t2] at HGG
      have kn := need72 s dashT HX.out HS.out.2.2.2 HS.out.2.2.1 (by decide)
      obtain ⟨ua, un, uc, rfl⟩ : ∃ a n c, u = .slice a n c := by obtain ⟨ss, _, hs2, _⟩ := HGG.out.o; obtain ⟨a9, c9, e9, _⟩ := hs2.shape; exact ⟨_, _, _, e9⟩
      clear t1 t2
      go_wp2_with fail
      refine kn.mono ?_
      rintro e w5 ⟨hX5, hK5, (⟨_, rfl⟩ | ⟨hlt2, _⟩)⟩
      rotate_left 1
      · rw [HLC.out] at hlt2; exact absurd hlt2 (Nat.lt_irrefl _)
      rw [HLC.out, HQ.out.2] at hX5
      have HX5 : Hid (Blk w5 g #[.string (bs s), .int .i64 (q2 : Int)] 115) := hX5
      have HG5 : Hid (Gv (g + 1) w5 (.slice ua un uc) xs) := HGG.out.kept ((Kept.refl (fun b => b < g + 1) wr).trans hK5 (fun b q => .inl (by omega)))
      have HRR5 : Hid (Res3 w5 A (.slice ua un uc) (.int .i64 0) (.bool false)) := ⟨⟨(hK5.block A HRR.out.h1.lt (by have := HG.out; omega)).trans HRR.out.h1.h⟩, ⟨(hK5.block (A + 1) HRR.out.h2.lt (by have := HG.out; omega)).trans HRR.out.h2.h⟩, ⟨(hK5.block (A + 2) HRR.out.h3.lt (by have := HG.out; omega)).trans HRR.out.h3.h⟩⟩
      have HB5 : Hid (Below W.heap.size W w5) := HB.out.trans (hK5.below HB.out.size (fun b q => by have := HG.out; have := HAW.out; omega))
      clear kn hX5 hK5 HX HGG HRR HB
      go_upto_region 9 with (fail)
      have HRd : Hid (Res3 w5.drew A (.slice ua un uc) (.int .i64 0) (.bool false)) := HRR5.out.below ((Below.refl _ _).drew)
      have HXd : Hid (Blk w5.drew g #[.string (bs s), .int .i64 (q2 : Int)] 115) := HX5.out.below ((Below.refl _ _).drew)
      have HGd : Hid (Gv (g + 1) w5.drew (.slice ua un uc) xs) := HG5.out.kept (Kept.of_below ((Below.refl _ _).drew))
      have HBd : Hid (Below W.heap.size W w5.drew) := HB5.out.drew
      obtain ⟨w6, hw6⟩ : ∃ q, w5.drew = q := ⟨_, rfl⟩
      rw [hw6] at HRd HXd HGd HBd
      have HW6 : Hid (w5.drew = w6) := hw6
      clear hw6 HX5 HG5 HRR5 HB5
      refine wp_norm ?_
      refine wp_region_held_drew (S := (fun X : World => X.cell? ⟨A, 0, none⟩ = some (.slice ua un uc) ∧ X.cell? ⟨g, 1, none⟩ = some (.int .i64 (q2 : Int)))) (by kernel_rfl) ((by rw [HW6.out]; exact ⟨HRd.out.h1.cell 0, HXd.out.cell 1⟩)) (fun hHeld => ?_)
      refine tkI 0 rfl hHeld ?_ (hy := by intro w hSw; have z0 := hSw.1; go_simp <;> with_reducible rfl)
      try simp only [Act.put, zS, eZ, eS]
      refine tkI 1 rfl hHeld ?_
      try simp only [Act.put, zS, eZ, eS]
      refine tkI 2 rfl hHeld ?_ (hy := by intro w hSw; have z0 := hSw.2; go_simp <;> with_reducible rfl)
      try simp only [Act.put, zS, eZ, eS]
      refine rdy 3 rfl fun K hK => ?_
      rw [HW6.out]
      have zc := HRd.out.h1.cell 0
      have zf := HRd.out.h1.frozen 0
      go_simp
      clear zc zf
      clear hHeld; refine hK.out _ _ (⟨(HRd.out.h1.set 0 _).cell 0, (HXd.out.other (k := A) (by have := HG.out; omega) 0 _).cell 1⟩) fun hHeld => ?_
      clear hK K
      try simp only [Act.put, zS, eZ, eS]
      refine rdy 4 rfl fun K hK => ?_
      have zc := (HRd.out.h2.other (k := A) (by omega) 0 (.slice ua un uc)).cell 0
      have zf := (HRd.out.h2.other (k := A) (by omega) 0 (.slice ua un uc)).frozen 0
      go_simp
      clear zc zf
      clear hHeld; refine hK.out _ _ (⟨((HRd.out.h1.set 0 _).other (k := A + 1) (by omega) 0 _).cell 0, ((HXd.out.other (k := A) (by have := HG.out; omega) 0 _).other (k := A + 1) (by have := HG.out; omega) 0 _).cell 1⟩) fun hHeld => ?_
      clear hK K
      try simp only [Act.put, zS, eZ, eS]
      refine rdy 5 rfl fun K hK => ?_
      have zc := ((HRd.out.h3.other (k := A) (by omega) 0 (.slice ua un uc)).other (k := A + 1) (by omega) 0 (.int .i64 (q2 : Int))).cell 0
      have zf := ((HRd.out.h3.other (k := A) (by omega) 0 (.slice ua un uc)).other (k := A + 1) (by omega) 0 (.int .i64 (q2 : Int))).frozen 0
      go_simp
      clear zc zf
      clear hHeld; refine hK.out _ _ (⟨(((HRd.out.h1.set 0 _).other (k := A + 1) (by omega) 0 _).other (k := A + 2) (by omega) 0 _).cell 0, (((HXd.out.other (k := A) (by have := HG.out; omega) 0 _).other (k := A + 1) (by have := HG.out; omega) 0 _).other (k := A + 2) (by have := HG.out; omega) 0 _).cell 1⟩) fun hHeld => ?_
      clear hK K
      try simp only [Act.put, zS, eZ, eS]
      refine wpAnyH_done (by kernel_rfl) ?_ _
      have HRF := HRd.out.set (.slice ua un uc) (.int .i64 (q2 : Int)) (.bool true)
      have HGF : Gv (g + 1) (((w6.setCell ⟨A, 0, none⟩ (.slice ua un uc)).setCell ⟨A + 1, 0, none⟩ (.int .i64 (q2 : Int))).setCell ⟨A + 2, 0, none⟩ (.bool true)) (.slice ua un uc) xs := HGd.out.kept ((((Kept.refl _ _).setCell (by have := HG.out; omega) 0 _).setCell (by have := HG.out; omega) 0 _).setCell (by have := HG.out; omega) 0 _)
      have HBF : Below W.heap.size W (((w6.setCell ⟨A, 0, none⟩ (.slice ua un uc)).setCell ⟨A + 1, 0, none⟩ (.int .i64 (q2 : Int))).setCell ⟨A + 2, 0, none⟩ (.bool true)) := ((HBd.out.setCell (by have := HAW.out; show W.heap.size ≤ A; omega) _).setCell (by have := HAW.out; show W.heap.size ≤ A + 1; omega) _).setCell (by have := HAW.out; show W.heap.size ≤ A + 2; omega) _
      go_wp2
      refine leaves_cons (f := 70) (args := #[.pointer (some ⟨A, 0, none⟩), .pointer (some ⟨A + 1, 0, none⟩), .pointer (some ⟨A + 2, 0, none⟩)]) (by simp) (by simp [go_sem]) ?_
      refine (idle70 _ _ _ _).mono ?_
      rintro e u' w'' ⟨rfl, rfl, rfl⟩
      simp only [Leaves, settle]
      exact ⟨_, res_46 rfl _ HRF rfl rfl rfl, _, rfl, HGF.done.mono (fun b q => by have := HG.out; have := HAW.out; omega), HBF⟩
end Go.Proofs.YtdnhhmnllhlbbaaGreatDoor
