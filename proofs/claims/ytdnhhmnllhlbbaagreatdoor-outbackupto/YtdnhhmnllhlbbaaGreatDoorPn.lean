/-
  What is proved here: What stands at a place and is no block is told: blockAt.
-/
import Derived.Test.YtdnhhmnllhlbbaaGreatDoorPj
import Derived.Test.YtdnhhmnllhlbbaaGreatDoorOwj
namespace Go.Proofs.YtdnhhmnllhlbbaaGreatDoor
open Go.RowKit Go.Shelf
set_option linter.unusedVariables false
set_option linter.unusedSimpArgs false
def deferD (A : Nat) : List Deferred := [{ target := .fn (.func 70) #[.pointer (some ⟨A, 0, none⟩), .pointer (some ⟨A + 1, 0, none⟩), .pointer (some ⟨A + 2, 0, none⟩)], args := #[] }]
/-- How a panic leaves the body of blockAt. -/
def PanQ (W : World) (A q : Nat) : Exit → Act → World → Prop
  | .panic c, a, w => c = thrownAt q ∧ a.defers = deferD A ∧ a.tmps.getD 6 undef = .pointer (some ⟨A, 0, none⟩) ∧ a.tmps.getD 7 undef = .pointer (some ⟨A + 1, 0, none⟩) ∧ a.tmps.getD 8 undef = .pointer (some ⟨A + 2, 0, none⟩) ∧ Res3 w A (.slice none 0 0) (.int .i64 0) (.bool false) ∧ Below W.heap.size W w
  | _, _, _ => False
/-- What blockAt does where no block stands at a place. -/
def ReadF (q : Nat) (W : World) (e : Ending) (w : World) : Prop := e = .returned (.tuple #[.slice none 0 0, .int .i64 (q : Int), .bool false]) ∧ Below W.heap.size W w
theorem bad_leaves {W : World} {A q : Nat} (hA : W.heap.size ≤ A) {e : Exit} {a : Act} {w : World} (h : PanQ W A q e a w) : bodyPostD Tryz.prog Tryz.f46 (fun e w' => ReadF q W e w') e a w := by
  cases e with
  | panic c =>
    obtain ⟨rfl, hd, h6, h7, h8, hR, hB⟩ := h
    show Leaves Tryz.prog Tryz.f46 a.tmps _ a.defers (.panicking (thrownAt q)) w
    rw [hd]
    refine leaves_cons (f := 70) (args := #[.pointer (some ⟨A, 0, none⟩), .pointer (some ⟨A + 1, 0, none⟩), .pointer (some ⟨A + 2, 0, none⟩)]) (by simp) (by simp [go_sem]) ?_
    refine (catch70 A q _ _ _ [] w hR).mono ?_
    rintro e u' w'' ⟨rfl, rfl, hR2, hK⟩
    have h9 : settle (.panicking [{ v := .iface 113 (.agg #[.int .i64 (q : Int)]), recovered := true }]) = .returning := rfl
    show Leaves Tryz.prog Tryz.f46 a.tmps _ [] (settle (.panicking [{ v := .iface 113 (.agg #[.int .i64 (q : Int)]), recovered := true }])) w''
    rw [h9]
    exact ⟨_, res_46 rfl _ hR2 h6 h7 h8, rfl, hB.trans (hK.below hB.size (fun b q => by unfold in3 at q; omega))⟩
  | _ => exact h.elim
theorem panQ_put {W : World} {A q : Nat} {c : List PanicEntry} {a : Act} {w : World} {t : Nat} {v : Value} (h6 : t ≠ 6) (h7 : t ≠ 7) (h8 : t ≠ 8) (h : PanQ W A q (.panic c) (a.put (some t) v) w) : PanQ W A q (.panic c) a w := by
  obtain ⟨h1, h2, h3, h4, h5, h9, h10⟩ := h
  refine ⟨h1, h2, ?_, ?_, ?_, h9, h10⟩
  · simpa [Act.put, Array.getElem?_setIfInBounds, h6] using h3
  · simpa [Act.put, Array.getElem?_setIfInBounds, h7] using h4
  · simpa [Act.put, Array.getElem?_setIfInBounds, h8] using h5

set_option maxRecDepth 100000 in
set_option maxHeartbeats 4000000 in
theorem block46_bad {W : World} {os : Value} {l : List Ou} {p : Nat} (s r : List UInt8) (h : Sou W os l) (hr : RightN l = 0) (hz : ∀ o ∈ l, OuZ o) (hnm : ∀ o ∈ l, o.nm.length ≤ 10000000000)
    (hat : s.drop p = 61 :: r) (hp : p ≤ s.length) (hs : s.length ≤ 1000000000000) (hT : Tens W) :
    Calls Tryz.prog 46 #[.string (bs s), .int .i64 (p : Int), os] W fun e w' => ReadF p W e w' := by
  have hmf : ∀ (fn : Fn) (first cap : Array Value) (w : World), (Instr.makeFunc fn first cap).run Tryz.prog w = .ok (.func fn first cap) w := fun _ _ _ _ => rfl
  obtain ⟨hn1, hwr⟩ := right_ok hr
  obtain ⟨a, c, rfl, h'⟩ := h
  have HA : Hid (Sou W (.slice a l.length c) l) := ⟨_, _, rfl, h'⟩
  obtain ⟨n, hn⟩ : ∃ n, l.length = n := ⟨_, rfl⟩
  have HN : Hid (l.length = n) := hn
  have HR : Hid (∀ o ∈ l, wrB o = false) := hwr
  have HZ : Hid (∀ o ∈ l, OuZ o ∧ o.nm.length ≤ 10000000000) := fun o ho => ⟨hz o ho, hnm o ho⟩
  have HT : Hid (Tens W) := hT
  rw [hn] at HA hn1 ⊢
  have HS : Hid (s.drop p = 61 :: r ∧ p ≤ s.length ∧ s.length ≤ 1000000000000) := ⟨hat, hp, hs⟩
  obtain ⟨A, hA⟩ : ∃ A, W.heap.size = A := ⟨_, rfl⟩
  have HAW : Hid (W.heap.size = A) := hA
  obtain ⟨w1, hw1⟩ : ∃ q, ((W.alloc (Obj.cells #[.slice none 0 0] 28)).alloc (Obj.cells #[.int .i64 0] 3)).alloc (Obj.cells #[.bool false] 4) = q := ⟨_, rfl⟩
  have hs1 : w1.heap.size = A + 3 := by rw [← hw1, ← hA]; simp
  have hb1 : Below W.heap.size W w1 := by rw [← hw1]; exact (((Below.refl _ _).alloc (Nat.le_refl _) _).alloc (by simp) _).alloc (by simp; omega) _
  have HR1 : Hid (Res3 w1 A (.slice none 0 0) (.int .i64 0) (.bool false)) := by
    have e1 := Blk.new W #[.slice none 0 0] 28
    have e2 := Blk.new (W.alloc (Obj.cells #[.slice none 0 0] 28)) #[.int .i64 0] 3
    have e3 := Blk.new ((W.alloc (Obj.cells #[.slice none 0 0] 28)).alloc (Obj.cells #[.int .i64 0] 3)) #[.bool false] 4
    rw [World.size_alloc, hA] at e2
    rw [World.size_alloc, World.size_alloc, hA] at e3
    rw [hA] at e1
    rw [← hw1]
    exact ⟨(e1.alloc _).alloc _, e2.alloc _, e3⟩
  obtain ⟨g, hg⟩ : ∃ g, A + 3 = g := ⟨_, rfl⟩
  have HG : Hid (A + 3 = g) := hg
  rw [hg] at hs1
  have hb2 : Below w1.heap.size w1 (w1.alloc (Obj.cells #[.string (bs s), .int .i64 (p : Int)] 115)) := (Below.refl _ _).alloc (Nat.le_refl _) _
  have HX2 : Hid (Blk (w1.alloc (Obj.cells #[.string (bs s), .int .i64 (p : Int)] 115)) g #[.string (bs s), .int .i64 (p : Int)] 115) := by rw [← hs1]; exact Blk.new _ _ _
  obtain ⟨w2, hw2⟩ : ∃ q, w1.alloc (Obj.cells #[.string (bs s), .int .i64 (p : Int)] 115) = q := ⟨_, rfl⟩
  rw [hw2] at hb2 HX2
  have HR2 : Hid (Res3 w2 A (.slice none 0 0) (.int .i64 0) (.bool false)) := HR1.out.below hb2
  have HB2 : Hid (Below W.heap.size W w2) := hb1.trans (hb2.mono hb1.size)
  have HW : Hid (((W.alloc (Obj.cells #[.slice none 0 0] 28)).alloc (Obj.cells #[.int .i64 0] 3)).alloc (Obj.cells #[.bool false] 4) = w1 ∧ w1.alloc (Obj.cells #[.string (bs s), .int .i64 (p : Int)] 115) = w2 ∧ w1.heap.size = g) := ⟨hw1, hw2, hs1⟩
  clear h' hn hwr hz hnm hT hA hw1 hs1 hb1 HR1 hg hb2 hw2 hr hat hp hs
  have BL : Hid (∀ e a w, PanQ W A p e a w → bodyPostD Tryz.prog Tryz.f46 (fun e w' => ReadF p W e w') e a w) := fun e a w h => bad_leaves (by rw [HAW.out]; exact Nat.le_refl _) h
  go_enter_defers Tryz.func46, Tryz.ntmps46
  go_upto_region 2 with (fail)
  rw [HW.out.1, HAW.out]
  go_upto_region 3 with (fail)
  rw [HW.out.2.1, HW.out.2.2]
  clear HW
  go_wp2
  go_loopw [18] (fun i wr => i = .int .i64 0 ∧ Hid (Res3 wr A (.slice none 0 0) (.int .i64 0) (.bool false)) ∧ Hid (Blk wr g #[.string (bs s), .int .i64 (p : Int)] 115) ∧ Hid (Below W.heap.size W wr)) (fun _ _ => 0)
  case atStart => exact ⟨rfl, HR2.out, HX2.out, HB2.out⟩
  case round =>
    obtain ⟨rfl, HRR, HX, HB⟩ := hrel
    by_cases hlt : 0 < n
    · have hlt' : (0 : Int) < n := by omega
      obtain ⟨o, ho⟩ : ∃ g, l[0]? = some g := ⟨_, List.getElem?_eq_getElem (by rw [HN.out]; exact hlt)⟩
      have hol := List.mem_of_getElem? ho
      obtain ⟨hwd, _, hsh, _⟩ := wr_ok (HR.out o hol)
      obtain ⟨b, off, dv, lv, rfl, hb, hdv, hlv, d0, d1, d2, d3, d4⟩ := HA.out.at ho
      rw [Nat.zero_mul, Nat.add_zero] at d0 d1 d2 d3 d4
      obtain ⟨da, dc, rfl, _⟩ := id hdv
      obtain ⟨la, lc, rfl, _⟩ := id hlv
      have hbo : Below W.heap.size W wr := HB.out
      have y0 := (hbo.cell (p := ⟨b, off, none⟩) hb).trans d0
      have y1 := (hbo.cell (p := ⟨b, off + 1, none⟩) hb).trans d1
      have y2 := (hbo.cell (p := ⟨b, off + 2, none⟩) hb).trans d2
      have y3 := (hbo.cell (p := ⟨b, off + 3, none⟩) hb).trans d3
      have y4 := (hbo.cell (p := ⟨b, off + 4, none⟩) hb).trans d4
      have KO : Hid (∀ X, Below W.heap.size W X → Blk X g #[.string (bs s), .int .i64 (p : Int)] 115 → Calls Tryz.prog 71 #[.pointer (some ⟨g, 0, none⟩), .agg #[.string (bs o.nm), .slice da o.dims.length dc, .slice la o.l.length lc, .int .i64 o.kind, .bool o.one]] X fun e w' => e = .panicked (thrownAt p) ∧ Kept (fun b => b = g) X w') := fun X hX hXg =>
        output71_bad s o hdv hlv hX hXg (by rw [HS.out.1]; exact lcp_head hwd r) HS.out.2.1 HS.out.2.2 (HZ.out o hol).2 hsh HT.out
      obtain ⟨dn, hdn⟩ : ∃ q, o.dims.length = q := ⟨_, rfl⟩
      obtain ⟨m, hm⟩ : ∃ q, o.l.length = q := ⟨_, rfl⟩
      rw [hdn] at KO d1 y1
      rw [hm] at KO d2 y2
      clear ho hwd hsh hdv hlv hdn hm d0 d1 d2 d3 d4 hol hbo
      go_upto_region 6 with (fail)
      clear y0 y1 y2 y3 y4
      obtain ⟨xb, hxb⟩ : ∃ q, wr.heap.size = q := ⟨_, rfl⟩
      obtain ⟨w2', hw2'⟩ : ∃ q, wr.alloc (Obj.cells #[.string (bs o.nm), .slice da dn dc, .slice la m lc, .int .i64 o.kind, .bool o.one] 53) = q := ⟨_, rfl⟩
      have hbw2 : Below wr.heap.size wr w2' := by rw [← hw2']; exact (Below.refl _ _).alloc (Nat.le_refl _) _
      have HO3 : Hid (Blk w2'.drew xb #[.string (bs o.nm), .slice da dn dc, .slice la m lc, .int .i64 o.kind, .bool o.one] 53) := by rw [← hw2', ← hxb]; exact (Blk.new _ _ _).below ((Below.refl _ _).drew)
      have hbw3 : Below wr.heap.size wr w2'.drew := hbw2.drew
      rw [hw2', hxb]
      obtain ⟨w3, hw3⟩ : ∃ q, w2'.drew = q := ⟨_, rfl⟩
      rw [hw3] at HO3 hbw3
      have HRR3 : Hid (Res3 w3 A (.slice none 0 0) (.int .i64 0) (.bool false)) := HRR.out.below hbw3
      have HX3 : Hid (Blk w3 g #[.string (bs s), .int .i64 (p : Int)] 115) := HX.out.below hbw3
      have HB3 : Hid (Below W.heap.size W w3) := HB.out.trans (hbw3.mono HB.out.size)
      have HW3 : Hid (w2'.drew = w3) := hw3
      clear hw2' hxb hbw2 hbw3 hw3 HRR HX HB
      refine wp_mono (Q := PanQ W A p) ?_ (fun e a w h => ?_)
      rotate_left 1
      · have h2 := BL.out e a w h
        cases e with
        | panic c => exact h2
        | _ => exact h.elim
      refine wp_region_held_drew (S := fun X : World => X.cell? ⟨A, 0, none⟩ = some (.slice none 0 0) ∧ Blk X xb #[.string (bs o.nm), .slice da dn dc, .slice la m lc, .int .i64 o.kind, .bool o.one] 53) (by kernel_rfl) (by rw [HW3.out]; exact ⟨HRR3.out.h1.cell 0, HO3.out⟩) (fun hHeld => ?_)
      refine tkI 0 rfl hHeld ?_ (hy := by intro w hSw; have z0 := hSw.1; go_simp <;> with_reducible rfl) (hQ := fun _ _ _ h => panQ_put (t := 22) (by decide) (by decide) (by decide) h)
      try simp only [Act.put, zS, eZ, eS]
      refine tkI 1 rfl hHeld ?_ (hy := by intro w hSw; have z0 := hSw.2.cell 0; have z1 := hSw.2.cell 1; have z2 := hSw.2.cell 2; have z3 := hSw.2.cell 3; have z4 := hSw.2.cell 4; go_simp <;> with_reducible rfl) (hQ := fun _ _ _ h => panQ_put (t := 23) (by decide) (by decide) (by decide) h)
      try simp only [Act.put, zS, eZ, eS]
      refine rdy 2 rfl fun K hK => ?_
      rw [HW3.out]
      go_simp
      refine (KO.out w3 HB3.out HX3.out).mono ?_
      rintro e w5 ⟨rfl, hK5⟩
      exact ⟨rfl, rfl, rfl, rfl, rfl, ⟨⟨(hK5.block A HRR3.out.h1.lt (by have := HG.out; omega)).trans HRR3.out.h1.h⟩, ⟨(hK5.block (A + 1) HRR3.out.h2.lt (by have := HG.out; omega)).trans HRR3.out.h2.h⟩, ⟨(hK5.block (A + 2) HRR3.out.h3.lt (by have := HG.out; omega)).trans HRR3.out.h3.h⟩⟩, HB3.out.trans (hK5.below HB3.out.size (fun b q => by have := HG.out; have := HAW.out; omega))⟩
    · have hn0 : n = 0 := by omega
      have hlt' : ¬ (0 : Int) < (n : Int) := by omega
      have kn := need72 s dashT HX.out HS.out.2.1 HS.out.2.2 (by decide)
      have HL0 : Hid (lcp (s.drop p) dashT = 0) := by unfold Hid; rw [HS.out.1]; exact lcp_dash r
      go_wp2_with fail
      refine kn.mono ?_
      rintro e w5 ⟨hX5, hK5, (⟨h9, _⟩ | ⟨_, rfl⟩)⟩
      · rw [HL0.out] at h9; exact absurd h9 (by decide)
      have h2 := BL.out
      rw [HL0.out, Nat.add_zero]
      have hK6 : Res3 w5 A (.slice none 0 0) (.int .i64 0) (.bool false) := ⟨⟨(hK5.block A HRR.out.h1.lt (by have := HG.out; omega)).trans HRR.out.h1.h⟩, ⟨(hK5.block (A + 1) HRR.out.h2.lt (by have := HG.out; omega)).trans HRR.out.h2.h⟩, ⟨(hK5.block (A + 2) HRR.out.h3.lt (by have := HG.out; omega)).trans HRR.out.h3.h⟩⟩
      have hB6 : Below W.heap.size W w5 := HB.out.trans (hK5.below HB.out.size (fun b q => by have := HG.out; have := HAW.out; omega))
      refine BL.out (.panic (thrownAt p)) _ w5 ⟨rfl, rfl, rfl, rfl, rfl, hK6, hB6⟩
end Go.Proofs.YtdnhhmnllhlbbaaGreatDoor
