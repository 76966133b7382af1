/-
  What is proved here: store.New of any domains.
-/
import Derived.Test.YtghnfnieppfhgaaGreatAa
import Derived.Test.YtghnfnieppfhgaaGreatMb
import Derived.Test.YtghnfnieppfhgaaGreatKlj
namespace Go.Proofs.YtghnfnieppfhgaaGreat
open Go.RowKit Go.Shelf
set_option linter.unusedVariables false
set_option linter.unusedSimpArgs false

abbrev oMh0 : Oper := ⟨some 10, .move (.tmp 0), 22, "store.go:38", #[], none⟩
abbrev oMh1 : Oper := ⟨some 11, .call { callee := .builtin .len, args := #[.tmp 10], argTypes := #[22] }, 3, "store.go:38", #[⟨0, .data⟩], none⟩
abbrev oMh2 : Oper := ⟨some 13, .move (.tmp 0), 22, "store.go:38", #[], none⟩
abbrev oMh3 : Oper := ⟨some 14, .call { callee := .builtin .len, args := #[.tmp 13], argTypes := #[22] }, 3, "store.go:38", #[⟨3, .data⟩], none⟩
abbrev oMh4 : Oper := ⟨some 16, .build 68 #[(0, .tmp 12), (3, .tmp 15)], 68, "store.go:38", #[⟨2, .data⟩, ⟨5, .data⟩], none⟩
abbrev oMh5 : Oper := ⟨some 4, .assign (.tmp 17), 25, "store.go:38", #[⟨7, .data⟩, ⟨2, .chain⟩, ⟨0, .phase⟩, ⟨1, .phase⟩, ⟨2, .phase⟩, ⟨3, .phase⟩, ⟨4, .phase⟩, ⟨5, .phase⟩, ⟨6, .phase⟩, ⟨7, .phase⟩], none⟩
abbrev oMh6 : Oper := ⟨some 27, .move (.tmp 4), 25, "store.go:43", #[], none⟩
abbrev oMh7 : Oper := ⟨some 28, .move (.tmp 4), 25, "store.go:43", #[], none⟩
abbrev oMh8 : Oper := ⟨some 29, .nilCheck (.tmp 28), 0, "store.go:43", #[⟨1, .data⟩], none⟩
abbrev oMh9 : Oper := ⟨some 30, .fieldAddr 68 (.tmp 29) 1, 0, "store.go:43", #[⟨2, .data⟩], none⟩
abbrev oMh10 : Oper := ⟨some 32, .load 37 (.tmp 6), 37, "store.go:43", #[], none⟩
abbrev oMh11 : Oper := ⟨some 36, .nilCheck (.tmp 27), 0, "store.go:43", #[⟨0, .data⟩, ⟨0, .phase⟩, ⟨1, .phase⟩, ⟨2, .phase⟩, ⟨3, .phase⟩, ⟨4, .phase⟩, ⟨5, .phase⟩, ⟨6, .phase⟩, ⟨7, .phase⟩, ⟨8, .phase⟩], none⟩
abbrev oMh12 : Oper := ⟨some 37, .fieldAddr 68 (.tmp 36) 1, 0, "store.go:43", #[⟨9, .data⟩, ⟨0, .phase⟩, ⟨1, .phase⟩, ⟨2, .phase⟩, ⟨3, .phase⟩, ⟨4, .phase⟩, ⟨5, .phase⟩, ⟨6, .phase⟩, ⟨7, .phase⟩, ⟨8, .phase⟩], none⟩
abbrev oMh13 : Oper := ⟨some 38, .move (.tmp 4), 25, "store.go:44", #[], none⟩
abbrev oMh14 : Oper := ⟨some 39, .nilCheck (.tmp 38), 0, "store.go:44", #[⟨0, .data⟩], none⟩
abbrev oMh15 : Oper := ⟨some 40, .fieldAddr 68 (.tmp 39) 2, 0, "store.go:44", #[⟨1, .data⟩], none⟩
abbrev oMh16 : Oper := ⟨some 42, .load 37 (.tmp 6), 37, "store.go:44", #[], none⟩
abbrev oMh17 : Oper := ⟨some 44, .binOp .add 3 (.tmp 41) (.tmp 43) 3, 3, "store.go:44", #[⟨3, .data⟩, ⟨5, .data⟩], none⟩
abbrev oMh18 : Oper := ⟨some 45, .nilCheck (.tmp 38), 0, "store.go:44", #[⟨0, .data⟩, ⟨0, .phase⟩, ⟨1, .phase⟩, ⟨2, .phase⟩, ⟨3, .phase⟩, ⟨4, .phase⟩, ⟨5, .phase⟩, ⟨6, .phase⟩], none⟩
abbrev oMh19 : Oper := ⟨some 46, .fieldAddr 68 (.tmp 45) 2, 0, "store.go:44", #[⟨7, .data⟩, ⟨0, .phase⟩, ⟨1, .phase⟩, ⟨2, .phase⟩, ⟨3, .phase⟩, ⟨4, .phase⟩, ⟨5, .phase⟩, ⟨6, .phase⟩], none⟩
def newA (l : List MD) : StM := ⟨l.map (fun d => bothA d d), (l.map (fun d => emptI (emptyA d))).sum, List.replicate l.length 0, List.replicate l.length 0, [], []⟩
theorem sum_01A : ∀ (l : List MD), 0 ≤ (l.map (fun d => emptI (emptyA d))).sum ∧ (l.map (fun d => emptI (emptyA d))).sum ≤ l.length
  | [] => by simp
  | d :: l => by
    have h1 := sum_01A l
    have h2 := emptI_01 (emptyA d)
    simp only [List.map_cons, List.sum_cons, List.length_cons]
    omega

set_option maxRecDepth 100000 in
set_option maxHeartbeats 4000000 in
theorem new_gen [Gh] {W : World} {s : Value} {l : List MD} (h : Ld W s l) (hG : ∀ b, Gh.Y b → b < W.heap.size ∧ W.heap[b]? = Gh.H b) (hl : l.length ≤ 1000) (hok : ∀ d ∈ l, Dm.FitsR d.r) :
    Calls Tryz.prog 8 #[s] W fun e w' => ((∃ p sl, e = .returned (.tuple #[ptr p, .int .i64 0]) ∧ Sto w' p (newA l) sl ∧ (∀ b, OX p sl b → W.heap.size ≤ b) ∧ Below W.heap.size W w') ∧ ∀ d ∈ l, rightM d = true) ∨ ((e = .returned (.tuple #[.pointer none, .int .i64 20]) ∧ Below W.heap.size W w') ∧ ∃ d ∈ l, rightM d = false) := by
  obtain ⟨a, cap, rfl, hcells⟩ := h
  obtain ⟨n, hnl⟩ : ∃ n, l.length = n := ⟨_, rfl⟩
  have HNL : Hid (l.length = n) := hnl
  have HHG : Hid (∀ b, Gh.Y b → b < W.heap.size ∧ W.heap[b]? = Gh.H b) := hG
  clear hG
  rw [hnl] at hcells hl ⊢
  clear hnl
  have hn : n ≤ 1000 := hl
  have hn' : (n : Int) ≤ 1000 := by omega
  have hmk : ∀ w, (Instr.makeSlice 63 (.int .i64 (n : Int)) (.int .i64 (n : Int))).run Tryz.prog w = .ok (.slice (some ⟨w.heap.size, 0, none⟩) n n) (w.alloc (.cells (madeCells #[.int .i64 0] n) 3)) := fun w => run_make_row' 63 3 (.int .i64 0) 8 Tryz.underlying63 Tryz.infoInt rfl .i64 .i64 n (by omega) (by omega) w
  obtain ⟨CC, hCC⟩ : ∃ q, madeCells #[Value.int .i64 0] n = q := ⟨_, rfl⟩
  have HCC : Hid (madeCells #[Value.int .i64 0] n = CC) := hCC
  simp only [hCC] at hmk
  clear hCC
  have HB0 : Hid (Below W.heap.size W W.drew) := (Below.refl _ _).drew
  go_enter Tryz.func8, Tryz.ntmps8
  go_upto_region 3 with (fail)
  apply wp_ways3 (R := fun gi gw p w' => Mk w' p gi gw n [] 0 (.slice none 0 0) ∧ W.heap.size ≤ gi ∧ W.heap.size ≤ gw ∧ W.heap.size ≤ p ∧ Below W.heap.size W w')
  case h =>
    refine wp_region_held_drew (S := fun _ : World => True) (by kernel_rfl) (trivial) (fun hHeld => ?_)
    refine tkA 0 oMh0 hHeld ?_
    try simp only [oMh0, Act.put, zS, z0, z1]
    refine tkA 1 oMh1 hHeld ?_
    try simp only [oMh1, Act.put, zS, z0, z1]
    refine tkA 3 oMh2 hHeld ?_
    try simp only [oMh2, Act.put, zS, z0, z1]
    refine tkA 4 oMh3 hHeld ?_
    try simp only [oMh3, Act.put, zS, z0, z1]
    refine wpAnyH_ready (rs := [2, 5]) (by kernel_rfl) (by simp) ?_
    refine AllReadyH.cons rfl (fun K hK => ?_) ?_
    · go_simp
      refine (newTrail_any n hn _).mono ?_
      rintro e v1 ⟨gi, rfl, hgi, hri, hb⟩
      have HB1 := hid (HB0.out.trans (hb.mono HB0.out.size))
      have HRI1 : Hid (Rw v1 3 (.slice (some ⟨gi, 0, none⟩) n n) 1 (ivs (List.replicate n 0))) := hri
      have HGI := hid (Nat.le_trans HB0.out.size hgi)
      clear hb hri hgi
      refine hK.out _ _ (trivial) (fun hHeld2 => ?_)
      clear hK K hHeld; have hHeld := hHeld2; clear hHeld2
      try simp only [Act.put, zS, z0, z1]
      refine rdy 5 rfl fun K hK => ?_
      obtain ⟨gw, hgw⟩ : ∃ q, v1.heap.size = q := ⟨_, rfl⟩
      go_simp
      (try rw [hgw])
      obtain ⟨v2, hv2⟩ : ∃ q, v1.alloc (Obj.cells CC 3) = q := ⟨_, rfl⟩
      (try rw [hv2])
      (try rw [show (v1.alloc (Obj.cells CC 3)).drew = v2 from hv2])
      have HB2 : Hid (Below W.heap.size W v2) := by rw [← hv2]; exact HB1.out.alloc HB1.out.size _
      have HRW2 : Hid (Rw v2 3 (.slice (some ⟨gw, 0, none⟩) n n) 1 (ivs (List.replicate n 0))) := by rw [← hv2, ← HCC.out]; exact rw_made v1 n hn hgw
      have HGW : Hid (W.heap.size ≤ gw) := by rw [Hid, ← hgw]; exact HB1.out.size
      have HRI2 : Hid (Rw v2 3 (.slice (some ⟨gi, 0, none⟩) n n) 1 (ivs (List.replicate n 0))) := by rw [← hv2]; exact HRI1.out.keep fun g hg => Below.heap_alloc _ _ _ (HRI1.out.lt hg)
      have HNE : Hid (gw ≠ gi) := by have := HRI1.out.lt (g := gi) rfl; rw [Hid]; omega
      clear hv2 hgw
      refine hK.out _ _ (trivial) (fun hHeld2 => ?_)
      clear hK K hHeld; have hHeld := hHeld2; clear hHeld2
      try simp only [Act.put, zS, z0, z1]
      refine tkA 6 oMh4 hHeld ?_
      try simp only [oMh4, Act.put, zS, z0, z1]
      refine rdy 7 rfl fun K hK => ?_
      obtain ⟨p, hp⟩ : ∃ q, v2.heap.size = q := ⟨_, rfl⟩
      go_simp
      (try rw [hp])
      obtain ⟨v3, hv3⟩ : ∃ q, v2.alloc (Obj.cells #[.slice none 0 0, .slice none 0 0, .slice (some ⟨gi, 0, none⟩) n n, .slice none 0 0, .int .i64 0, .slice (some ⟨gw, 0, none⟩) n n] 68) = q := ⟨_, rfl⟩
      rw [hv3]
      have HMK : Hid (Mk v3 p gi gw n [] 0 (.slice none 0 0) ∧ W.heap.size ≤ gi ∧ W.heap.size ≤ gw ∧ W.heap.size ≤ p ∧ Below W.heap.size W v3) := by
        rw [← hv3]
        exact ⟨⟨(Bx.new' hp _ _).h, ⟨[], ⟨(fun c hc => by simp at hc), World.ownsRow_nil _ _ _ _⟩, rfl, (fun i c d h1 _ => by simp at h1)⟩, HRW2.out.keep fun g hg => Below.heap_alloc _ _ _ (HRW2.out.lt hg), HRI2.out.keep fun g hg => Below.heap_alloc _ _ _ (HRI2.out.lt hg), HNE.out, (fun b q => ⟨Nat.lt_of_lt_of_le (HHG.out b q).1 (HB2.out.alloc HB2.out.size _).size, ((HB2.out.alloc HB2.out.size _).block b (HHG.out b q).1).trans (HHG.out b q).2⟩), fun b q hy => by
          have hh := (HHG.out b hy).1
          have h0 := HB2.out.size
          have h1 := HGI.out
          have h2 := HGW.out
          rcases q with q | q | q | q | q | q
          · omega
          · cases q
          · cases q
          · injection q with q; have q2 : gi = b := q; omega
          · cases q
          · injection q with q; have q2 : gw = b := q; omega⟩, HGI.out, HGW.out, by rw [← hp]; exact HB2.out.size, HB2.out.alloc HB2.out.size _⟩
      clear hv3 hp
      refine hK.out _ _ (trivial) (fun hHeld2 => ?_)
      clear hK K hHeld; have hHeld := hHeld2; clear hHeld2
      try simp only [Act.put, zS, z0, z1]
      refine tkA 8 oMh5 hHeld ?_
      try simp only [oMh5, Act.put, zS, z0, z1]
      refine wpAnyH_done (by kernel_rfl) ?_ _
      exact ⟨gi, gw, p, rfl, HMK.out⟩
    refine AllReadyH.cons rfl (fun K hK => ?_) ?_
    · obtain ⟨gw, hgw⟩ : ∃ q, W.heap.size = q := ⟨_, rfl⟩
      go_simp
      (try rw [hgw])
      obtain ⟨v1, hv1⟩ : ∃ q, W.drew.alloc (Obj.cells CC 3) = q := ⟨_, rfl⟩
      (try rw [hv1])
      (try rw [show (W.alloc (Obj.cells CC 3)).drew = v1 from hv1])
      have HB1 : Hid (Below W.heap.size W v1) := by rw [← hv1]; exact HB0.out.alloc HB0.out.size _
      have HRW1 : Hid (Rw v1 3 (.slice (some ⟨gw, 0, none⟩) n n) 1 (ivs (List.replicate n 0))) := by rw [← hv1, ← HCC.out]; exact rw_made W.drew n hn hgw
      have HGW : Hid (W.heap.size ≤ gw) := by rw [Hid, ← hgw]; exact HB0.out.size
      clear hv1 hgw
      refine hK.out _ _ (trivial) (fun hHeld2 => ?_)
      clear hK K hHeld; have hHeld := hHeld2; clear hHeld2
      try simp only [Act.put, zS, z0, z1]
      refine rdy 2 rfl fun K hK => ?_
      go_simp
      refine (newTrail_any n hn _).mono ?_
      rintro e v2 ⟨gi, rfl, hgi, hri, hb⟩
      have HB2 := hid (HB1.out.trans (hb.mono HB1.out.size))
      have HRI2 : Hid (Rw v2 3 (.slice (some ⟨gi, 0, none⟩) n n) 1 (ivs (List.replicate n 0))) := hri
      have HGI := hid (Nat.le_trans HB1.out.size hgi)
      have HRW2 : Hid (Rw v2 3 (.slice (some ⟨gw, 0, none⟩) n n) 1 (ivs (List.replicate n 0))) := HRW1.out.keep fun g hg => hb.block g (HRW1.out.lt hg)
      have HNE : Hid (gw ≠ gi) := by have := HRW1.out.lt (g := gw) rfl; have := hgi; rw [Hid]; omega
      clear hb hri hgi
      refine hK.out _ _ (trivial) (fun hHeld2 => ?_)
      clear hK K hHeld; have hHeld := hHeld2; clear hHeld2
      try simp only [Act.put, zS, z0, z1]
      refine tkA 6 oMh4 hHeld ?_
      try simp only [oMh4, Act.put, zS, z0, z1]
      refine rdy 7 rfl fun K hK => ?_
      obtain ⟨p, hp⟩ : ∃ q, v2.heap.size = q := ⟨_, rfl⟩
      go_simp
      (try rw [hp])
      obtain ⟨v3, hv3⟩ : ∃ q, v2.alloc (Obj.cells #[.slice none 0 0, .slice none 0 0, .slice (some ⟨gi, 0, none⟩) n n, .slice none 0 0, .int .i64 0, .slice (some ⟨gw, 0, none⟩) n n] 68) = q := ⟨_, rfl⟩
      rw [hv3]
      have HMK : Hid (Mk v3 p gi gw n [] 0 (.slice none 0 0) ∧ W.heap.size ≤ gi ∧ W.heap.size ≤ gw ∧ W.heap.size ≤ p ∧ Below W.heap.size W v3) := by
        rw [← hv3]
        exact ⟨⟨(Bx.new' hp _ _).h, ⟨[], ⟨(fun c hc => by simp at hc), World.ownsRow_nil _ _ _ _⟩, rfl, (fun i c d h1 _ => by simp at h1)⟩, HRW2.out.keep fun g hg => Below.heap_alloc _ _ _ (HRW2.out.lt hg), HRI2.out.keep fun g hg => Below.heap_alloc _ _ _ (HRI2.out.lt hg), HNE.out, (fun b q => ⟨Nat.lt_of_lt_of_le (HHG.out b q).1 (HB2.out.alloc HB2.out.size _).size, ((HB2.out.alloc HB2.out.size _).block b (HHG.out b q).1).trans (HHG.out b q).2⟩), fun b q hy => by
          have hh := (HHG.out b hy).1
          have h0 := HB2.out.size
          have h1 := HGI.out
          have h2 := HGW.out
          rcases q with q | q | q | q | q | q
          · omega
          · cases q
          · cases q
          · injection q with q; have q2 : gi = b := q; omega
          · cases q
          · injection q with q; have q2 : gw = b := q; omega⟩, HGI.out, HGW.out, by rw [← hp]; exact HB2.out.size, HB2.out.alloc HB2.out.size _⟩
      clear hv3 hp
      refine hK.out _ _ (trivial) (fun hHeld2 => ?_)
      clear hK K hHeld; have hHeld := hHeld2; clear hHeld2
      try simp only [Act.put, zS, z0, z1]
      refine tkA 8 oMh5 hHeld ?_
      try simp only [oMh5, Act.put, zS, z0, z1]
      refine wpAnyH_done (by kernel_rfl) ?_ _
      exact ⟨gi, gw, p, rfl, HMK.out⟩
    exact AllReadyH.nil
  case hK =>
    rintro gi gw p V ⟨hM, hgi, hgw, hp, hbV⟩
    clear hmk HCC CC HB0
    have HM : Hid (Mk V p gi gw n ((l.take 0).map fun d => bothA d d) ((l.take 0).map fun d => emptI (emptyA d)).sum (.slice none 0 0)) := by rw [Hid]; simpa using hM
    have HBV : Hid (Below W.heap.size W V) := hbV
    have HG : Hid (W.heap.size ≤ gi ∧ W.heap.size ≤ gw ∧ W.heap.size ≤ p) := ⟨hgi, hgw, hp⟩
    have HOK : Hid _ := hok
    have HCE : Hid _ := hcells
    clear hM hbV hgi hgw hp hok hcells
    go_wp2
    go_loopw [20, 6] (fun i _ wr => ∃ k : Nat, k ≤ n ∧ i = .int .i64 (k : Int) ∧ ∃ dv, Hid (Mk wr p gi gw n ((l.take k).map fun d => bothA d d) ((l.take k).map fun d => emptI (emptyA d)).sum dv) ∧ Hid (Below W.heap.size W wr) ∧ Hid (∀ b, dv.ownBlock = some b → W.heap.size ≤ b) ∧ Hid (∀ d ∈ l.take k, rightM d = true)) (fun i _ _ => n - (intOf i).toNat)
    case atStart => exact ⟨0, Nat.zero_le _, rfl, _, HM, HBV, (fun b hb => by cases hb), (fun d hd => by simp at hd)⟩
    case round =>
      obtain ⟨k, hk, rfl, dv, HMK, HBW, HFR, HAR⟩ := hrel
      by_cases hlt : k < n
      · have hlt' : (k : Int) < n := by omega
        obtain ⟨ba, off, cs, rfl, hba, hcl, hall⟩ := HCE.out (by omega)
        obtain ⟨d, hd⟩ : ∃ d, l[k]? = some d := ⟨_, List.getElem?_eq_getElem (by rw [HNL.out]; exact hlt)⟩
        obtain ⟨c, hck⟩ : ∃ c, cs[k]? = some c := ⟨_, List.getElem?_eq_getElem (by have := HNL.out; omega)⟩
        obtain ⟨hrg, hdc⟩ := hall k c d hck hd
        have hfit := HOK.out d (List.mem_of_getElem? hd)
        obtain ⟨b0, ra, n0, rc, a1, n1, c1, a2, n2, c2, x, y, rfl, HE, _, _, _⟩ := hdc.look
        obtain ⟨da, dn, dcap, rfl⟩ : ∃ a q c, dv = .slice a q c := by obtain ⟨cs0, hr0, _⟩ := HMK.out.doms; obtain ⟨a, q, c, e, _⟩ := hr0.look; exact ⟨a, q, c, e⟩
        obtain ⟨ee, hee⟩ : ∃ q, ((l.take k).map fun d => emptI (emptyA d)).sum = q := ⟨_, rfl⟩
        have hebd := sum_01A (l.take k)
        rw [hee] at hebd HMK
        have hebd2 : ee ≤ 1000 := by have := hebd.2; have : (l.take k).length ≤ k := List.length_take_le _ _; omega
        have hebd1 : 0 ≤ ee := hebd.1
        have HEE : Hid (((l.take k).map fun d => emptI (emptyA d)).sum = ee) := hee
        obtain ⟨qe, hqe⟩ : ∃ q, emptI (emptyA d) = q := ⟨_, rfl⟩
        have hqb := emptI_01 (emptyA d)
        rw [hqe] at hqb
        have HQE : Hid (emptI (emptyA d) = qe) := hqe
        have hw1 : IntKind.i64.wrap (ee + qe) = ee + qe := wrap_small (by omega) (by omega)
        have HTK : Hid (l.take (k + 1) = l.take k ++ [d]) := by rw [Hid, List.take_add_one, hd]; rfl
        have HDW : Hid (∀ X, Below W.heap.size W X → Dc (fun _ => False) X [.bool b0, .slice ra n0 rc, .slice a1 n1 c1, .slice a2 n2 c2, .int .i64 x, .int .i64 y] d) := fun X hX => hdc.below hX
        have hwx : ∀ j u, [.bool b0, .slice ra n0 rc, .slice a1 n1 c1, .slice a2 n2 c2, .int .i64 x, .int .i64 y][j]? = some u → wr.cell? ⟨ba, off + k * 6 + j, none⟩ = some u := fun j u hu => (HBW.out.cell (p := ⟨ba, off + k * 6 + j, none⟩) hba).trans (hrg j u hu)
        obtain ⟨u0, u1, u2, u3, u4, u5⟩ := rng6 hwx
        obtain ⟨bx, hbx⟩ : ∃ q, wr.heap.size = q := ⟨_, rfl⟩
        obtain ⟨Y0, hY0⟩ : ∃ q, wr.alloc (Obj.cells #[.bool b0, .slice ra n0 rc, .slice a1 n1 c1, .slice a2 n2 c2, .int .i64 x, .int .i64 y] 37) = q := ⟨_, rfl⟩
        have hbY : Below wr.heap.size wr Y0 := by rw [← hY0]; exact (Below.refl _ _).alloc (Nat.le_refl _) _
        have HBX0 : Hid (Bx Y0 bx #[.bool b0, .slice ra n0 rc, .slice a1 n1 c1, .slice a2 n2 c2, .int .i64 x, .int .i64 y] 37) := by rw [← hY0]; exact Bx.new' hbx _ _
        have HBWY := hid (HBW.out.trans (hbY.mono HBW.out.size))
        rcases Bool.eq_false_or_eq_true (rightM d) with hright | hright
        rotate_left
        · have kr := right_d (HDW.out _ HBWY.out) hfit
          rw [hright] at kr
          have HY0 : Hid (wr.alloc (Obj.cells #[.bool b0, .slice ra n0 rc, .slice a1 n1 c1, .slice a2 n2 c2, .int .i64 x, .int .i64 y] 37) = Y0) := hY0
          have HBX9 : Hid (bx = wr.heap.size) := hbx.symm
          have HRF : Hid (∃ d ∈ l, rightM d = false) := ⟨d, List.mem_of_getElem? hd, hright⟩
          clear hbx hY0 hbY hrg hdc hfit hright hall hck hd hwx hee hqe hebd
          go_wp2_with fail
          (try rw [HY0.out])
          rw [← HBX9.out]
          refine kr.mono ?_
          clear kr u0 u1 u2 u3 u4 u5
          rintro e w1 ⟨rfl, hb1⟩
          go_wp2
          go_ret2
          exact Or.inr ⟨⟨rfl, HBWY.out.trans (hb1.mono HBWY.out.size)⟩, HRF.out⟩
        have HRT : Hid (rightM d = true) := hright
        have kr := right_d (HDW.out _ HBWY.out) hfit
        rw [hright] at kr
        have HMY : Hid _ := HMK.out.kept hbY
        have HY0 : Hid (wr.alloc (Obj.cells #[.bool b0, .slice ra n0 rc, .slice a1 n1 c1, .slice a2 n2 c2, .int .i64 x, .int .i64 y] 37) = Y0) := hY0
        have HXR : Hid (∀ b, (XS p ⟨.slice none 0 0, .slice none 0 0, .slice (some ⟨gi, 0, none⟩) n n, .slice da dn dcap, .slice (some ⟨gw, 0, none⟩) n n⟩) b → b < wr.heap.size) := (fun b hb => by
          obtain ⟨cs0, hr0, _⟩ := HMK.out.doms
          rcases hb with q | q | q | q | q | q | q
          · rw [q]; exact HMK.out.p_lt
          · cases q
          · cases q
          · exact HMK.out.since.lt q
          · exact hr0.lt q
          · exact HMK.out.why.lt q
          · exact (HMK.out.yl b q).1)
        have HFIT : Hid (Dm.FitsR d.r) := hfit
        have HSZ : Hid (wr.heap.size ≤ Y0.heap.size) := hbY.size
        have HBX9 : Hid (bx = wr.heap.size) := hbx.symm
        clear hY0 hbY hrg hdc hfit hright hall hck hd hwx hee hqe hebd
        clear hbx
        go_wp2_with fail
        (try rw [HY0.out])
        rw [← HBX9.out]
        refine kr.mono ?_
        clear kr u0 u1 u2 u3 u4 u5
        rintro e w1 ⟨rfl, hb1⟩
        have HM1 := hid (Mk.kept HMY.out hb1)
        have HBX1 := hid (HBX0.out.below hb1)
        have HBW1 := hid (HBWY.out.trans (hb1.mono HBWY.out.size))
        have HDC1 : Hid (Dc (fun _ => False) w1 [.bool b0, .slice ra n0 rc, .slice a1 n1 c1, .slice a2 n2 c2, .int .i64 x, .int .i64 y] d) := HDW.out _ HBW1.out
        have KT : Hid (∀ X, Below w1.heap.size w1 X → Calls Tryz.prog 31 #[.agg #[.bool b0, .slice ra n0 rc, .slice a1 n1 c1, .slice a2 n2 c2, .int .i64 x, .int .i64 y]] X fun e w' => ∃ q : List Value, e = .returned (.agg q.toArray) ∧ (∀ Z : Nat → Prop, (∀ b, Z b → b < X.heap.size) → Dc Z w' q (bothA d d)) ∧ Below X.heap.size X w') := fun X hX => tight_d (HDC1.out.below hX) HFIT.out
        have HXL : Hid (∀ b, (XS p ⟨.slice none 0 0, .slice none 0 0, .slice (some ⟨gi, 0, none⟩) n n, .slice da dn dcap, .slice (some ⟨gw, 0, none⟩) n n⟩) b → b < w1.heap.size) := fun b hb => Nat.lt_of_lt_of_le (HXR.out b hb) (Nat.le_trans HSZ.out hb1.size)
        have HX9 : Hid (∀ b, (Value.slice da dn dcap).ownBlock = some b → (XS p ⟨.slice none 0 0, .slice none 0 0, .slice (some ⟨gi, 0, none⟩) n n, .slice da dn dcap, .slice (some ⟨gw, 0, none⟩) n n⟩) b) := fun b hb => .inr (.inr (.inr (.inr (.inl hb))))
        have HBXD : Hid (¬ (XS p ⟨.slice none 0 0, .slice none 0 0, .slice (some ⟨gi, 0, none⟩) n n, .slice da dn dcap, .slice (some ⟨gw, 0, none⟩) n n⟩) bx) := fun q => by have := HXR.out bx q; have := HBX9.out; omega
        have HBXP : Hid (bx ≠ p) := fun q => HBXD.out (.inl q)
        have HC0 : Hid (Below w1.heap.size w1 w1.drew) := (Below.refl _ _).drew
        clear hb1 HMY HBX0 HBWY HY0 HXR HSZ HBX9 HFIT
        clear Y0
        go_upto_region 9 with (fail)
        refine wp_region_held_drew (S := fun X : World => Bx X bx #[.bool b0, .slice ra n0 rc, .slice a1 n1 c1, .slice a2 n2 c2, .int .i64 x, .int .i64 y] 37) (by kernel_rfl) ((HBX1.out.below HC0.out)) (fun hHeld => ?_)
        refine tkA 0 oMh6 hHeld ?_
        try simp only [oMh6, Act.put, zS, z0, z1]
        refine tkA 1 oMh7 hHeld ?_
        try simp only [oMh7, Act.put, zS, z0, z1]
        refine tkA 2 oMh8 hHeld ?_
        try simp only [oMh8, Act.put, zS, z0, z1]
        refine tkA 3 oMh9 hHeld ?_
        try simp only [oMh9, Act.put, zS, z0, z1]
        refine tkH 5 oMh10 (v := ?_) hHeld ?_ ?_; rotate_left
        · intro w hSw; dsimp only [oMh10]; obtain ⟨u0, u1, u2, u3, u4, u5⟩ := hSw.six; go_simp <;> with_reducible rfl
        try simp only [oMh10, Act.put, zS, z0, z1]
        refine wpAnyH_ready (rs := [4, 6]) (by kernel_rfl) (by simp) ?_
        refine AllReadyH.cons rfl (fun K hK => ?_) ?_
        · have z3 : w1.cell? ⟨p, 3, none⟩ = some (.slice da dn dcap) := cell_of_row _ p 3 _ _ _ (HM1.out.kept HC0.out).blk
          go_simp
          clear z3
          refine hK.out _ _ ((HBX1.out.below HC0.out)) (fun hHeld2 => ?_)
          clear hK K hHeld; have hHeld := hHeld2; clear hHeld2
          try simp only [Act.put, zS, z0, z1]
          refine rdy 6 rfl fun K hK => ?_
          go_simp
          refine (KT.out _ HC0.out).mono ?_
          rintro e v1 ⟨q, rfl, hq, hb⟩
          have HQ : Hid (Dc (XS p ⟨.slice none 0 0, .slice none 0 0, .slice (some ⟨gi, 0, none⟩) n n, .slice da dn dcap, .slice (some ⟨gw, 0, none⟩) n n⟩) v1 q (bothA d d)) := hq _ (fun b hb => Nat.lt_of_lt_of_le (HXL.out b hb) HC0.out.size)
          have HC1 := hid (HC0.out.trans (hb.mono HC0.out.size))
          clear hq hb
          obtain ⟨b9, r9, m9, k9, p8, m8, k8, p7, m7, k7, x9, y9, rfl, HE9, _, _, _⟩ := HQ.out.look
          refine hK.out _ _ ((HBX1.out.below HC1.out)) (fun hHeld2 => ?_)
          clear hK K hHeld; have hHeld := hHeld2; clear hHeld2
          try simp only [Act.put, zS, z0, z1]
          refine rdy 7 rfl fun K hK => ?_
          obtain ⟨bs, hbs⟩ : ∃ q, v1.heap.size = q := ⟨_, rfl⟩
          go_simp
          (try rw [hbs])
          obtain ⟨v2, hv2⟩ : ∃ q, v1.alloc (Obj.cells #[.bool b9, .slice r9 m9 k9, .slice p8 m8 k8, .slice p7 m7 k7, .int .i64 x9, .int .i64 y9] 37) = q := ⟨_, rfl⟩
          rw [hv2]
          have hbel : Below v1.heap.size v1 v2 := by rw [← hv2]; exact (Below.refl _ _).alloc (Nat.le_refl _) _
          have HC2 := hid (HC1.out.trans (hbel.mono HC1.out.size))
          have HBS : Hid (Bx v2 bs #[.bool b9, .slice r9 m9 k9, .slice p8 m8 k8, .slice p7 m7 k7, .int .i64 x9, .int .i64 y9] 37) := by rw [← hv2]; exact Bx.new' hbs _ _
          have HQ2 := hid (HQ.out.below hbel)
          clear hv2 hbs hbel
          refine hK.out _ _ ((HBX1.out.below HC2.out)) (fun hHeld2 => ?_)
          clear hK K hHeld; have hHeld := hHeld2; clear hHeld2
          try simp only [Act.put, zS, z0, z1]
          refine rdy 8 rfl fun K hK => ?_
          obtain ⟨cs9, hr9, hdr9⟩ := (HM1.out.kept HC2.out).doms
          have HR9 : Hid (Rw v2 37 (.slice da dn dcap) 6 cs9) := hr9
          have HDR9 : Hid (Dr (XS p ⟨.slice none 0 0, .slice none 0 0, .slice (some ⟨gi, 0, none⟩) n n, .slice da dn dcap, .slice (some ⟨gw, 0, none⟩) n n⟩) v2 cs9 ((l.take k).map fun d => bothA d d)) := hdr9
          clear hr9 hdr9
          refine step_app HR9.out 22 Tryz.underlying22 Tryz.infoDom rfl (by decide) rfl _ _ rfl rfl ⟨bs, 0, none⟩ 1 (by with_unfolding_all rfl) [.bool b9, .slice r9 m9 k9, .slice p8 m8 k8, .slice p7 m7 k7, .int .i64 x9, .int .i64 y9] rfl (fun j u hu => by rw [Addr.add_mid, Nat.zero_add, HBS.out.cell j]; simpa using hu) (six_one _ _ _ _ _ _ _ _ _ _ _ _) (by rw [HDR9.out.1]; simp; omega) (by decide) ?_
          intro d1 wa hr1 hg1 hn1
          obtain ⟨p1, q1, cc1, rfl, HQ1, _⟩ := hr1.look
          have HR1 : Hid _ := hr1
          have HG1 : Hid _ := hg1
          have HN1 : Hid _ := hn1
          clear hr1 hg1 hn1
          have HPA : Hid (wa.heap[p]? = _) := (HG1.out.block p (HM1.out.kept HC2.out).p_lt (fun e => HR9.out.nep (HM1.out.kept HC2.out).blk (by decide) e.symm)).trans (HM1.out.kept HC2.out).blk
          have HBXA : Hid (Bx wa bx #[.bool b0, .slice ra n0 rc, .slice a1 n1 c1, .slice a2 n2 c2, .int .i64 x, .int .i64 y] 37) := ⟨(HG1.out.block bx (HBX1.out.below HC2.out).lt (fun e => HBXD.out (HX9.out _ e.symm))).trans (HBX1.out.below HC2.out).h⟩
          refine hK.out _ _ (HBXA.out) (fun hHeld2 => ?_)
          clear hK K hHeld; have hHeld := hHeld2; clear hHeld2
          try simp only [Act.put, zS, z0, z1]
          refine tkA 9 oMh11 hHeld ?_
          try simp only [oMh11, Act.put, zS, z0, z1]
          refine tkA 10 oMh12 hHeld ?_
          try simp only [oMh12, Act.put, zS, z0, z1]
          refine rdy 11 rfl fun K hK => ?_
          have z3 : wa.cell? ⟨p, 3, none⟩ = some (.slice da dn dcap) := cell_of_row _ p 3 _ _ _ HPA.out
          have zf : wa.frozen? ⟨p, 3, none⟩ = false := by have := HPA.out; simp [World.frozen?, this]
          go_simp
          clear z3 zf
          refine hK.out _ _ ((HBXA.out.setc HBXP.out _ _)) (fun hHeld2 => ?_)
          clear hK K hHeld; have hHeld := hHeld2; clear hHeld2
          try simp only [Act.put, zS, z0, z1]
          refine wpAnyH_done (by kernel_rfl) ?_ _
          have hmn := (HM1.out.kept HC2.out).app HR9.out HDR9.out HG1.out HR1.out HN1.out HQ2.out
          have HMN : Hid (Mk (wa.setCell ⟨p, 3, none⟩ (.slice p1 q1 cc1)) p gi gw n (((l.take k).map fun d => bothA d d) ++ [bothA d d]) ee (.slice p1 q1 cc1)) := hmn
          have HBN : Hid (Below W.heap.size W (wa.setCell ⟨p, 3, none⟩ (.slice p1 q1 cc1))) := ((HBW1.out.trans (HC2.out.mono HBW1.out.size)).trans (growB HG1.out (fun b hb => HFR.out b hb) (Nat.le_trans HBW1.out.size HC2.out.size))).setCell HG.out.2.2 _
          have HFN : Hid (∀ b, (Value.slice p1 q1 cc1).ownBlock = some b → W.heap.size ≤ b) := fun b hb => (HN1.out b hb).elim (HFR.out b) (fun q => Nat.le_trans (Nat.le_trans HBW1.out.size HC2.out.size) q)
          have HBXZ : Hid (Bx (wa.setCell ⟨p, 3, none⟩ (.slice p1 q1 cc1)) bx #[.bool b0, .slice ra n0 rc, .slice a1 n1 c1, .slice a2 n2 c2, .int .i64 x, .int .i64 y] 37) := HBXA.out.setc HBXP.out _ _
          have HDZ : Hid (Dc (fun _ => False) (wa.setCell ⟨p, 3, none⟩ (.slice p1 q1 cc1)) [.bool b0, .slice ra n0 rc, .slice a1 n1 c1, .slice a2 n2 c2, .int .i64 x, .int .i64 y] d) := HDW.out _ HBN.out
          clear hmn HM1 HR9 HDR9 HG1 HR1 HN1 HQ HQ2 HBS HC2 HC1 HC0 HBXA HBX1 HPA HX9 HBXD HXL KT HDC1 HBW1 HMK HBW hHeld HQ1
          generalize wa.setCell ⟨p, 3, none⟩ (.slice p1 q1 cc1) = wz at *
          have HY0 : Hid (Below wz.heap.size wz wz.drew) := (Below.refl _ _).drew
          have FE : ∀ X, Below wz.heap.size wz X → X.cell? ⟨p, 4, none⟩ = some (.int .i64 ee) ∧ X.frozen? ⟨p, 4, none⟩ = false ∧ Bx X bx #[.bool b0, .slice ra n0 rc, .slice a1 n1 c1, .slice a2 n2 c2, .int .i64 x, .int .i64 y] 37 := fun X hX => ⟨cell_of_row X p 4 _ _ _ (HMN.out.kept hX).blk, by have := (HMN.out.kept hX).blk; simp [World.frozen?, this], HBXZ.out.below hX⟩
          have FE2 : ∀ X, (∃ Y, Below wz.heap.size wz Y ∧ (X = Y ∨ ∃ u, X = Y.setCell ⟨p, 4, none⟩ u)) → Bx X bx #[.bool b0, .slice ra n0 rc, .slice a1 n1 c1, .slice a2 n2 c2, .int .i64 x, .int .i64 y] 37 := by
            rintro X ⟨Y, hY, rfl | ⟨u, rfl⟩⟩
            · exact (FE _ hY).2.2
            · exact (FE _ hY).2.2.setc HBXP.out _ _
          have KE : Hid (∀ X, Below wz.heap.size wz X → Calls Tryz.prog 32 #[.agg #[.bool b0, .slice ra n0 rc, .slice a1 n1 c1, .slice a2 n2 c2, .int .i64 x, .int .i64 y]] X fun e w' => e = .returned (.int .i64 qe) ∧ Below X.heap.size X w') := fun X hX => by have := emptiness_d (HDZ.out.below hX); rw [HQE.out] at this; exact this
          go_upto_region 10 with (fail)
          apply wp_waysQ (R := fun w' => ∃ Y, Below wz.heap.size wz Y ∧ w' = Y.setCell ⟨p, 4, none⟩ (.int .i64 (ee + qe)))
          case h =>
            refine wp_region_held_drew (S := fun X : World => ∃ Y, Below wz.heap.size wz Y ∧ (X = Y ∨ ∃ u, X = Y.setCell ⟨p, 4, none⟩ u)) (by kernel_rfl) (⟨_, HY0.out, .inl rfl⟩) (fun hHeld => ?_)
            refine tkA 0 oMh13 hHeld ?_
            try simp only [oMh13, Act.put, zS, z0, z1]
            refine tkA 1 oMh14 hHeld ?_
            try simp only [oMh14, Act.put, zS, z0, z1]
            refine tkA 2 oMh15 hHeld ?_
            try simp only [oMh15, Act.put, zS, z0, z1]
            refine tkH 4 oMh16 (v := ?_) hHeld ?_ ?_; rotate_left
            · intro w hSw; dsimp only [oMh16]; have hbx := FE2 w hSw; obtain ⟨u0, u1, u2, u3, u4, u5⟩ := hbx.six; go_simp <;> with_reducible rfl
            try simp only [oMh16, Act.put, zS, z0, z1]
            refine wpAnyH_ready (rs := [3, 5]) (by kernel_rfl) (by simp) ?_
            refine AllReadyH.cons rfl (fun K hK => ?_) ?_
            · have z4 := (FE _ HY0.out).1
              go_simp
              clear z4
              refine hK.out _ _ (⟨_, HY0.out, .inl rfl⟩) (fun hHeld2 => ?_)
              clear hK K hHeld; have hHeld := hHeld2; clear hHeld2
              try simp only [Act.put, zS, z0, z1]
              refine rdy 5 rfl fun K hK => ?_
              go_simp
              refine (KE.out _ HY0.out).mono ?_
              rintro e y1 ⟨rfl, hb⟩
              have HY1 := hid (HY0.out.trans (hb.mono HY0.out.size))
              clear hb
              refine hK.out _ _ (⟨_, HY1.out, .inl rfl⟩) (fun hHeld2 => ?_)
              clear hK K hHeld; have hHeld := hHeld2; clear hHeld2
              try simp only [Act.put, zS, z0, z1]
              refine tkA 6 oMh17 hHeld ?_
              try simp only [oMh17, Act.put, zS, z0, z1]
              refine tkA 7 oMh18 hHeld ?_
              try simp only [oMh18, Act.put, zS, z0, z1]
              refine tkA 8 oMh19 hHeld ?_
              try simp only [oMh19, Act.put, zS, z0, z1]
              refine rdy 9 rfl fun K hK => ?_
              have z4 := (FE _ HY1.out).1
              have zf := (FE _ HY1.out).2.1
              go_simp
              clear z4 zf
              refine hK.out _ _ (⟨_, HY1.out, .inr ⟨_, rfl⟩⟩) (fun hHeld2 => ?_)
              clear hK K hHeld; have hHeld := hHeld2; clear hHeld2
              try simp only [Act.put, zS, z0, z1]
              refine wpAnyH_done (by kernel_rfl) ?_ _
              exact ⟨rfl, _, HY1.out, rfl⟩
            refine AllReadyH.cons rfl (fun K hK => ?_) ?_
            · go_simp
              refine (KE.out _ HY0.out).mono ?_
              rintro e y1 ⟨rfl, hb⟩
              have HY1 := hid (HY0.out.trans (hb.mono HY0.out.size))
              clear hb
              refine hK.out _ _ (⟨_, HY1.out, .inl rfl⟩) (fun hHeld2 => ?_)
              clear hK K hHeld; have hHeld := hHeld2; clear hHeld2
              try simp only [Act.put, zS, z0, z1]
              refine rdy 3 rfl fun K hK => ?_
              have z4 := (FE _ HY1.out).1
              go_simp
              clear z4
              refine hK.out _ _ (⟨_, HY1.out, .inl rfl⟩) (fun hHeld2 => ?_)
              clear hK K hHeld; have hHeld := hHeld2; clear hHeld2
              try simp only [Act.put, zS, z0, z1]
              refine tkA 6 oMh17 hHeld ?_
              try simp only [oMh17, Act.put, zS, z0, z1]
              refine tkA 7 oMh18 hHeld ?_
              try simp only [oMh18, Act.put, zS, z0, z1]
              refine tkA 8 oMh19 hHeld ?_
              try simp only [oMh19, Act.put, zS, z0, z1]
              refine rdy 9 rfl fun K hK => ?_
              have z4 := (FE _ HY1.out).1
              have zf := (FE _ HY1.out).2.1
              go_simp
              clear z4 zf
              refine hK.out _ _ (⟨_, HY1.out, .inr ⟨_, rfl⟩⟩) (fun hHeld2 => ?_)
              clear hK K hHeld; have hHeld := hHeld2; clear hHeld2
              try simp only [Act.put, zS, z0, z1]
              refine wpAnyH_done (by kernel_rfl) ?_ _
              exact ⟨rfl, _, HY1.out, rfl⟩
            exact AllReadyH.nil
          case hK =>
            rintro _ ⟨Y, hY, rfl⟩
            have HMF : Hid (Mk (Y.setCell ⟨p, 4, none⟩ (.int .i64 (ee + qe))) p gi gw n ((l.take (k + 1)).map fun d => bothA d d) ((l.take (k + 1)).map fun d => emptI (emptyA d)).sum (.slice p1 q1 cc1)) := by
              have := (HMN.out.kept hY).set_e (ee + qe)
              rw [Hid, HTK.out, List.map_append, List.map_append, List.sum_append, HEE.out]
              simpa [HQE.out] using this
            have HBF : Hid (Below W.heap.size W (Y.setCell ⟨p, 4, none⟩ (.int .i64 (ee + qe)))) := (HBN.out.trans (hY.mono HBN.out.size)).setCell HG.out.2.2 _
            clear HMN HBN HY0 FE FE2 KE HBXZ HDZ hw1 HDW
            generalize Y.setCell ⟨p, 4, none⟩ (.int .i64 (ee + qe)) = yz at *
            clear hY
            go_wp2
            go_roundw
            case rel => exact ⟨k + 1, by omega, by go_num, _, HMF, HBF, HFN, fun d' hd' => by rw [HTK.out] at hd'; rcases List.mem_append.1 hd' with q | q; exact HAR.out d' q; rw [List.mem_singleton.1 q]; exact HRT.out⟩
            case measure => simp [intOf]; omega
        refine AllReadyH.cons rfl (fun K hK => ?_) ?_
        · go_simp
          refine (KT.out _ HC0.out).mono ?_
          rintro e v1 ⟨q, rfl, hq, hb⟩
          have HQ : Hid (Dc (XS p ⟨.slice none 0 0, .slice none 0 0, .slice (some ⟨gi, 0, none⟩) n n, .slice da dn dcap, .slice (some ⟨gw, 0, none⟩) n n⟩) v1 q (bothA d d)) := hq _ (fun b hb => Nat.lt_of_lt_of_le (HXL.out b hb) HC0.out.size)
          have HC1 := hid (HC0.out.trans (hb.mono HC0.out.size))
          clear hq hb
          obtain ⟨b9, r9, m9, k9, p8, m8, k8, p7, m7, k7, x9, y9, rfl, HE9, _, _, _⟩ := HQ.out.look
          refine hK.out _ _ ((HBX1.out.below HC1.out)) (fun hHeld2 => ?_)
          clear hK K hHeld; have hHeld := hHeld2; clear hHeld2
          try simp only [Act.put, zS, z0, z1]
          refine wpAnyH_ready (rs := [4, 7]) (by kernel_rfl) (by simp) ?_
          refine AllReadyH.cons rfl (fun K hK => ?_) ?_
          · have z3 : v1.cell? ⟨p, 3, none⟩ = some (.slice da dn dcap) := cell_of_row _ p 3 _ _ _ (HM1.out.kept HC1.out).blk
            go_simp
            clear z3
            refine hK.out _ _ ((HBX1.out.below HC1.out)) (fun hHeld2 => ?_)
            clear hK K hHeld; have hHeld := hHeld2; clear hHeld2
            try simp only [Act.put, zS, z0, z1]
            refine rdy 7 rfl fun K hK => ?_
            obtain ⟨bs, hbs⟩ : ∃ q, v1.heap.size = q := ⟨_, rfl⟩
            go_simp
            (try rw [hbs])
            obtain ⟨v2, hv2⟩ : ∃ q, v1.alloc (Obj.cells #[.bool b9, .slice r9 m9 k9, .slice p8 m8 k8, .slice p7 m7 k7, .int .i64 x9, .int .i64 y9] 37) = q := ⟨_, rfl⟩
            rw [hv2]
            have hbel : Below v1.heap.size v1 v2 := by rw [← hv2]; exact (Below.refl _ _).alloc (Nat.le_refl _) _
            have HC2 := hid (HC1.out.trans (hbel.mono HC1.out.size))
            have HBS : Hid (Bx v2 bs #[.bool b9, .slice r9 m9 k9, .slice p8 m8 k8, .slice p7 m7 k7, .int .i64 x9, .int .i64 y9] 37) := by rw [← hv2]; exact Bx.new' hbs _ _
            have HQ2 := hid (HQ.out.below hbel)
            clear hv2 hbs hbel
            refine hK.out _ _ ((HBX1.out.below HC2.out)) (fun hHeld2 => ?_)
            clear hK K hHeld; have hHeld := hHeld2; clear hHeld2
            try simp only [Act.put, zS, z0, z1]
            refine rdy 8 rfl fun K hK => ?_
            obtain ⟨cs9, hr9, hdr9⟩ := (HM1.out.kept HC2.out).doms
            have HR9 : Hid (Rw v2 37 (.slice da dn dcap) 6 cs9) := hr9
            have HDR9 : Hid (Dr (XS p ⟨.slice none 0 0, .slice none 0 0, .slice (some ⟨gi, 0, none⟩) n n, .slice da dn dcap, .slice (some ⟨gw, 0, none⟩) n n⟩) v2 cs9 ((l.take k).map fun d => bothA d d)) := hdr9
            clear hr9 hdr9
            refine step_app HR9.out 22 Tryz.underlying22 Tryz.infoDom rfl (by decide) rfl _ _ rfl rfl ⟨bs, 0, none⟩ 1 (by with_unfolding_all rfl) [.bool b9, .slice r9 m9 k9, .slice p8 m8 k8, .slice p7 m7 k7, .int .i64 x9, .int .i64 y9] rfl (fun j u hu => by rw [Addr.add_mid, Nat.zero_add, HBS.out.cell j]; simpa using hu) (six_one _ _ _ _ _ _ _ _ _ _ _ _) (by rw [HDR9.out.1]; simp; omega) (by decide) ?_
            intro d1 wa hr1 hg1 hn1
            obtain ⟨p1, q1, cc1, rfl, HQ1, _⟩ := hr1.look
            have HR1 : Hid _ := hr1
            have HG1 : Hid _ := hg1
            have HN1 : Hid _ := hn1
            clear hr1 hg1 hn1
            have HPA : Hid (wa.heap[p]? = _) := (HG1.out.block p (HM1.out.kept HC2.out).p_lt (fun e => HR9.out.nep (HM1.out.kept HC2.out).blk (by decide) e.symm)).trans (HM1.out.kept HC2.out).blk
            have HBXA : Hid (Bx wa bx #[.bool b0, .slice ra n0 rc, .slice a1 n1 c1, .slice a2 n2 c2, .int .i64 x, .int .i64 y] 37) := ⟨(HG1.out.block bx (HBX1.out.below HC2.out).lt (fun e => HBXD.out (HX9.out _ e.symm))).trans (HBX1.out.below HC2.out).h⟩
            refine hK.out _ _ (HBXA.out) (fun hHeld2 => ?_)
            clear hK K hHeld; have hHeld := hHeld2; clear hHeld2
            try simp only [Act.put, zS, z0, z1]
            refine tkA 9 oMh11 hHeld ?_
            try simp only [oMh11, Act.put, zS, z0, z1]
            refine tkA 10 oMh12 hHeld ?_
            try simp only [oMh12, Act.put, zS, z0, z1]
            refine rdy 11 rfl fun K hK => ?_
            have z3 : wa.cell? ⟨p, 3, none⟩ = some (.slice da dn dcap) := cell_of_row _ p 3 _ _ _ HPA.out
            have zf : wa.frozen? ⟨p, 3, none⟩ = false := by have := HPA.out; simp [World.frozen?, this]
            go_simp
            clear z3 zf
            refine hK.out _ _ ((HBXA.out.setc HBXP.out _ _)) (fun hHeld2 => ?_)
            clear hK K hHeld; have hHeld := hHeld2; clear hHeld2
            try simp only [Act.put, zS, z0, z1]
            refine wpAnyH_done (by kernel_rfl) ?_ _
            have hmn := (HM1.out.kept HC2.out).app HR9.out HDR9.out HG1.out HR1.out HN1.out HQ2.out
            have HMN : Hid (Mk (wa.setCell ⟨p, 3, none⟩ (.slice p1 q1 cc1)) p gi gw n (((l.take k).map fun d => bothA d d) ++ [bothA d d]) ee (.slice p1 q1 cc1)) := hmn
            have HBN : Hid (Below W.heap.size W (wa.setCell ⟨p, 3, none⟩ (.slice p1 q1 cc1))) := ((HBW1.out.trans (HC2.out.mono HBW1.out.size)).trans (growB HG1.out (fun b hb => HFR.out b hb) (Nat.le_trans HBW1.out.size HC2.out.size))).setCell HG.out.2.2 _
            have HFN : Hid (∀ b, (Value.slice p1 q1 cc1).ownBlock = some b → W.heap.size ≤ b) := fun b hb => (HN1.out b hb).elim (HFR.out b) (fun q => Nat.le_trans (Nat.le_trans HBW1.out.size HC2.out.size) q)
            have HBXZ : Hid (Bx (wa.setCell ⟨p, 3, none⟩ (.slice p1 q1 cc1)) bx #[.bool b0, .slice ra n0 rc, .slice a1 n1 c1, .slice a2 n2 c2, .int .i64 x, .int .i64 y] 37) := HBXA.out.setc HBXP.out _ _
            have HDZ : Hid (Dc (fun _ => False) (wa.setCell ⟨p, 3, none⟩ (.slice p1 q1 cc1)) [.bool b0, .slice ra n0 rc, .slice a1 n1 c1, .slice a2 n2 c2, .int .i64 x, .int .i64 y] d) := HDW.out _ HBN.out
            clear hmn HM1 HR9 HDR9 HG1 HR1 HN1 HQ HQ2 HBS HC2 HC1 HC0 HBXA HBX1 HPA HX9 HBXD HXL KT HDC1 HBW1 HMK HBW hHeld HQ1
            generalize wa.setCell ⟨p, 3, none⟩ (.slice p1 q1 cc1) = wz at *
            have HY0 : Hid (Below wz.heap.size wz wz.drew) := (Below.refl _ _).drew
            have FE : ∀ X, Below wz.heap.size wz X → X.cell? ⟨p, 4, none⟩ = some (.int .i64 ee) ∧ X.frozen? ⟨p, 4, none⟩ = false ∧ Bx X bx #[.bool b0, .slice ra n0 rc, .slice a1 n1 c1, .slice a2 n2 c2, .int .i64 x, .int .i64 y] 37 := fun X hX => ⟨cell_of_row X p 4 _ _ _ (HMN.out.kept hX).blk, by have := (HMN.out.kept hX).blk; simp [World.frozen?, this], HBXZ.out.below hX⟩
            have FE2 : ∀ X, (∃ Y, Below wz.heap.size wz Y ∧ (X = Y ∨ ∃ u, X = Y.setCell ⟨p, 4, none⟩ u)) → Bx X bx #[.bool b0, .slice ra n0 rc, .slice a1 n1 c1, .slice a2 n2 c2, .int .i64 x, .int .i64 y] 37 := by
              rintro X ⟨Y, hY, rfl | ⟨u, rfl⟩⟩
              · exact (FE _ hY).2.2
              · exact (FE _ hY).2.2.setc HBXP.out _ _
            have KE : Hid (∀ X, Below wz.heap.size wz X → Calls Tryz.prog 32 #[.agg #[.bool b0, .slice ra n0 rc, .slice a1 n1 c1, .slice a2 n2 c2, .int .i64 x, .int .i64 y]] X fun e w' => e = .returned (.int .i64 qe) ∧ Below X.heap.size X w') := fun X hX => by have := emptiness_d (HDZ.out.below hX); rw [HQE.out] at this; exact this
            go_upto_region 10 with (fail)
            apply wp_waysQ (R := fun w' => ∃ Y, Below wz.heap.size wz Y ∧ w' = Y.setCell ⟨p, 4, none⟩ (.int .i64 (ee + qe)))
            case h =>
              refine wp_region_held_drew (S := fun X : World => ∃ Y, Below wz.heap.size wz Y ∧ (X = Y ∨ ∃ u, X = Y.setCell ⟨p, 4, none⟩ u)) (by kernel_rfl) (⟨_, HY0.out, .inl rfl⟩) (fun hHeld => ?_)
              refine tkA 0 oMh13 hHeld ?_
              try simp only [oMh13, Act.put, zS, z0, z1]
              refine tkA 1 oMh14 hHeld ?_
              try simp only [oMh14, Act.put, zS, z0, z1]
              refine tkA 2 oMh15 hHeld ?_
              try simp only [oMh15, Act.put, zS, z0, z1]
              refine tkH 4 oMh16 (v := ?_) hHeld ?_ ?_; rotate_left
              · intro w hSw; dsimp only [oMh16]; have hbx := FE2 w hSw; obtain ⟨u0, u1, u2, u3, u4, u5⟩ := hbx.six; go_simp <;> with_reducible rfl
              try simp only [oMh16, Act.put, zS, z0, z1]
              refine wpAnyH_ready (rs := [3, 5]) (by kernel_rfl) (by simp) ?_
              refine AllReadyH.cons rfl (fun K hK => ?_) ?_
              · have z4 := (FE _ HY0.out).1
                go_simp
                clear z4
                refine hK.out _ _ (⟨_, HY0.out, .inl rfl⟩) (fun hHeld2 => ?_)
                clear hK K hHeld; have hHeld := hHeld2; clear hHeld2
                try simp only [Act.put, zS, z0, z1]
                refine rdy 5 rfl fun K hK => ?_
                go_simp
                refine (KE.out _ HY0.out).mono ?_
                rintro e y1 ⟨rfl, hb⟩
                have HY1 := hid (HY0.out.trans (hb.mono HY0.out.size))
                clear hb
                refine hK.out _ _ (⟨_, HY1.out, .inl rfl⟩) (fun hHeld2 => ?_)
                clear hK K hHeld; have hHeld := hHeld2; clear hHeld2
                try simp only [Act.put, zS, z0, z1]
                refine tkA 6 oMh17 hHeld ?_
                try simp only [oMh17, Act.put, zS, z0, z1]
                refine tkA 7 oMh18 hHeld ?_
                try simp only [oMh18, Act.put, zS, z0, z1]
                refine tkA 8 oMh19 hHeld ?_
                try simp only [oMh19, Act.put, zS, z0, z1]
                refine rdy 9 rfl fun K hK => ?_
                have z4 := (FE _ HY1.out).1
                have zf := (FE _ HY1.out).2.1
                go_simp
                clear z4 zf
                refine hK.out _ _ (⟨_, HY1.out, .inr ⟨_, rfl⟩⟩) (fun hHeld2 => ?_)
                clear hK K hHeld; have hHeld := hHeld2; clear hHeld2
                try simp only [Act.put, zS, z0, z1]
                refine wpAnyH_done (by kernel_rfl) ?_ _
                exact ⟨rfl, _, HY1.out, rfl⟩
              refine AllReadyH.cons rfl (fun K hK => ?_) ?_
              · go_simp
                refine (KE.out _ HY0.out).mono ?_
                rintro e y1 ⟨rfl, hb⟩
                have HY1 := hid (HY0.out.trans (hb.mono HY0.out.size))
                clear hb
                refine hK.out _ _ (⟨_, HY1.out, .inl rfl⟩) (fun hHeld2 => ?_)
                clear hK K hHeld; have hHeld := hHeld2; clear hHeld2
                try simp only [Act.put, zS, z0, z1]
                refine rdy 3 rfl fun K hK => ?_
                have z4 := (FE _ HY1.out).1
                go_simp
                clear z4
                refine hK.out _ _ (⟨_, HY1.out, .inl rfl⟩) (fun hHeld2 => ?_)
                clear hK K hHeld; have hHeld := hHeld2; clear hHeld2
                try simp only [Act.put, zS, z0, z1]
                refine tkA 6 oMh17 hHeld ?_
                try simp only [oMh17, Act.put, zS, z0, z1]
                refine tkA 7 oMh18 hHeld ?_
                try simp only [oMh18, Act.put, zS, z0, z1]
                refine tkA 8 oMh19 hHeld ?_
                try simp only [oMh19, Act.put, zS, z0, z1]
                refine rdy 9 rfl fun K hK => ?_
                have z4 := (FE _ HY1.out).1
                have zf := (FE _ HY1.out).2.1
                go_simp
                clear z4 zf
                refine hK.out _ _ (⟨_, HY1.out, .inr ⟨_, rfl⟩⟩) (fun hHeld2 => ?_)
                clear hK K hHeld; have hHeld := hHeld2; clear hHeld2
                try simp only [Act.put, zS, z0, z1]
                refine wpAnyH_done (by kernel_rfl) ?_ _
                exact ⟨rfl, _, HY1.out, rfl⟩
              exact AllReadyH.nil
            case hK =>
              rintro _ ⟨Y, hY, rfl⟩
              have HMF : Hid (Mk (Y.setCell ⟨p, 4, none⟩ (.int .i64 (ee + qe))) p gi gw n ((l.take (k + 1)).map fun d => bothA d d) ((l.take (k + 1)).map fun d => emptI (emptyA d)).sum (.slice p1 q1 cc1)) := by
                have := (HMN.out.kept hY).set_e (ee + qe)
                rw [Hid, HTK.out, List.map_append, List.map_append, List.sum_append, HEE.out]
                simpa [HQE.out] using this
              have HBF : Hid (Below W.heap.size W (Y.setCell ⟨p, 4, none⟩ (.int .i64 (ee + qe)))) := (HBN.out.trans (hY.mono HBN.out.size)).setCell HG.out.2.2 _
              clear HMN HBN HY0 FE FE2 KE HBXZ HDZ hw1 HDW
              generalize Y.setCell ⟨p, 4, none⟩ (.int .i64 (ee + qe)) = yz at *
              clear hY
              go_wp2
              go_roundw
              case rel => exact ⟨k + 1, by omega, by go_num, _, HMF, HBF, HFN, fun d' hd' => by rw [HTK.out] at hd'; rcases List.mem_append.1 hd' with q | q; exact HAR.out d' q; rw [List.mem_singleton.1 q]; exact HRT.out⟩
              case measure => simp [intOf]; omega
          refine AllReadyH.cons rfl (fun K hK => ?_) ?_
          · obtain ⟨bs, hbs⟩ : ∃ q, v1.heap.size = q := ⟨_, rfl⟩
            go_simp
            (try rw [hbs])
            obtain ⟨v2, hv2⟩ : ∃ q, v1.alloc (Obj.cells #[.bool b9, .slice r9 m9 k9, .slice p8 m8 k8, .slice p7 m7 k7, .int .i64 x9, .int .i64 y9] 37) = q := ⟨_, rfl⟩
            rw [hv2]
            have hbel : Below v1.heap.size v1 v2 := by rw [← hv2]; exact (Below.refl _ _).alloc (Nat.le_refl _) _
            have HC2 := hid (HC1.out.trans (hbel.mono HC1.out.size))
            have HBS : Hid (Bx v2 bs #[.bool b9, .slice r9 m9 k9, .slice p8 m8 k8, .slice p7 m7 k7, .int .i64 x9, .int .i64 y9] 37) := by rw [← hv2]; exact Bx.new' hbs _ _
            have HQ2 := hid (HQ.out.below hbel)
            clear hv2 hbs hbel
            refine hK.out _ _ ((HBX1.out.below HC2.out)) (fun hHeld2 => ?_)
            clear hK K hHeld; have hHeld := hHeld2; clear hHeld2
            try simp only [Act.put, zS, z0, z1]
            refine rdy 4 rfl fun K hK => ?_
            have z3 : v2.cell? ⟨p, 3, none⟩ = some (.slice da dn dcap) := cell_of_row _ p 3 _ _ _ (HM1.out.kept HC2.out).blk
            go_simp
            clear z3
            refine hK.out _ _ ((HBX1.out.below HC2.out)) (fun hHeld2 => ?_)
            clear hK K hHeld; have hHeld := hHeld2; clear hHeld2
            try simp only [Act.put, zS, z0, z1]
            refine rdy 8 rfl fun K hK => ?_
            obtain ⟨cs9, hr9, hdr9⟩ := (HM1.out.kept HC2.out).doms
            have HR9 : Hid (Rw v2 37 (.slice da dn dcap) 6 cs9) := hr9
            have HDR9 : Hid (Dr (XS p ⟨.slice none 0 0, .slice none 0 0, .slice (some ⟨gi, 0, none⟩) n n, .slice da dn dcap, .slice (some ⟨gw, 0, none⟩) n n⟩) v2 cs9 ((l.take k).map fun d => bothA d d)) := hdr9
            clear hr9 hdr9
            refine step_app HR9.out 22 Tryz.underlying22 Tryz.infoDom rfl (by decide) rfl _ _ rfl rfl ⟨bs, 0, none⟩ 1 (by with_unfolding_all rfl) [.bool b9, .slice r9 m9 k9, .slice p8 m8 k8, .slice p7 m7 k7, .int .i64 x9, .int .i64 y9] rfl (fun j u hu => by rw [Addr.add_mid, Nat.zero_add, HBS.out.cell j]; simpa using hu) (six_one _ _ _ _ _ _ _ _ _ _ _ _) (by rw [HDR9.out.1]; simp; omega) (by decide) ?_
            intro d1 wa hr1 hg1 hn1
            obtain ⟨p1, q1, cc1, rfl, HQ1, _⟩ := hr1.look
            have HR1 : Hid _ := hr1
            have HG1 : Hid _ := hg1
            have HN1 : Hid _ := hn1
            clear hr1 hg1 hn1
            have HPA : Hid (wa.heap[p]? = _) := (HG1.out.block p (HM1.out.kept HC2.out).p_lt (fun e => HR9.out.nep (HM1.out.kept HC2.out).blk (by decide) e.symm)).trans (HM1.out.kept HC2.out).blk
            have HBXA : Hid (Bx wa bx #[.bool b0, .slice ra n0 rc, .slice a1 n1 c1, .slice a2 n2 c2, .int .i64 x, .int .i64 y] 37) := ⟨(HG1.out.block bx (HBX1.out.below HC2.out).lt (fun e => HBXD.out (HX9.out _ e.symm))).trans (HBX1.out.below HC2.out).h⟩
            refine hK.out _ _ (HBXA.out) (fun hHeld2 => ?_)
            clear hK K hHeld; have hHeld := hHeld2; clear hHeld2
            try simp only [Act.put, zS, z0, z1]
            refine tkA 9 oMh11 hHeld ?_
            try simp only [oMh11, Act.put, zS, z0, z1]
            refine tkA 10 oMh12 hHeld ?_
            try simp only [oMh12, Act.put, zS, z0, z1]
            refine rdy 11 rfl fun K hK => ?_
            have z3 : wa.cell? ⟨p, 3, none⟩ = some (.slice da dn dcap) := cell_of_row _ p 3 _ _ _ HPA.out
            have zf : wa.frozen? ⟨p, 3, none⟩ = false := by have := HPA.out; simp [World.frozen?, this]
            go_simp
            clear z3 zf
            refine hK.out _ _ ((HBXA.out.setc HBXP.out _ _)) (fun hHeld2 => ?_)
            clear hK K hHeld; have hHeld := hHeld2; clear hHeld2
            try simp only [Act.put, zS, z0, z1]
            refine wpAnyH_done (by kernel_rfl) ?_ _
            have hmn := (HM1.out.kept HC2.out).app HR9.out HDR9.out HG1.out HR1.out HN1.out HQ2.out
            have HMN : Hid (Mk (wa.setCell ⟨p, 3, none⟩ (.slice p1 q1 cc1)) p gi gw n (((l.take k).map fun d => bothA d d) ++ [bothA d d]) ee (.slice p1 q1 cc1)) := hmn
            have HBN : Hid (Below W.heap.size W (wa.setCell ⟨p, 3, none⟩ (.slice p1 q1 cc1))) := ((HBW1.out.trans (HC2.out.mono HBW1.out.size)).trans (growB HG1.out (fun b hb => HFR.out b hb) (Nat.le_trans HBW1.out.size HC2.out.size))).setCell HG.out.2.2 _
            have HFN : Hid (∀ b, (Value.slice p1 q1 cc1).ownBlock = some b → W.heap.size ≤ b) := fun b hb => (HN1.out b hb).elim (HFR.out b) (fun q => Nat.le_trans (Nat.le_trans HBW1.out.size HC2.out.size) q)
            have HBXZ : Hid (Bx (wa.setCell ⟨p, 3, none⟩ (.slice p1 q1 cc1)) bx #[.bool b0, .slice ra n0 rc, .slice a1 n1 c1, .slice a2 n2 c2, .int .i64 x, .int .i64 y] 37) := HBXA.out.setc HBXP.out _ _
            have HDZ : Hid (Dc (fun _ => False) (wa.setCell ⟨p, 3, none⟩ (.slice p1 q1 cc1)) [.bool b0, .slice ra n0 rc, .slice a1 n1 c1, .slice a2 n2 c2, .int .i64 x, .int .i64 y] d) := HDW.out _ HBN.out
            clear hmn HM1 HR9 HDR9 HG1 HR1 HN1 HQ HQ2 HBS HC2 HC1 HC0 HBXA HBX1 HPA HX9 HBXD HXL KT HDC1 HBW1 HMK HBW hHeld HQ1
            generalize wa.setCell ⟨p, 3, none⟩ (.slice p1 q1 cc1) = wz at *
            have HY0 : Hid (Below wz.heap.size wz wz.drew) := (Below.refl _ _).drew
            have FE : ∀ X, Below wz.heap.size wz X → X.cell? ⟨p, 4, none⟩ = some (.int .i64 ee) ∧ X.frozen? ⟨p, 4, none⟩ = false ∧ Bx X bx #[.bool b0, .slice ra n0 rc, .slice a1 n1 c1, .slice a2 n2 c2, .int .i64 x, .int .i64 y] 37 := fun X hX => ⟨cell_of_row X p 4 _ _ _ (HMN.out.kept hX).blk, by have := (HMN.out.kept hX).blk; simp [World.frozen?, this], HBXZ.out.below hX⟩
            have FE2 : ∀ X, (∃ Y, Below wz.heap.size wz Y ∧ (X = Y ∨ ∃ u, X = Y.setCell ⟨p, 4, none⟩ u)) → Bx X bx #[.bool b0, .slice ra n0 rc, .slice a1 n1 c1, .slice a2 n2 c2, .int .i64 x, .int .i64 y] 37 := by
              rintro X ⟨Y, hY, rfl | ⟨u, rfl⟩⟩
              · exact (FE _ hY).2.2
              · exact (FE _ hY).2.2.setc HBXP.out _ _
            have KE : Hid (∀ X, Below wz.heap.size wz X → Calls Tryz.prog 32 #[.agg #[.bool b0, .slice ra n0 rc, .slice a1 n1 c1, .slice a2 n2 c2, .int .i64 x, .int .i64 y]] X fun e w' => e = .returned (.int .i64 qe) ∧ Below X.heap.size X w') := fun X hX => by have := emptiness_d (HDZ.out.below hX); rw [HQE.out] at this; exact this
            go_upto_region 10 with (fail)
            apply wp_waysQ (R := fun w' => ∃ Y, Below wz.heap.size wz Y ∧ w' = Y.setCell ⟨p, 4, none⟩ (.int .i64 (ee + qe)))
            case h =>
              refine wp_region_held_drew (S := fun X : World => ∃ Y, Below wz.heap.size wz Y ∧ (X = Y ∨ ∃ u, X = Y.setCell ⟨p, 4, none⟩ u)) (by kernel_rfl) (⟨_, HY0.out, .inl rfl⟩) (fun hHeld => ?_)
              refine tkA 0 oMh13 hHeld ?_
              try simp only [oMh13, Act.put, zS, z0, z1]
              refine tkA 1 oMh14 hHeld ?_
              try simp only [oMh14, Act.put, zS, z0, z1]
              refine tkA 2 oMh15 hHeld ?_
              try simp only [oMh15, Act.put, zS, z0, z1]
              refine tkH 4 oMh16 (v := ?_) hHeld ?_ ?_; rotate_left
              · intro w hSw; dsimp only [oMh16]; have hbx := FE2 w hSw; obtain ⟨u0, u1, u2, u3, u4, u5⟩ := hbx.six; go_simp <;> with_reducible rfl
              try simp only [oMh16, Act.put, zS, z0, z1]
              refine wpAnyH_ready (rs := [3, 5]) (by kernel_rfl) (by simp) ?_
              refine AllReadyH.cons rfl (fun K hK => ?_) ?_
              · have z4 := (FE _ HY0.out).1
                go_simp
                clear z4
                refine hK.out _ _ (⟨_, HY0.out, .inl rfl⟩) (fun hHeld2 => ?_)
                clear hK K hHeld; have hHeld := hHeld2; clear hHeld2
                try simp only [Act.put, zS, z0, z1]
                refine rdy 5 rfl fun K hK => ?_
                go_simp
                refine (KE.out _ HY0.out).mono ?_
                rintro e y1 ⟨rfl, hb⟩
                have HY1 := hid (HY0.out.trans (hb.mono HY0.out.size))
                clear hb
                refine hK.out _ _ (⟨_, HY1.out, .inl rfl⟩) (fun hHeld2 => ?_)
                clear hK K hHeld; have hHeld := hHeld2; clear hHeld2
                try simp only [Act.put, zS, z0, z1]
                refine tkA 6 oMh17 hHeld ?_
                try simp only [oMh17, Act.put, zS, z0, z1]
                refine tkA 7 oMh18 hHeld ?_
                try simp only [oMh18, Act.put, zS, z0, z1]
                refine tkA 8 oMh19 hHeld ?_
                try simp only [oMh19, Act.put, zS, z0, z1]
                refine rdy 9 rfl fun K hK => ?_
                have z4 := (FE _ HY1.out).1
                have zf := (FE _ HY1.out).2.1
                go_simp
                clear z4 zf
                refine hK.out _ _ (⟨_, HY1.out, .inr ⟨_, rfl⟩⟩) (fun hHeld2 => ?_)
                clear hK K hHeld; have hHeld := hHeld2; clear hHeld2
                try simp only [Act.put, zS, z0, z1]
                refine wpAnyH_done (by kernel_rfl) ?_ _
                exact ⟨rfl, _, HY1.out, rfl⟩
              refine AllReadyH.cons rfl (fun K hK => ?_) ?_
              · go_simp
                refine (KE.out _ HY0.out).mono ?_
                rintro e y1 ⟨rfl, hb⟩
                have HY1 := hid (HY0.out.trans (hb.mono HY0.out.size))
                clear hb
                refine hK.out _ _ (⟨_, HY1.out, .inl rfl⟩) (fun hHeld2 => ?_)
                clear hK K hHeld; have hHeld := hHeld2; clear hHeld2
                try simp only [Act.put, zS, z0, z1]
                refine rdy 3 rfl fun K hK => ?_
                have z4 := (FE _ HY1.out).1
                go_simp
                clear z4
                refine hK.out _ _ (⟨_, HY1.out, .inl rfl⟩) (fun hHeld2 => ?_)
                clear hK K hHeld; have hHeld := hHeld2; clear hHeld2
                try simp only [Act.put, zS, z0, z1]
                refine tkA 6 oMh17 hHeld ?_
                try simp only [oMh17, Act.put, zS, z0, z1]
                refine tkA 7 oMh18 hHeld ?_
                try simp only [oMh18, Act.put, zS, z0, z1]
                refine tkA 8 oMh19 hHeld ?_
                try simp only [oMh19, Act.put, zS, z0, z1]
                refine rdy 9 rfl fun K hK => ?_
                have z4 := (FE _ HY1.out).1
                have zf := (FE _ HY1.out).2.1
                go_simp
                clear z4 zf
                refine hK.out _ _ (⟨_, HY1.out, .inr ⟨_, rfl⟩⟩) (fun hHeld2 => ?_)
                clear hK K hHeld; have hHeld := hHeld2; clear hHeld2
                try simp only [Act.put, zS, z0, z1]
                refine wpAnyH_done (by kernel_rfl) ?_ _
                exact ⟨rfl, _, HY1.out, rfl⟩
              exact AllReadyH.nil
            case hK =>
              rintro _ ⟨Y, hY, rfl⟩
              have HMF : Hid (Mk (Y.setCell ⟨p, 4, none⟩ (.int .i64 (ee + qe))) p gi gw n ((l.take (k + 1)).map fun d => bothA d d) ((l.take (k + 1)).map fun d => emptI (emptyA d)).sum (.slice p1 q1 cc1)) := by
                have := (HMN.out.kept hY).set_e (ee + qe)
                rw [Hid, HTK.out, List.map_append, List.map_append, List.sum_append, HEE.out]
                simpa [HQE.out] using this
              have HBF : Hid (Below W.heap.size W (Y.setCell ⟨p, 4, none⟩ (.int .i64 (ee + qe)))) := (HBN.out.trans (hY.mono HBN.out.size)).setCell HG.out.2.2 _
              clear HMN HBN HY0 FE FE2 KE HBXZ HDZ hw1 HDW
              generalize Y.setCell ⟨p, 4, none⟩ (.int .i64 (ee + qe)) = yz at *
              clear hY
              go_wp2
              go_roundw
              case rel => exact ⟨k + 1, by omega, by go_num, _, HMF, HBF, HFN, fun d' hd' => by rw [HTK.out] at hd'; rcases List.mem_append.1 hd' with q | q; exact HAR.out d' q; rw [List.mem_singleton.1 q]; exact HRT.out⟩
              case measure => simp [intOf]; omega
          exact AllReadyH.nil
        exact AllReadyH.nil
      · obtain rfl : k = n := by omega
        have hlt' : ¬ (k : Int) < k := by omega
        go_wp2
        go_ret2
        have e0 : l.take k = l := by rw [← HNL.out]; exact List.take_length
        have hM := HMK.out
        rw [e0] at hM
        refine Or.inl ⟨?_, by rw [← e0]; exact HAR.out⟩
        refine ⟨p, rfl, ⟨.slice none 0 0, .slice none 0 0, .slice (some ⟨gi, 0, none⟩) k k, dv, .slice (some ⟨gw, 0, none⟩) k k⟩, ?_, ?_, HBW.out⟩
        · have := hM.sto (by simp [HNL.out])
          unfold newA
          rw [HNL.out]
          exact this
        · intro b hb
          rcases hb with q | q | q | q | q | q
          · rw [q]; exact HG.out.2.2
          · cases q
          · cases q
          · injection q with q; rw [← q]; exact HG.out.1
          · exact HFR.out b q
          · injection q with q; rw [← q]; exact HG.out.2.1

theorem new_ok [Gh] {W : World} {s : Value} {l : List MD} (h : Ld W s l) (hG : ∀ b, Gh.Y b → b < W.heap.size ∧ W.heap[b]? = Gh.H b) (hl : l.length ≤ 1000) (hok : ∀ d ∈ l, Dm.FitsR d.r ∧ rightM d = true) :
    Calls Tryz.prog 8 #[s] W fun e w' => ∃ p sl, e = .returned (.tuple #[ptr p, .int .i64 0]) ∧ Sto w' p (newA l) sl ∧ (∀ b, OX p sl b → W.heap.size ≤ b) ∧ Below W.heap.size W w' :=
  (new_gen h hG hl fun d hd => (hok d hd).1).mono fun e w' q => q.elim (fun q => q.1) fun q => by
    obtain ⟨_, d, h1, h2⟩ := q; rw [(hok d h1).2] at h2; cases h2
theorem new_no [Gh] {W : World} {s : Value} {l : List MD} (h : Ld W s l) (hG : ∀ b, Gh.Y b → b < W.heap.size ∧ W.heap[b]? = Gh.H b) (hl : l.length ≤ 1000) (hok : ∀ d ∈ l, Dm.FitsR d.r) (hno : ∃ d ∈ l, rightM d = false) :
    Calls Tryz.prog 8 #[s] W fun e w' => e = .returned (.tuple #[.pointer none, .int .i64 20]) ∧ Below W.heap.size W w' :=
  (new_gen h hG hl hok).mono fun e w' q => q.elim (fun q => by
    obtain ⟨d, h1, h2⟩ := hno; rw [q.2 d h1] at h2; cases h2) fun q => q.1

set_option maxRecDepth 100000 in
set_option maxHeartbeats 4000000 in
theorem new_big {W : World} {s : Value} {l : List MD} (h : Ld W s l) (hl : 1000 < l.length) :
    Calls Tryz.prog 8 #[s] W fun e w' => e = .returned (.tuple #[.pointer none, .int .i64 4]) ∧ Below W.heap.size W w' := by
  obtain ⟨a, cap, rfl, hcells⟩ := h
  obtain ⟨n, hnl⟩ : ∃ n, l.length = n := ⟨_, rfl⟩
  rw [hnl] at hcells hl ⊢
  have hn' : (1000 : Int) < (n : Int) := by omega
  clear hcells hl hnl
  go_enter Tryz.func8, Tryz.ntmps8
  go_wp2
  go_ret2
  exact ⟨rfl, Below.refl _ _⟩
end Go.Proofs.YtghnfnieppfhgaaGreat
