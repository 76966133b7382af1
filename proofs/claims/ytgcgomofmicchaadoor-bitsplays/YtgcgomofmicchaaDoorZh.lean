/-
  What is proved here: two sets of bits and two of the reference side by side in memory; Add and Del of both kinds; And, Or and Minus of both kinds, and join.
-/
import Derived.Test.YtgcgomofmicchaaDoorZb
import Derived.Test.YtgcgomofmicchaaDoorZa
namespace Go.Proofs.YtgcgomofmicchaaDoor
open Go.RowKit Go.Shelf
set_option linter.unusedVariables false

/-- A set of bits and one of the reference: where they lie, and what they have. -/
structure PS where
  b : Nat
  g : Nat
  c : Nat
  rb : Nat
  rg : Nat
  rc : Nat
  f : Int
  room : Int
  ws : List Nat
  L : List Bool
/-- They have the same values. -/
structure Fit (p : PS) : Prop where
  sz : Sz p.f p.room p.ws
  cl : Cl p.room p.ws
  rz : Rz p.f p.L
  ag : Agree p.room p.ws p.L
  small : p.L.length ≤ 3000
theorem Fit.le {p : PS} (h : Fit p) : (runs (bvs p.f p.room p.ws)).length ≤ 4096 := by
  rw [agree_bvs h.ag]
  have := runs_len p.f (lat p.L) p.L.length
  have := h.small
  omega
structure Mem (W : World) (n₀ : Nat) (p q : PS) : Prop where
  pb : Bits W p.b p.g p.c p.f p.room p.ws
  pr : Ref W p.rb p.rg p.rc p.f p.L
  qb : Bits W q.b q.g q.c q.f q.room q.ws
  qr : Ref W q.rb q.rg q.rc q.f q.L
  gg : p.g ≠ q.g
  rr : p.rg ≠ q.rg
  bb : p.rb ≠ q.rb
  p0 : n₀ ≤ p.g ∧ n₀ ≤ p.rg ∧ n₀ ≤ p.rb
  q0 : n₀ ≤ q.g ∧ n₀ ≤ q.rg ∧ n₀ ≤ q.rb
theorem Mem.swap {W : World} {n₀ : Nat} {p q : PS} (h : Mem W n₀ p q) : Mem W n₀ q p := ⟨h.qb, h.qr, h.pb, h.pr, h.gg.symm, h.rr.symm, h.bb.symm, h.q0, h.p0⟩
theorem Mem.drawn {W : World} {n₀ : Nat} {p q : PS} (h : Mem W n₀ p q) (m : Nat) : Mem (W.drewN m) n₀ p q := ⟨h.pb, h.pr, h.qb, h.qr, h.gg, h.rr, h.bb, h.p0, h.q0⟩
theorem Mem.below {W W' : World} {n₀ : Nat} {p q : PS} (h : Mem W n₀ p q) (hb : Below W.heap.size W W') : Mem W' n₀ p q :=
  ⟨h.pb.below hb h.pb.b_lt h.pb.g_lt, h.pr.below hb h.pr.b_lt h.pr.g_lt, h.qb.below hb h.qb.b_lt h.qb.g_lt, h.qr.below hb h.qr.b_lt h.qr.g_lt, h.gg, h.rr, h.bb, h.p0, h.q0⟩
theorem cells_ne {W : World} {x y : Nat} {cx cy : Array Value} {tx ty : TypeId} (hx : W.heap[x]? = some (.cells cx tx (0, 0))) (hy : W.heap[y]? = some (.cells cy ty (0, 0))) (ht : tx ≠ ty) : x ≠ y := fun e => by
  subst e
  rw [hx] at hy
  cases hy
  exact ht rfl
theorem bits_b_g {W : World} {b g c ob og oc : Nat} {f room of oroom : Int} {ws ows : List Nat} (h : Bits W b g c f room ws) (k : Bits W ob og oc of oroom ows) : ob ≠ g := by
  obtain ⟨cur, h1, _⟩ := h.row
  exact cells_ne k.1 h1 (by decide)
theorem ref_b_g {W : World} {b g c ob og oc : Nat} {f of : Int} {L oL : List Bool} (h : Ref W b g c f L) (k : Ref W ob og oc of oL) : ob ≠ g := by
  obtain ⟨cur, h1, _⟩ := h.row
  exact cells_ne k.1 h1 (by decide)
theorem bits_ref {W : World} {b g c ob og oc : Nat} {f room of : Int} {ws : List Nat} {oL : List Bool} (h : Bits W b g c f room ws) (k : Ref W ob og oc of oL) : ob ≠ g ∧ og ≠ g ∧ b ≠ og ∧ b ≠ ob := by
  obtain ⟨cur, h1, _⟩ := h.row
  obtain ⟨cur', k1, _⟩ := k.row
  exact ⟨cells_ne k.1 h1 (by decide), cells_ne k1 h1 (by decide), cells_ne h.1 k1 (by decide), cells_ne h.1 k.1 (by decide)⟩
theorem Mem.bits_op {W W' : World} {n₀ : Nat} {p q : PS} (h : Mem W n₀ p q) {ws' : List Nat} (hB : Bits W' p.b p.g p.c p.f p.room ws') (hoff : ∀ B, B ≠ p.g → W'.heap[B]? = W.heap[B]?) : Mem W' n₀ { p with ws := ws' } q :=
  have e1 := bits_ref h.pb h.pr
  have e2 := bits_ref h.pb h.qr
  ⟨hB, h.pr.keep (hoff _ e1.1) (hoff _ e1.2.1), h.qb.keep (hoff _ (bits_b_g h.pb h.qb)) (hoff _ h.gg.symm), h.qr.keep (hoff _ e2.1) (hoff _ e2.2.1), h.gg, h.rr, h.bb, h.p0, h.q0⟩
theorem Mem.ref_op {W W' : World} {n₀ : Nat} {p q : PS} (h : Mem W n₀ p q) {rg' rc' : Nat} {L' : List Bool} (hB : Ref W' p.rb rg' rc' p.f L') (hg : rg' = p.rg ∨ W.heap.size ≤ rg') (hn : n₀ ≤ W.heap.size) (hoff : ∀ B, B < W.heap.size → B ≠ p.rg → B ≠ p.rb → W'.heap[B]? = W.heap[B]?) : Mem W' n₀ { p with rg := rg', rc := rc', L := L' } q := by
  have e1 := bits_ref h.pb h.pr
  have e2 := bits_ref h.qb h.pr
  have e3 := ref_b_g h.pr h.qr
  have e4 := ref_b_g h.qr h.pr
  have hl := h.qr.g_lt
  refine ⟨h.pb.keep (hoff _ h.pb.b_lt e1.2.2.1 e1.2.2.2) (hoff _ h.pb.g_lt e1.2.1.symm e1.1.symm), hB, h.qb.keep (hoff _ h.qb.b_lt e2.2.2.1 e2.2.2.2) (hoff _ h.qb.g_lt e2.2.1.symm e2.1.symm), h.qr.keep (hoff _ h.qr.b_lt e3 h.bb.symm) (hoff _ h.qr.g_lt h.rr.symm e4.symm), h.gg, ?_, h.bb, ⟨h.p0.1, ?_, h.p0.2.2⟩, h.q0⟩
  · rcases hg with e | e
    · show rg' ≠ q.rg; rw [e]; exact h.rr
    · show rg' ≠ q.rg; omega
  · rcases hg with e | e
    · show n₀ ≤ rg'; rw [e]; exact h.p0.2.1
    · show n₀ ≤ rg'; omega
theorem Mem.n₀_le {W : World} {n₀ : Nat} {p q : PS} (h : Mem W n₀ p q) : n₀ ≤ W.heap.size := Nat.le_of_lt (Nat.lt_of_le_of_lt h.p0.1 h.pb.g_lt)

/-- What an operation on p leaves: nothing below n₀, and no block but p's own, is another one. -/
def Out (n₀ : Nat) (p : PS) (W W' : World) : Prop := Below n₀ W W' ∧ ∀ B, B < W.heap.size → B ≠ p.g → B ≠ p.rg → B ≠ p.rb → W'.heap[B]? = W.heap[B]?
theorem Out.trans {n₀ : Nat} {p : PS} {X Y Z : World} (h : Out n₀ p X Y) (k : Out n₀ p Y Z) : Out n₀ p X Z :=
  ⟨h.1.trans k.1, fun B h0 h1 h2 h3 => (k.2 B (Nat.lt_of_lt_of_le h0 h.1.size) h1 h2 h3).trans (h.2 B h0 h1 h2 h3)⟩
theorem out_drawn (n₀ : Nat) (p : PS) (W : World) (m : Nat) : Out n₀ p W (W.drewN m) := ⟨below_drewN (Below.refl n₀ W) m, fun _ _ _ _ _ => rfl⟩
theorem out_g (n₀ : Nat) (p : PS) (W : World) (k : Nat) (v : Value) (m : Nat) (h : n₀ ≤ p.g) : Out n₀ p W ((W.setCell ⟨p.g, k, none⟩ v).drewN m) := ⟨below_drewN ((Below.refl n₀ W).setCell (p := ⟨p.g, k, none⟩) h v) m, fun B _ h1 _ _ => set_same W _ _ m _ B h1⟩
theorem out_rg (n₀ : Nat) (p : PS) (W : World) (k : Nat) (v : Value) (m : Nat) (h : n₀ ≤ p.rg) : Out n₀ p W ((W.setCell ⟨p.rg, k, none⟩ v).drewN m) := ⟨below_drewN ((Below.refl n₀ W).setCell (p := ⟨p.rg, k, none⟩) h v) m, fun B _ _ h2 _ => set_same W _ _ m _ B h2⟩
theorem fit_has {p : PS} (h : Fit p) (v : Int) : hasB p.f p.room p.ws v = (fitB p.f p.L.length v && lat p.L (v - p.f).toNat) := agree_has h.ag h.cl v
theorem fit_in {p : PS} (h : Fit p) {v : Int} {n : Nat} (hn : v - p.f = (n : Int)) (hL : n < p.L.length) : hasB p.f p.room p.ws v = lat p.L n := by
  rw [fit_has h, fitB_yes ⟨by omega, by omega⟩, lat_of p.L v p.f n hn]; rfl

/-- Add of both. -/
theorem add_pair {W : World} {n₀ : Nat} {p q : PS} (hM : Mem W n₀ p q) (hF : Fit p) (v : Int) :
    ∃ (t : Bool) (e : Int) (ws' : List Nat) (L' : List Bool), Fit { p with ws := ws', L := L' } ∧
      (Calls Tryd.prog 16 #[.pointer (some ⟨p.b, 0, none⟩), .int .i64 v] W fun r w' => r = .returned (.tuple #[.bool t, .int .i64 e]) ∧ Mem w' n₀ { p with ws := ws' } q ∧ Out n₀ p W w') ∧
      (∀ W1, Mem W1 n₀ { p with ws := ws' } q → Calls Tryd.prog 17 #[.pointer (some ⟨p.rb, 0, none⟩), .int .i64 v] W1 fun r w' => r = .returned (.tuple #[.bool t, .int .i64 e]) ∧ Mem w' n₀ { p with ws := ws', L := L' } q ∧ Out n₀ p W1 w') := by
  by_cases hf : p.f ≤ v ∧ v < p.f + p.room
  · have hr := hF.ag.1
    obtain ⟨n, hn, hn2⟩ := has_room hF.sz hf
    have hL : n < p.L.length := by omega
    have hs := fit_in hF hn hL
    cases hx : lat p.L n
    · rw [hx] at hs
      refine ⟨true, 0, flip p.ws n, p.L.set n true, ⟨flip_sz hF.sz n hn2, flip_cl hF.cl n hn2 (by omega), ⟨hF.rz.lo, by rw [List.length_set]; exact hF.rz.one, by rw [List.length_set]; exact hF.rz.most, by rw [List.length_set]; exact hF.rz.hi⟩, flip_agree hF.ag n hn2 hL true (by rw [hx]; rfl), by rw [List.length_set]; exact hF.small⟩, ?_, ?_⟩
      · refine (add_new p.b p.g p.c n p.f p.room v p.ws W hM.pb hF.sz hf hs hn hn2).mono fun r w' ⟨he, m, hw⟩ => ⟨he, ?_, ?_⟩
        · rw [hw]; exact hM.bits_op ((hM.pb.store (n / 64) hn2 _).drawn m) (fun B hB => set_same W _ _ m _ B hB)
        · rw [hw]; exact out_g n₀ p W _ _ m hM.p0.1
      · intro W1 hM1
        refine (refadd_yes p.rb p.rg p.rc n p.f v p.L W1 hM1.pr hF.rz hn hL true (by rw [hx]; rfl)).mono fun r w' ⟨he, m, hw⟩ => ⟨he, ?_, ?_⟩
        · rw [hw]; exact hM1.ref_op ((hM1.pr.set n true).drawn m) (.inl rfl) hM1.n₀_le (fun B _ hB _ => set_same W1 _ _ m _ B hB)
        · rw [hw]; exact out_rg n₀ p W1 _ _ m hM.p0.2.1
    · rw [hx] at hs
      have hset : p.L.set n true = p.L := lat_ext List.length_set (fun i _ => by rw [lat_set _ _ _ _ hL]; split; (rename_i h; subst h; exact hx.symm); rfl)
      refine ⟨false, 0, p.ws, p.L, hF, ?_, ?_⟩
      · refine (add_is p.b p.g p.c p.f p.room v p.ws W hM.pb hF.sz hs).mono fun r w' ⟨he, m, hw⟩ => ⟨he, ?_, ?_⟩
        · rw [hw]; exact hM.drawn m
        · rw [hw]; exact out_drawn n₀ p W m
      · intro W1 hM1
        refine (refadd_yes p.rb p.rg p.rc n p.f v p.L W1 hM1.pr hF.rz hn hL false (by rw [hx]; rfl)).mono fun r w' ⟨he, m, hw⟩ => ⟨he, ?_, ?_⟩
        · have h9 := (hM1.pr.set n true).drawn m
          rw [hset] at h9
          rw [hw]; exact hM1.ref_op h9 (.inl rfl) hM1.n₀_le (fun B _ hB _ => set_same W1 _ _ m _ B hB)
        · rw [hw]; exact out_rg n₀ p W1 _ _ m hM.p0.2.1
  · have hr := hF.ag.1
    refine ⟨false, 20, p.ws, p.L, hF, ?_, ?_⟩
    · refine (add_dom p.b p.g p.c p.f p.room v p.ws W hM.pb hF.sz hf).mono fun r w' ⟨he, m, hw⟩ => ⟨he, ?_, ?_⟩
      · rw [hw]; exact hM.drawn m
      · rw [hw]; exact out_drawn n₀ p W m
    · intro W1 hM1
      refine (refadd_dom p.rb p.rg p.rc p.f v p.L W1 hM1.pr hF.rz (by omega)).mono fun r w' ⟨he, m, hw⟩ => ⟨he, ?_, ?_⟩
      · rw [hw]; exact hM1.drawn m
      · rw [hw]; exact out_drawn n₀ p W1 m
/-- Del of both. -/
theorem del_pair {W : World} {n₀ : Nat} {p q : PS} (hM : Mem W n₀ p q) (hF : Fit p) (v : Int) :
    ∃ (t : Bool) (e : Int) (ws' : List Nat) (L' : List Bool), Fit { p with ws := ws', L := L' } ∧
      (Calls Tryd.prog 18 #[.pointer (some ⟨p.b, 0, none⟩), .int .i64 v] W fun r w' => r = .returned (.tuple #[.bool t, .int .i64 e]) ∧ Mem w' n₀ { p with ws := ws' } q ∧ Out n₀ p W w') ∧
      (∀ W1, Mem W1 n₀ { p with ws := ws' } q → Calls Tryd.prog 19 #[.pointer (some ⟨p.rb, 0, none⟩), .int .i64 v] W1 fun r w' => r = .returned (.tuple #[.bool t, .int .i64 e]) ∧ Mem w' n₀ { p with ws := ws', L := L' } q ∧ Out n₀ p W1 w') := by
  by_cases hf : p.f ≤ v ∧ v < p.f + p.room
  · have hr := hF.ag.1
    obtain ⟨n, hn, hn2⟩ := has_room hF.sz hf
    have hL : n < p.L.length := by omega
    have hs := fit_in hF hn hL
    cases hx : lat p.L n
    · rw [hx] at hs
      have hset : p.L.set n false = p.L := lat_ext List.length_set (fun i _ => by rw [lat_set _ _ _ _ hL]; split; (rename_i h; subst h; exact hx.symm); rfl)
      refine ⟨false, 0, p.ws, p.L, hF, ?_, ?_⟩
      · refine (del_no p.b p.g p.c p.f p.room v p.ws W hM.pb hF.sz hs).mono fun r w' ⟨he, m, hw⟩ => ⟨he, ?_, ?_⟩
        · rw [hw]; exact hM.drawn m
        · rw [hw]; exact out_drawn n₀ p W m
      · intro W1 hM1
        refine (refdel_yes p.rb p.rg p.rc n p.f v p.L W1 hM1.pr hF.rz hn hL false (by rw [hx]; rfl)).mono fun r w' ⟨he, m, hw⟩ => ⟨he, ?_, ?_⟩
        · have h9 := (hM1.pr.set n false).drawn m
          rw [hset] at h9
          rw [hw]; exact hM1.ref_op h9 (.inl rfl) hM1.n₀_le (fun B _ hB _ => set_same W1 _ _ m _ B hB)
        · rw [hw]; exact out_rg n₀ p W1 _ _ m hM.p0.2.1
    · rw [hx] at hs
      refine ⟨true, 0, flip p.ws n, p.L.set n false, ⟨flip_sz hF.sz n hn2, flip_cl hF.cl n hn2 (by omega), ⟨hF.rz.lo, by rw [List.length_set]; exact hF.rz.one, by rw [List.length_set]; exact hF.rz.most, by rw [List.length_set]; exact hF.rz.hi⟩, flip_agree hF.ag n hn2 hL false (by rw [hx]; rfl), by rw [List.length_set]; exact hF.small⟩, ?_, ?_⟩
      · refine (del_yes p.b p.g p.c n p.f p.room v p.ws W hM.pb hF.sz hs hn hn2).mono fun r w' ⟨he, m, hw⟩ => ⟨he, ?_, ?_⟩
        · rw [hw]; exact hM.bits_op ((hM.pb.store (n / 64) hn2 _).drawn m) (fun B hB => set_same W _ _ m _ B hB)
        · rw [hw]; exact out_g n₀ p W _ _ m hM.p0.1
      · intro W1 hM1
        refine (refdel_yes p.rb p.rg p.rc n p.f v p.L W1 hM1.pr hF.rz hn hL true (by rw [hx]; rfl)).mono fun r w' ⟨he, m, hw⟩ => ⟨he, ?_, ?_⟩
        · rw [hw]; exact hM1.ref_op ((hM1.pr.set n false).drawn m) (.inl rfl) hM1.n₀_le (fun B _ hB _ => set_same W1 _ _ m _ B hB)
        · rw [hw]; exact out_rg n₀ p W1 _ _ m hM.p0.2.1
  · have hr := hF.ag.1
    have hs : hasB p.f p.room p.ws v = false := by
      unfold hasB; rw [fitB_no hf]; rfl
    refine ⟨false, 0, p.ws, p.L, hF, ?_, ?_⟩
    · refine (del_no p.b p.g p.c p.f p.room v p.ws W hM.pb hF.sz hs).mono fun r w' ⟨he, m, hw⟩ => ⟨he, ?_, ?_⟩
      · rw [hw]; exact hM.drawn m
      · rw [hw]; exact out_drawn n₀ p W m
    · intro W1 hM1
      refine (refdel_no p.rb p.rg p.rc p.f v p.L W1 hM1.pr hF.rz (by omega)).mono fun r w' ⟨he, m, hw⟩ => ⟨he, ?_, ?_⟩
      · rw [hw]; exact hM1.drawn m
      · rw [hw]; exact out_drawn n₀ p W1 m

theorem Mem.oth {W : World} {n₀ : Nat} {p q o : PS} (h : Mem W n₀ p q) (ho : o = q ∨ o = p) : Oth W p.b p.g p.c p.f p.room p.ws o.b o.g o.c o.f o.room o.ws := by
  rcases ho with rfl | rfl
  · exact .inl ⟨h.qb, bits_b_g h.pb h.qb, h.gg.symm⟩
  · exact .inr ⟨rfl, rfl, rfl, rfl, rfl, rfl⟩
theorem joinL_len (op : Bool → Bool → Bool) (f of oroom : Int) (L : List Bool) (ows : List Nat) : (joinL op f of oroom L ows).length = L.length := opL_len _ _
theorem fit_join {op2 : Nat → Nat → Nat} {op : Bool → Bool → Bool} (hj : Joins op2 op) {p o : PS} (hF : Fit p) (hO : Fit o) (hop : ∀ k : Int, p.room ≤ k → op false (bt o.ws (p.f + k - o.f)) = false) :
    Fit { p with ws := joinW op2 p.f o.f p.ws o.ws, L := joinL op p.f o.f o.room p.L o.ws } :=
  ⟨join_sz hj hF.sz hO.sz, join_cl hj hF.sz hO.sz hF.cl hop, ⟨hF.rz.lo, by show 1 ≤ (joinL _ _ _ _ _ _).length; rw [joinL_len]; exact hF.rz.one, by show (joinL _ _ _ _ _ _).length ≤ _; rw [joinL_len]; exact hF.rz.most, by show p.f + ((joinL _ _ _ _ _ _).length : Int) ≤ _; rw [joinL_len]; exact hF.rz.hi⟩, join_agree hj hF.sz hO.sz hO.cl hF.ag, by show (joinL _ _ _ _ _ _).length ≤ _; rw [joinL_len]; exact hF.small⟩
theorem self_has {p : PS} (hF : Fit p) (i : Nat) (hi : i < p.L.length) : hasB p.f p.room p.ws (p.f + (i : Int)) = lat p.L i := fit_in hF (by omega) hi
theorem joinL_self {p : PS} (hF : Fit p) (op : Bool → Bool → Bool) : joinL op p.f p.f p.room p.L p.ws = opL (fun i => op (lat p.L i) (lat p.L i)) p.L.length :=
  lat_ext (by rw [joinL_len, opL_len]) (fun i hi => by
    rw [joinL_len] at hi
    unfold joinL
    rw [opL_lat _ _ _ hi, opL_lat _ _ _ hi, self_has hF i hi])
theorem opL_id (L : List Bool) : opL (fun i => lat L i && lat L i) L.length = L := lat_ext (opL_len _ _) (fun i hi => by rw [opL_len] at hi; rw [opL_lat _ _ _ hi]; simp)

theorem and_pair {W : World} {n₀ : Nat} {p q o : PS} (hM : Mem W n₀ p q) (hF : Fit p) (hO : Fit o) (ho : o = q ∨ o = p) :
    ∃ (t : Bool) (ws' : List Nat) (L' : List Bool), Fit { p with ws := ws', L := L' } ∧
      (Calls Tryd.prog 25 #[.pointer (some ⟨p.b, 0, none⟩), .pointer (some ⟨o.b, 0, none⟩)] W fun r w' => r = .returned (.tuple #[.bool t, .int .i64 0]) ∧ Mem w' n₀ { p with ws := ws' } q ∧ Out n₀ p W w') ∧
      (∀ W1, Mem W1 n₀ { p with ws := ws' } q → Calls Tryd.prog 55 #[.pointer (some ⟨p.rb, 0, none⟩), .pointer (some ⟨o.rb, 0, none⟩)] W1 fun r w' => r = .returned (.bool t) ∧ (∃ rg rc, Mem w' n₀ { p with ws := ws', rg := rg, rc := rc, L := L' } q) ∧ Out n₀ p W1 w') := by
  have hch := join_chg joins_and (L := p.L) hF.sz hO.sz hF.cl hO.cl hF.ag (fun k _ => rfl)
  refine ⟨_, _, _, fit_join joins_and hF hO (fun k _ => rfl), (and_two p.b p.g p.c p.f p.room p.ws o.b o.g o.c o.f o.room o.ws W hM.pb hF.sz hO.sz (hM.oth ho) n₀ hM.p0.1 _ hch).mono fun r w' ⟨he, hB, hb, hoff⟩ => ⟨he, hM.bits_op hB hoff, hb, fun B _ h1 _ _ => hoff B h1⟩, fun W1 hM1 => ?_⟩
  rcases ho with rfl | rfl
  · refine (refand_other p.rb p.rg p.rc o.rb o.rg o.rc p.f o.f p.L o.L (hasB o.f o.room o.ws) W1 hM1.pr hF.rz hM1.qr hO.rz ⟨ref_b_g hM1.pr hM1.qr, hM1.rr.symm⟩ (fun v => (fit_has hO v).symm) n₀ hM.p0.2.1).mono fun r w' ⟨he, hB, hb, hoff⟩ => ⟨he, ⟨p.rg, p.rc, hM1.ref_op hB (.inl rfl) hM1.n₀_le (fun B _ h1 _ => hoff B h1)⟩, hb, fun B _ _ h2 _ => hoff B h2⟩
  · have hid : joinL (fun a b => a && b) o.f o.f o.room o.L o.ws = o.L := by rw [joinL_self hF, opL_id]
    rw [hid]
    refine (refand_self o.rb o.rg o.rc o.f o.L W1 hM1.pr hF.rz).mono fun r w' ⟨he, m, hw⟩ => ⟨by rw [he]; simp, ⟨o.rg, o.rc, by rw [hw]; exact hM1.drawn m⟩, by rw [hw]; exact out_drawn n₀ _ W1 m⟩
theorem minus_pair {W : World} {n₀ : Nat} {p q o : PS} (hM : Mem W n₀ p q) (hF : Fit p) (hO : Fit o) (ho : o = q ∨ o = p) :
    ∃ (t : Bool) (ws' : List Nat) (L' : List Bool), Fit { p with ws := ws', L := L' } ∧
      (Calls Tryd.prog 26 #[.pointer (some ⟨p.b, 0, none⟩), .pointer (some ⟨o.b, 0, none⟩)] W fun r w' => r = .returned (.tuple #[.bool t, .int .i64 0]) ∧ Mem w' n₀ { p with ws := ws' } q ∧ Out n₀ p W w') ∧
      (∀ W1, Mem W1 n₀ { p with ws := ws' } q → Calls Tryd.prog 57 #[.pointer (some ⟨p.rb, 0, none⟩), .pointer (some ⟨o.rb, 0, none⟩)] W1 fun r w' => r = .returned (.bool t) ∧ (∃ rg rc, Mem w' n₀ { p with ws := ws', rg := rg, rc := rc, L := L' } q) ∧ Out n₀ p W1 w') := by
  have hch := join_chg joins_anot (L := p.L) hF.sz hO.sz hF.cl hO.cl hF.ag (fun k _ => rfl)
  refine ⟨_, _, _, fit_join joins_anot hF hO (fun k _ => rfl), (minus_two p.b p.g p.c p.f p.room p.ws o.b o.g o.c o.f o.room o.ws W hM.pb hF.sz hO.sz (hM.oth ho) n₀ hM.p0.1 _ hch).mono fun r w' ⟨he, hB, hb, hoff⟩ => ⟨he, hM.bits_op hB hoff, hb, fun B _ h1 _ _ => hoff B h1⟩, fun W1 hM1 => ?_⟩
  rcases ho with rfl | rfl
  · refine (refminus_other p.rb p.rg p.rc o.rb o.rg o.rc p.f o.f p.L o.L (hasB o.f o.room o.ws) W1 hM1.pr hF.rz hM1.qr hO.rz ⟨ref_b_g hM1.pr hM1.qr, hM1.rr.symm⟩ hM1.bb.symm (fun v => (fit_has hO v).symm) n₀ hM.p0.2.1).mono fun r w' ⟨he, hB, hb, hoff⟩ => ⟨he, ⟨p.rg, p.rc, hM1.ref_op hB (.inl rfl) hM1.n₀_le (fun B _ h1 _ => hoff B h1)⟩, hb, fun B _ _ h2 _ => hoff B h2⟩
  · have hid := joinL_self hF (fun a b => a && !b)
    rw [hid]
    refine (refminus_self o.rb o.rg o.rc o.f o.L W1 hM1.pr hF.rz n₀ hM.p0.2.2).mono fun r w' ⟨he, ⟨g', c', hg, hB⟩, hb, hoff⟩ => ⟨he, ⟨g', c', hM1.ref_op hB (.inr hg) hM1.n₀_le (fun B h0 _ h2 => hoff B h0 h2)⟩, hb, fun B h0 _ _ h3 => hoff B h0 h3⟩
theorem joinL_or {p o : PS} (hO : Fit o) : joinL (fun a b => a || b) p.f o.f o.room p.L o.ws = orL p.f p.L (bv o.f (lat o.L) o.L.length) := by
  rw [← agree_bvs hO.ag]
  refine lat_ext (by rw [joinL_len, orL_len]) (fun i hi => ?_)
  rw [joinL_len] at hi
  unfold joinL
  rw [opL_lat _ _ _ hi, orL_lat _ _ _ _ hi]
  congr 1
  have := mem_bvs hO.sz hO.cl (p.f + (i : Int))
  cases e : hasB o.f o.room o.ws (p.f + (i : Int))
  · rw [e] at this
    rw [decide_eq_false (fun h => by simpa using this.1 h)]
  · rw [decide_eq_true (this.2 e)]
theorem or_pair {W : World} {n₀ : Nat} {p q o : PS} (hM : Mem W n₀ p q) (hT : Tab W) (hF : Fit p) (hO : Fit o) (ho : o = q ∨ o = p) :
    ∃ (t : Bool) (e : Int) (ws' : List Nat) (L' : List Bool), Fit { p with ws := ws', L := L' } ∧
      (Calls Tryd.prog 34 #[.pointer (some ⟨p.b, 0, none⟩), .pointer (some ⟨o.b, 0, none⟩)] W fun r w' => r = .returned (.tuple #[.bool t, .int .i64 e]) ∧ Mem w' n₀ { p with ws := ws' } q ∧ Out n₀ p W w') ∧
      (∀ W1, Mem W1 n₀ { p with ws := ws' } q → Calls Tryd.prog 56 #[.pointer (some ⟨p.rb, 0, none⟩), .pointer (some ⟨o.rb, 0, none⟩)] W1 fun r w' => r = .returned (.tuple #[.bool t, .int .i64 e]) ∧ (∃ rg rc, Mem w' n₀ { p with ws := ws', rg := rg, rc := rc, L := L' } q) ∧ Out n₀ p W1 w') := by
  have hroom := hF.ag.1
  have hvs := agree_bvs (f := o.f) hO.ag
  by_cases hall : ∀ v ∈ bvs o.f o.room o.ws, fitB p.f p.room v = true
  · have hop : ∀ k : Int, p.room ≤ k → (false || bt o.ws (p.f + k - o.f)) = false := fun k hk => by
      cases e : bt o.ws (p.f + k - o.f)
      · rfl
      · have h1 := hall (p.f + k) ((mem_bvs hO.sz hO.cl _).2 (by rw [hasB_eq hO.cl]; exact e))
        unfold fitB at h1
        have := of_decide_eq_true h1
        omega
    have hch := join_chg joins_or (L := p.L) hF.sz hO.sz hF.cl hO.cl hF.ag hop
    refine ⟨_, 0, _, _, fit_join joins_or hF hO hop, (or_two p.b p.g p.c p.f p.room p.ws o.b o.g o.c o.f o.room o.ws W hM.pb hF.sz hO.sz hO.cl (hM.oth ho) hT hall n₀ hM.p0.1 _ hch).mono fun r w' ⟨he, hB, hb, hoff⟩ => ⟨he, hM.bits_op hB hoff, hb, fun B _ h1 _ _ => hoff B h1⟩, fun W1 hM1 => ?_⟩
    have hR : Ref W1 o.rb o.rg o.rc o.f o.L := by
      rcases ho with rfl | rfl
      · exact hM1.qr
      · exact hM1.pr
    rw [joinL_or hO]
    refine (refor_yes p.rb p.rg p.rc o.rb o.rg o.rc p.f o.f p.L o.L W1 hM1.pr hF.rz hR hO.rz (fun v hv => ?_) n₀ hM.p0.2.1).mono fun r w' ⟨he, hB, hb, hoff⟩ => ⟨he, ⟨p.rg, p.rc, hM1.ref_op hB (.inl rfl) hM1.n₀_le (fun B h0 h1 _ => hoff B h0 h1)⟩, hb, fun B h0 _ h2 _ => hoff B h0 h2⟩
    have h1 := hall v (by rw [hvs]; exact hv)
    unfold fitB at h1
    have := of_decide_eq_true h1
    omega
  · refine ⟨false, 20, p.ws, p.L, hF, (or_no p.b p.g p.c p.f p.room p.ws o.b o.g o.c o.f o.room o.ws W hM.pb hF.sz hO.sz hO.cl ((hM.oth ho).bits hM.pb) hT hall).mono fun r w' ⟨he, m, hw⟩ => ⟨he, by rw [hw]; exact hM.drawn m, by rw [hw]; exact out_drawn n₀ _ W m⟩, fun W1 hM1 => ?_⟩
    have hR : Ref W1 o.rb o.rg o.rc o.f o.L := by
      rcases ho with rfl | rfl
      · exact hM1.qr
      · exact hM1.pr
    refine (refor_no p.rb p.rg p.rc o.rb o.rg o.rc p.f o.f p.L o.L W1 hM1.pr hF.rz hR hO.rz (by rw [← hvs, ← hroom]; exact hall)).mono fun r w' ⟨he, hb⟩ => ⟨he, ⟨p.rg, p.rc, hM1.below hb⟩, hb.mono hM1.n₀_le, fun B h0 _ _ _ => hb.block B h0⟩

set_option maxHeartbeats 2000000 in
theorem join_any {W : World} {n₀ : Nat} {p q o : PS} (kind : Int) (hM : Mem W n₀ p q) (hT : Tab W) (hF : Fit p) (hO : Fit o) (ho : o = q ∨ o = p) :
    ∃ (ws' : List Nat) (L' : List Bool), Fit { p with ws := ws', L := L' } ∧
      (Calls Tryd.prog 20 #[.int .i64 kind, .pointer (some ⟨p.b, 0, none⟩), .pointer (some ⟨o.b, 0, none⟩), .pointer (some ⟨p.rb, 0, none⟩), .pointer (some ⟨o.rb, 0, none⟩)] W fun r w' => r = .returned (.bool true) ∧ (∃ rg rc, Mem w' n₀ { p with ws := ws', rg := rg, rc := rc, L := L' } q) ∧ Out n₀ p W w') := by
  by_cases hk0 : kind = 0
  · subst hk0
    obtain ⟨t, ws', L', hfit, k1, k2⟩ := and_pair hM hF hO ho
    refine ⟨ws', L', hfit, ?_⟩
    have K2 : Hid _ := k2
    clear hM hT hF hO ho hfit k2
    go_enter Tryd.func20, Tryd.ntmps20
    go_wp2_with fail
    refine k1.mono ?_
    rintro e w1 ⟨rfl, hm1, hb1⟩
    have k3 := K2.out w1 hm1
    clear k1
    go_wp2_with fail
    refine k3.mono ?_
    rintro e w2 ⟨rfl, hm2, hb2⟩
    have HM2 : Hid _ := hm2
    clear k3 hm2 hm1
    go_wp2
    go_ret
    exact ⟨rfl, HM2.out, hb1.trans hb2⟩
  · by_cases hk1 : kind = 1
    · subst hk1
      obtain ⟨t, e, ws', L', hfit, k1, k2⟩ := or_pair hM hT hF hO ho
      refine ⟨ws', L', hfit, ?_⟩
      have K2 : Hid _ := k2
      clear hM hT hF hO ho hfit k2
      go_enter Tryd.func20, Tryd.ntmps20
      go_wp2_with fail
      refine k1.mono ?_
      rintro e w1 ⟨rfl, hm1, hb1⟩
      have k3 := K2.out w1 hm1
      clear k1
      go_wp2_with fail
      refine k3.mono ?_
      rintro e w2 ⟨rfl, hm2, hb2⟩
      have HM2 : Hid _ := hm2
      clear k3 hm2 hm1
      go_wp2
      go_ret
      exact ⟨rfl, HM2.out, hb1.trans hb2⟩
    · obtain ⟨t, ws', L', hfit, k1, k2⟩ := minus_pair hM hF hO ho
      refine ⟨ws', L', hfit, ?_⟩
      have K2 : Hid _ := k2
      have d0 : (kind == 0) = false := by simpa using hk0
      have d1 : (kind == 1) = false := by simpa using hk1
      clear hM hT hF hO ho hfit k2 hk0 hk1
      go_enter Tryd.func20, Tryd.ntmps20
      go_wp2_with fail
      refine k1.mono ?_
      rintro e w1 ⟨rfl, hm1, hb1⟩
      have k3 := K2.out w1 hm1
      clear k1
      go_wp2_with fail
      refine k3.mono ?_
      rintro e w2 ⟨rfl, hm2, hb2⟩
      have HM2 : Hid _ := hm2
      clear k3 hm2 hm1
      go_wp2
      go_ret
      exact ⟨rfl, HM2.out, hb1.trans hb2⟩
end Go.Proofs.YtgcgomofmicchaaDoor
