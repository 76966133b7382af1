/-
  What is proved here: the walk of StoreMeets.
-/
import Derived.Test.YtghnfnieppfhgaaGreatMsj
import Derived.Test.YtghnfnieppfhgaaGreatKu
import Derived.Test.YtghnfnieppfhgaaGreatNd
import Derived.Deep.CutRange
namespace Go.Proofs.YtghnfnieppfhgaaGreat
open Go.RowKit Go.Shelf
set_option linter.unusedVariables false
set_option linter.unusedSimpArgs false

theorem Ld.below {w w' : World} {s : Value} {l : List MD} (h : Ld w s l) (hb : Below w.heap.size w w') : Ld w' s l := by
  obtain ⟨a, c, e, h⟩ := h
  refine ⟨a, c, e, fun h0 => ?_⟩
  obtain ⟨b, off, cs, h1, h2, h3, h4⟩ := h h0
  exact ⟨b, off, cs, h1, Nat.lt_of_lt_of_le h2 hb.size, h3, fun i ci di q1 q2 => ⟨fun j u hu => (hb.cell (p := ⟨b, _, none⟩) h2).trans ((h4 i ci di q1 q2).1 j u hu), (h4 i ci di q1 q2).2.below hb⟩⟩
/-- New refuses in any world, or in none. -/
theorem new_3 {W : World} {s : Value} {l : List MD} (hl : Ld W s l) (hf : ∀ d ∈ l, Dm.FitsR d.r) :
    (∃ x : Int, x ≠ 0 ∧ ∀ w, Below W.heap.size W w → Calls Tryz.prog 8 #[s] w fun e w' => e = .returned (.tuple #[.pointer none, .int .i64 x]) ∧ Below W.heap.size W w') ∨ ((∀ d ∈ l, rightM d = true) ∧ l.length ≤ 1000) := by
  have go : ∀ {x : Int} {w : World}, Below W.heap.size W w → (Calls Tryz.prog 8 #[s] w fun e w' => e = .returned (.tuple #[.pointer none, .int .i64 x]) ∧ Below w.heap.size w w') → Calls Tryz.prog 8 #[s] w fun e w' => e = .returned (.tuple #[.pointer none, .int .i64 x]) ∧ Below W.heap.size W w' := fun hb k => k.mono fun e w' ⟨q1, q2⟩ => ⟨q1, hb.trans (q2.mono hb.size)⟩
  by_cases hb : 1000 < l.length
  · exact .inl ⟨4, by decide, fun w hw => go hw (new_big (hl.below hw) hb)⟩
  · by_cases hr : ∀ d ∈ l, rightM d = true
    · exact .inr ⟨hr, by omega⟩
    · refine .inl ⟨20, by decide, fun w hw => go hw (@new_no noG w s l (hl.below hw) (fun b q => (q : False).elim) (by omega) hf ?_)⟩
      exact Classical.byContradiction fun hc => hr fun d hd => by
        cases q : rightM d
        · exact absurd ⟨d, hd, q⟩ hc
        · rfl
theorem tri_mk {W w1 w2 w3 : World} {s t u : Nat} {S T U : StM} {sl tl ul : Sl} (b1 : Below W.heap.size W w1) (h1 : Sid w1 s S sl (fun _ => False)) (l1 : ∀ b, OX s sl b → W.heap.size ≤ b) (b2 : Below w1.heap.size w1 w2) (h2 : Sid w2 t T tl (OX s sl)) (l2 : ∀ b, OX t tl b → w1.heap.size ≤ b)
    (b3 : Below w2.heap.size w2 w3) (h3 : Sid w3 u U ul (fun b => OX s sl b ∨ OX t tl b)) (l3 : ∀ b, OX u ul b → w2.heap.size ≤ b) : Tri W w3 s t u S T U sl tl ul := by
  have s1 := b1.size
  have s2 := b2.size
  have s3 := b3.size
  have x1 := h1.ox_lt
  have x2 := h2.ox_lt
  have x3 := h3.ox_lt
  have b13 : Below w1.heap.size w1 w3 := b2.trans (b3.mono s2)
  refine ⟨h1.frame (X := fun _ => False) (Kept.of_below b13) (fun _ q => q.elim) (fun b q => .inr ?_) (fun b q => ?_), h2.frame (X := fun _ => False) (Kept.of_below b3) (fun _ q => q.elim) (fun b q => ?_) (fun b q => ?_), h3, l1, (fun b q => Nat.le_trans s1 (l2 b q)), (fun b q => Nat.le_trans s1 (Nat.le_trans s2 (l3 b q))), b1.trans (b13.mono s1)⟩
  · rcases q with q | q
    · exact l2 b q
    · exact Nat.le_trans s2 (l3 b q)
  · rcases q with q | q
    · exact Nat.lt_of_lt_of_le (x2 b q) s3
    · exact x3 b q
  · rcases q with q | q
    · exact .inr (l3 b q)
    · exact .inl q
  · rcases q with q | q
    · exact x3 b q
    · exact Nat.lt_of_lt_of_le (x1 b q) (Nat.le_trans s2 s3)
theorem rb_both (a b : MD) : rbM a b = bothA a b := by
  unfold rbM bothA
  rw [St.both_same]
  rfl
theorem self_le {d : MD} (hd : rightM d = true) : (bothA d d).r.length ≤ d.r.length := by
  cases hs : d.set
  · have nd := num_of hs hd
    have e : bothA d d = bothW d d := by unfold bothA; rw [if_neg (by rw [hs]; decide)]
    have hb : Dm.bothR d.r d.r = d.r := both_num nd.1 hs (LeA.refl d)
    rw [e]
    show (Dm.bothR d.r d.r).length ≤ _
    rw [hb]
    exact Nat.le_refl _
  · have e : bothA d d = ofSD (St.bothD (sdM d) (sdM d)) := by unfold bothA; rw [if_pos hs]
    rw [e]
    exact Nat.zero_le _
theorem Sid.failed {W : World} {p : Nat} {st : StM} {sl : Sl} {Y : Nat → Prop} (h : Sid W p st sl Y) : Calls Tryz.prog 16 #[ptr p] W fun e w' => e = .returned (.bool (decide (0 < st.e))) ∧ w' = W := @failed_any (gh Y W) W p st sl h
theorem Sid.all {W : World} {p : Nat} {st : StM} {sl : Sl} {Y : Nat → Prop} (h : Sid W p st sl Y) (hO : Ok st) : Calls Tryz.prog 15 #[ptr p] W fun e w' => ∃ (o : Option Addr) (i j : Nat), e = .returned (.slice o i j) ∧ Ds w' (.slice o i j) st.D ∧ Below W.heap.size W w' :=
  (@all_x (gh Y W) W p st sl h hO.sz hO.held).mono fun e w' ⟨v, vs, q1, q2, q3⟩ => by
    obtain ⟨xa, xc, rfl, _, _⟩ := q2.r.shape
    exact ⟨_, _, _, q1, q2.ds, q3⟩
theorem both_fits {a b : MD} (ha : rightM a = true) : Dm.FitsR (bothA a b).r := (right_held (both_tt ha).r).f

set_option maxRecDepth 100000 in
set_option maxHeartbeats 16000000 in
theorem meets_walk {W : World} {p1 : Option Addr} {n k1 : Nat} {v : Int} {ca cb : List Value} {l : List MD} {a d : MD} (hl : Ds W (.slice p1 n k1) l) (hf : ∀ d ∈ l, Dm.FitsR d.r) (ha : Dc (fun _ => False) W ca a) (hfa : Dm.FitsR a.r) (hb : Dc (fun _ => False) W cb d) (hfb : Dm.FitsR d.r) :
    Calls Tryz.prog 5 #[.slice p1 n k1, .int .i64 v, .agg ca.toArray, .agg cb.toArray] W fun e w' => e = .returned (.bool true) ∧ Below W.heap.size W w' := by
  have hnl : l.length = n := by obtain ⟨a, c, e, _⟩ := hl; injection e with _ e2 _; exact e2.symm
  have HKW : Hid (∀ w, Below W.heap.size W w → Calls Tryz.prog 10 #[] w fun e w' => e = .returned (.bool true) ∧ Below W.heap.size W w') := fun w hb => (known_true w).mono fun e w' ⟨he, hb'⟩ => ⟨he, hb.trans (hb'.mono hb.size)⟩
  have HNL : Hid (l.length = n) := hnl
  have HDA : Hid (Dc (fun _ => False) W ca a) := ha
  have HDB : Hid (Dc (fun _ => False) W cb d) := hb
  obtain ⟨b, ra, n0, rc, a1, n1, c1, a2, n2, c2, x, y, rfl, HE, _, _, _⟩ := ha.look
  obtain ⟨b', ra', n0', rc', a1', n1', c1', a2', n2', c2', x', y', rfl, HE', _, _, _⟩ := hb.look

  obtain ⟨g1, hg1⟩ : ∃ q, W.heap.size = q := ⟨_, rfl⟩
  obtain ⟨W1, hW1⟩ : ∃ q, W.alloc (Obj.cells #[.bool b, .slice ra n0 rc, .slice a1 n1 c1, .slice a2 n2 c2, .int .i64 x, .int .i64 y] 37) = q := ⟨_, rfl⟩
  have hg2 : W1.heap.size = g1 + 1 := by rw [← hW1, ← hg1]; simp
  obtain ⟨W2, hW2⟩ : ∃ q, W1.alloc (Obj.cells #[.bool b', .slice ra' n0' rc', .slice a1' n1' c1', .slice a2' n2' c2', .int .i64 x', .int .i64 y'] 37) = q := ⟨_, rfl⟩
  have hb1 : Below W.heap.size W W1 := by rw [← hW1]; exact (Below.refl _ W).alloc (Nat.le_refl _) _
  have hb12 : Below W1.heap.size W1 W2 := by rw [← hW2]; exact (Below.refl _ W1).alloc (Nat.le_refl _) _
  have HB2 : Hid (Below W.heap.size W W2) := hb1.trans (hb12.mono hb1.size)
  have HX1 : Hid (Bx W2 g1 #[.bool b, .slice ra n0 rc, .slice a1 n1 c1, .slice a2 n2 c2, .int .i64 x, .int .i64 y] 37) := (show Bx W1 g1 #[.bool b, .slice ra n0 rc, .slice a1 n1 c1, .slice a2 n2 c2, .int .i64 x, .int .i64 y] 37 by rw [← hW1]; exact Bx.new' hg1 _ _).below hb12
  have HX2 : Hid (Bx W2 (g1 + 1) #[.bool b', .slice ra' n0' rc', .slice a1' n1' c1', .slice a2' n2' c2', .int .i64 x', .int .i64 y'] 37) := by rw [← hW2]; exact Bx.new' hg2 _ _
  have HW1 : Hid _ := hW1
  have HW2 : Hid _ := hW2
  have HG1 : Hid _ := hg1
  have HKN : Hid (∀ w, Below W2.heap.size W2 w → Calls Tryz.prog 10 #[] w fun e w' => e = .returned (.bool true) ∧ Below W.heap.size W w') := fun w hb => HKW.out w (HB2.out.trans (hb.mono HB2.out.size))
  have HDA2 := hid (HDA.out.below HB2.out)
  have HDB2 := hid (HDB.out.below HB2.out)
  have HLD : Hid (Ld W2 (.slice p1 n k1) l) := (ld_of hl).below HB2.out
  have HDS : Hid (Ds W2 (.slice p1 n k1) l) := hl.below HB2.out
  have HFL : Hid (∀ d ∈ l, Dm.FitsR d.r) := hf
  have HFA : Hid (Dm.FitsR a.r) := hfa
  have HFB : Hid (Dm.FitsR d.r) := hfb
  have hnew := new_3 HLD.out hf
  clear hW1 hW2 hg1 hg2 hb1 hb12 hl hf ha hb hfa hfb hnl HDA HDB HKW
  rcases hnew with ⟨x0, hx0, kn⟩ | ⟨hr, hl1⟩
  · have hx0' : (x0 != 0) = true := by simpa using hx0
    have HK : Hid _ := kn
    clear kn hx0
    go_enter Tryz.func5, Tryz.ntmps5
    go_wp2_with fail
    (try rw [HW1.out]); (try rw [HW2.out])
    refine (HK.out _ (Below.refl _ _)).mono ?_
    rintro e w1 ⟨rfl, hb1⟩
    have HB3 : Hid (Below W2.heap.size W2 w1) := hb1
    clear hb1
    go_wp2_with fail
    refine (HK.out _ HB3.out).mono ?_
    rintro e w2 ⟨rfl, hb2⟩
    have HB4 : Hid (Below W2.heap.size W2 w2) := hb2
    clear hb2
    go_wp2_with fail
    refine (HK.out _ HB4.out).mono ?_
    rintro e w3 ⟨rfl, hb3⟩
    have HB5 : Hid (Below W2.heap.size W2 w3) := hb3
    clear hb3
    go_wp2_with fail
    refine (HKN.out _ HB5.out).mono ?_
    rintro e wz ⟨rfl, hbz⟩
    go_wp2
    go_ret
    exact ⟨rfl, hbz⟩
  · go_enter Tryz.func5, Tryz.ntmps5
    go_wp2_with fail
    (try rw [HW1.out]); (try rw [HW2.out])
    refine (new_s (fun _ => False) (fun _ q => q.elim) HLD.out hl1 HFL.out hr).mono ?_
    rintro e w1 ⟨s, sl, rfl, hs, hsl, hb1⟩
    have HS1 : Hid (Sid w1 s (newA l) sl (fun _ => False)) := hs
    have HL1 : Hid _ := hsl
    have HB3 : Hid (Below W2.heap.size W2 w1) := hb1
    clear hs hsl hb1
    go_wp2_with fail
    refine (new_s (OX s sl) HS1.out.ox_lt (HLD.out.below HB3.out) hl1 HFL.out hr).mono ?_
    rintro e w2 ⟨t, tl, rfl, ht, htl, hb2⟩
    have HT1 : Hid (Sid w2 t (newA l) tl (OX s sl)) := ht
    have HL2 : Hid _ := htl
    have HB12 : Hid _ := hb2
    have HB4 : Hid (Below W2.heap.size W2 w2) := HB3.out.trans (hb2.mono HB3.out.size)
    clear ht htl hb2
    go_wp2_with fail
    refine (new_s (fun b => OX s sl b ∨ OX t tl b) (fun b q => q.elim (fun q => Nat.lt_of_lt_of_le (HS1.out.ox_lt b q) HB12.out.size) (HT1.out.ox_lt b)) (HLD.out.below HB4.out) hl1 HFL.out hr).mono ?_
    rintro e w3 ⟨u, ul, rfl, hu, hul, hb3⟩
    have HTR : Hid (Tri W2 w3 s t u (newA l) (newA l) (newA l) sl tl ul) := tri_mk HB3.out HS1.out HL1.out HB12.out HT1.out HL2.out hb3 hu hul
    have HN0 : Hid (Ok (newA l)) := new_okk hl1 hr
    have HRR : Hid (∀ d ∈ l, rightM d = true) := hr
    clear hu hul hb3 hr hl1 HB3 HB4 HB12 HL2 HL1 HT1 HS1 HB2 HW1 HW2 HLD
    by_cases h60 : (60 : Int) < (n : Int)
    · go_wp2_with fail
      refine (HKN.out _ HTR.out.bel).mono ?_
      rintro e wz ⟨rfl, hbz⟩
      go_wp2
      go_ret
      exact ⟨rfl, hbz⟩
    · have KA : Hid (∀ w, Below W2.heap.size W2 w → Calls Tryz.prog 23 #[.agg #[.bool b, .slice ra n0 rc, .slice a1 n1 c1, .slice a2 n2 c2, .int .i64 x, .int .i64 y]] w fun e w' => e = .returned (.bool (rightM a)) ∧ Below w.heap.size w w') := fun w hb => rright_d (HDA2.out.below hb) HFA.out
      have KB : Hid (∀ w, Below W2.heap.size W2 w → Calls Tryz.prog 23 #[.agg #[.bool b', .slice ra' n0' rc', .slice a1' n1' c1', .slice a2' n2' c2', .int .i64 x', .int .i64 y']] w fun e w' => e = .returned (.bool (rightM d)) ∧ Below w.heap.size w w') := fun w hb => rright_d (HDB2.out.below hb) HFB.out
      have HLEN : Hid (rightM a = true → rightM d = true → (n0 : Int) ≤ 4096 ∧ (n0' : Int) ≤ 4096) := fun q1 q2 => by have r1 := (right_held q1).n; have r2 := (right_held q2).n; have e1 := HE.out.2.1; have e2 := HE'.out.2.1; omega
      go_upto_region 8 with (fail)
      (try rw [HG1.out])
      obtain ⟨okB, hok⟩ : ∃ q, (rightM a && rightM d && (b == b') && decide (n0 + n0' ≤ 1000)) = q := ⟨_, rfl⟩
      have HOK : Hid _ := hok
      clear hok
      go_cut [80] from 56 to 80 (fun c wc => c = .bool (!okB) ∧ Hid (Tri W2 wc s t u (newA l) (newA l) (newA l) sl tl ul))
      case first =>
        have hok := HOK.out
        obtain ⟨u0, u1, u2, u3, u4, u5⟩ := (HX1.out.below HTR.out.bel).six
        cases hra : rightM a
        · rw [hra] at hok
          simp only [Bool.false_and] at hok
          subst hok
          go_wp2_with fail
          refine (KA.out _ HTR.out.bel).mono ?_
          rintro e w4 ⟨rfl, hb4⟩
          rw [hra]
          have HT4 := hid (HTR.out.below hb4)
          clear hb4 u0 u1 u2 u3 u4 u5
          go_wp2
          go_meet
          case rel => exact ⟨rfl, HT4⟩
        · rw [hra] at hok
          go_wp2_with fail
          refine (KA.out _ HTR.out.bel).mono ?_
          rintro e w4 ⟨rfl, hb4⟩
          rw [hra]
          have HT4 := hid (HTR.out.below hb4)
          clear hb4 u0 u1 u2 u3 u4 u5
          obtain ⟨u0, u1, u2, u3, u4, u5⟩ := (HX2.out.below HT4.out.bel).six
          cases hrd : rightM d
          · rw [hrd] at hok
            simp only [Bool.true_and, Bool.false_and] at hok
            subst hok
            go_wp2_with fail
            refine (KB.out _ HT4.out.bel).mono ?_
            rintro e w5 ⟨rfl, hb5⟩
            rw [hrd]
            have HT5 := hid (HT4.out.below hb5)
            clear hb5 u0 u1 u2 u3 u4 u5
            go_wp2
            go_meet
            case rel => exact ⟨rfl, HT5⟩
          · rw [hrd] at hok
            go_wp2_with fail
            refine (KB.out _ HT4.out.bel).mono ?_
            rintro e w5 ⟨rfl, hb5⟩
            rw [hrd]
            have HT5 := hid (HT4.out.below hb5)
            clear hb5 u0 u1 u2 u3 u4 u5
            obtain ⟨u0, u1, u2, u3, u4, u5⟩ := (HX1.out.below HT5.out.bel).six
            obtain ⟨y0, y1, y2, y3, y4, y5⟩ := (HX2.out.below HT5.out.bel).six
            have hn0 : (n0 : Int) ≤ 4096 ∧ (n0' : Int) ≤ 4096 := HLEN.out hra hrd
            have hw0 : IntKind.i64.wrap ((n0 : Int) + n0') = (n0 : Int) + n0' := by rw [IntKind.wrap_i64]; omega
            simp only [Bool.true_and] at hok
            cases hbb : (b == b')
            · rw [hbb] at hok
              simp only [Bool.false_and] at hok
              subst hok
              have hbn : (b != b') = true := by simp [bne, hbb]
              go_wp2
              go_meet
              case rel => exact ⟨rfl, HT5⟩
            · rw [hbb] at hok
              simp only [Bool.true_and] at hok
              have hbn : (b != b') = false := by simp [bne, hbb]
              by_cases hs : n0 + n0' ≤ 1000
              · rw [decide_eq_true hs] at hok
                subst hok
                have hs' : ¬ (1000 : Int) < (n0 : Int) + n0' := by omega
                go_wp2
                go_meet
                case rel => exact ⟨by first | rfl | (rw [decide_eq_false (by omega)]; rfl), HT5⟩
              · rw [decide_eq_false hs] at hok
                subst hok
                have hs' : (1000 : Int) < (n0 : Int) + n0' := by omega
                go_wp2
                go_meet
                case rel => exact ⟨by first | rfl | (rw [decide_eq_true (by omega)]; rfl), HT5⟩
      case rest =>
        clear HTR KA KB
        obtain ⟨rfl, HTR⟩ := hcut
        cases okB
        · go_wp2_with fail
          refine (HKN.out _ HTR.out.bel).mono ?_
          rintro e wz ⟨rfl, hbz⟩
          go_wp2
          go_ret
          exact ⟨rfl, hbz⟩
        · have hok := HOK.out
          simp only [Bool.and_eq_true, decide_eq_true_eq, beq_iff_eq] at hok
          obtain ⟨⟨⟨hra, hrd⟩, hbb⟩, hsum⟩ := hok
          obtain ⟨big, hbig⟩ : ∃ q : Bool, (q = true ↔ ∃ (k : Nat) (o : MD), v = (k : Int) ∧ l[k]? = some o ∧ 1000 < o.r.length) := by classical exact ⟨decide _, decide_eq_true_iff⟩
          have HRA : Hid (rightM a = true) := hra
          have HRD : Hid (rightM d = true) := hrd
          have HSS : Hid (a.set = d.set) := by rw [Hid, HE.out.1, HE'.out.1]; exact hbb
          have HLL : Hid (a.r.length + d.r.length ≤ 1000) := by rw [Hid, HE.out.2.1, HE'.out.2.1]; exact hsum
          have HBIG : Hid _ := hbig
          clear hbig hra hrd hbb hsum HOK
          go_upto_region 10 with (fail)
          go_cut [98] from 82 to 98 (fun c wr => c = .bool big ∧ wc = wr)
          case first =>
            have hbig := HBIG.out
            by_cases hv0 : 0 ≤ v
            · by_cases hvn : v < (n : Int)
              · obtain ⟨k, rfl⟩ : ∃ k : Nat, v = (k : Int) := ⟨v.toNat, by omega⟩
                have hkn : k < n := by omega
                obtain ⟨o, ho⟩ : ∃ o, l[k]? = some o := ⟨_, List.getElem?_eq_getElem (by rw [HNL.out]; exact hkn)⟩
                obtain ⟨bb, off, rfl, hbl, e0, e1, e2, e3, e4, e5, hD, k0, k1', k2, k3, k4, k5⟩ : ∃ bb off, p1 = some ⟨bb, off, none⟩ ∧ bb < W2.heap.size ∧ ∃ e0 e1 e2 e3 e4 e5, Dc (fun _ => False) W2 [e0, e1, e2, e3, e4, e5] o ∧ W2.cell? ⟨bb, off + k * 6, none⟩ = some e0 ∧ W2.cell? ⟨bb, off + k * 6 + 1, none⟩ = some e1 ∧ W2.cell? ⟨bb, off + k * 6 + 2, none⟩ = some e2 ∧ W2.cell? ⟨bb, off + k * 6 + 3, none⟩ = some e3 ∧ W2.cell? ⟨bb, off + k * 6 + 4, none⟩ = some e4 ∧ W2.cell? ⟨bb, off + k * 6 + 5, none⟩ = some e5 := by
                  obtain ⟨a', c', e', hh⟩ := HDS.out
                  obtain ⟨b, off, q1, q2, q3⟩ := hh (by rw [HNL.out]; omega)
                  injection e' with e1 _ _
                  exact ⟨b, off, e1.trans q1, q2, q3 k o ho⟩
                obtain ⟨bo, ro, no, rco, ao1, no1, co1, ao2, no2, co2, xo, yo, eo, HEo, _, _, _⟩ := hD.look
                injection eo with eo0 eo
                injection eo with eo1 eo
                subst eo1
                have hc1 : wc.cell? ⟨bb, off + k * 6 + 1, none⟩ = some (.slice ro no rco) := (HTR.out.bel.cell (p := ⟨bb, off + k * 6 + 1, none⟩) hbl).trans k1'
                have hro : o.r.length = no := HEo.out.2.1
                have hno : (no : Int) ≤ 4096 := by rw [← hro]; have := (right_held (HRR.out o (List.mem_of_getElem? ho))).n; omega
                clear eo0 eo k0 k1' k2 k3 k4 k5 hD
                by_cases hbg : 1000 < no
                · have hbg' : (1000 : Int) < (no : Int) := by omega
                  have hbt : big = true := hbig.2 ⟨k, o, rfl, ho, by omega⟩
                  subst hbt
                  clear hbig
                  go_wp2
                  go_meet
                  case rel => exact ⟨rfl, rfl⟩
                · have hbg' : ¬ (1000 : Int) < (no : Int) := by omega
                  have hbt : big = false := Bool.eq_false_iff.2 fun q => by
                    obtain ⟨k', o', q1, q2, q3⟩ := hbig.1 q
                    obtain rfl : k = k' := by omega
                    rw [ho] at q2
                    injection q2 with q2
                    subst q2
                    omega
                  subst hbt
                  clear hbig
                  go_wp2
                  go_meet
                  case rel => exact ⟨rfl, rfl⟩
              · have hbt : big = false := Bool.eq_false_iff.2 fun q => by
                  obtain ⟨k', o', q1, q2, q3⟩ := hbig.1 q
                  have := (List.getElem?_eq_some_iff.1 q2).1
                  have := HNL.out
                  omega
                subst hbt
                clear hbig
                go_wp2
                go_meet
                case rel => exact ⟨rfl, rfl⟩
            · have hbt : big = false := Bool.eq_false_iff.2 fun q => by obtain ⟨k', o', q1, q2, q3⟩ := hbig.1 q; omega
              subst hbt
              clear hbig
              go_wp2
              go_meet
              case rel => exact ⟨rfl, rfl⟩
          case rest =>
            obtain ⟨rfl, rfl⟩ := hcut
            cases big
            rotate_left
            · go_wp2_with fail
              refine (HKN.out _ HTR.out.bel).mono ?_
              rintro e wz ⟨rfl, hbz⟩
              go_wp2
              go_ret
              exact ⟨rfl, hbz⟩
            · have HM := hid (meets_both HN0.out v HRA.out HRD.out HSS.out (fun k o q1 q2 => by
                have hb := HBIG.out
                have q3 : ∃ o0, l[k]? = some o0 ∧ bothA o0 o0 = o := by
                  have : (l.map fun d => bothA d d)[k]? = some o := q2
                  rw [List.getElem?_map] at this
                  cases h0 : l[k]? with
                  | none => rw [h0] at this; cases this
                  | some o0 => rw [h0] at this; injection this with this; exact ⟨o0, rfl, this⟩
                obtain ⟨o0, h0, rfl⟩ := q3
                exact Nat.le_trans (self_le (HRR.out o0 (List.mem_of_getElem? h0))) (Classical.byContradiction fun hc => absurd (hb.2 ⟨k, o0, q1, h0, by omega⟩) (by decide))) HLL.out)
              have HNO : Hid (Ok (newA l)) := HN0
              obtain ⟨S0, hS0⟩ : ∃ q, newA l = q := ⟨_, rfl⟩
              rw [hS0] at HM HNO HTR
              clear hS0 HN0 HBIG HLL
              have HOA : Hid (Ok (narM S0 v a)) := nar_ok HNO.out v a HRA.out
              have HOB : Hid (Ok (narM S0 v d)) := nar_ok HNO.out v d HRD.out
              have HO1 : Hid (Ok (narM (narM S0 v a) v d)) := nar_ok HOA.out v d HRD.out
              have HO2 : Hid (Ok (narM (narM S0 v d) v a)) := nar_ok HOB.out v a HRA.out
              have HO3 : Hid (Ok (narM S0 v (bothA a d))) := nar_ok HNO.out v _ (both_tt HRA.out).r
              obtain ⟨u0, u1, u2, u3, u4, u5⟩ := (HX1.out.below HTR.out.bel).six
              go_wp2_with fail
              refine (Tri.narrow HTR.out (HTR.out.dc HDA2.out) v HNO.out HFA.out).mono ?_
              rintro e w4 ⟨⟨r1, r2, rfl⟩, sl1, ht4⟩
              have HT4 : Hid _ := ht4
              clear HTR ht4 u0 u1 u2 u3 u4 u5
              obtain ⟨u0, u1, u2, u3, u4, u5⟩ := (HX2.out.below HT4.out.bel).six
              go_wp2_with fail
              refine (Tri.narrow HT4.out (HT4.out.dc HDB2.out) v HOA.out HFB.out).mono ?_
              rintro e w5 ⟨⟨r3, r4, rfl⟩, sl2, ht5⟩
              have HT5 := hid ht5.rot
              clear HT4 ht5 u0 u1 u2 u3 u4 u5
              obtain ⟨u0, u1, u2, u3, u4, u5⟩ := (HX2.out.below HT5.out.bel).six
              go_wp2_with fail
              refine (Tri.narrow HT5.out (HT5.out.dc HDB2.out) v HNO.out HFB.out).mono ?_
              rintro e w6 ⟨⟨r5, r6, rfl⟩, tl1, ht6⟩
              have HT6 : Hid _ := ht6
              clear HT5 ht6 u0 u1 u2 u3 u4 u5
              obtain ⟨u0, u1, u2, u3, u4, u5⟩ := (HX1.out.below HT6.out.bel).six
              go_wp2_with fail
              refine (Tri.narrow HT6.out (HT6.out.dc HDA2.out) v HOB.out HFA.out).mono ?_
              rintro e w7 ⟨⟨r7, r8, rfl⟩, tl2, ht7⟩
              have HT7 := hid ht7.rot
              clear HT6 ht7 u0 u1 u2 u3 u4 u5
              obtain ⟨u0, u1, u2, u3, u4, u5⟩ := (HX1.out.below HT7.out.bel).six
              obtain ⟨y0, y1, y2, y3, y4, y5⟩ := (HX2.out.below HT7.out.bel).six
              have kb := rbothr_d (HDA2.out.below HT7.out.bel) (HDB2.out.below HT7.out.bel)
              rw [rb_both] at kb
              go_wp2_with fail
              refine kb.mono ?_
              rintro e w8 ⟨q, rfl, hq, hb8⟩
              have HC8 : Hid (Dc (fun b => OX u ul b ∨ OX s sl2 b ∨ OX t tl2 b) w8 q (bothA a d)) := hq.dc _ (fun b hb => by rcases hb with hb | hb | hb; exact HT7.out.a.ox_lt b hb; exact HT7.out.b.ox_lt b hb; exact HT7.out.c.ox_lt b hb)
              have HT8 := hid (HT7.out.below hb8)
              clear HT7 hq hb8 kb u0 u1 u2 u3 u4 u5 y0 y1 y2 y3 y4 y5
              go_wp2_with fail
              refine (Tri.narrow HT8.out HC8.out v HNO.out (both_fits HRA.out)).mono ?_
              rintro e w9 ⟨⟨r9, r10, rfl⟩, ul1, ht9⟩
              have HT9 := hid ht9.rot
              clear HT8 HC8 ht9
              have fs := Sid.failed HT9.out.a
              have ft := Sid.failed HT9.out.b
              have fu := Sid.failed HT9.out.c
              obtain ⟨m1, m2, m3⟩ := HM.out
              by_cases hu : 0 < (narM S0 v (bothA a d)).e
              · rw [decide_eq_true (m1.2 hu)] at fs
                have KS := hid fs
                clear fs
                rw [decide_eq_true (m2.2 hu)] at ft
                have KT := hid ft
                clear ft
                rw [decide_eq_true hu] at fu
                have KU := hid fu
                clear fu
                clear m1 m2 m3 hu
                go_wp2_with fail
                refine KS.out.mono ?_
                rintro e wx ⟨rfl, rfl⟩
                go_wp2_with fail
                refine KS.out.mono ?_
                rintro e wx ⟨rfl, rfl⟩
                go_wp2_with fail
                refine KT.out.mono ?_
                rintro e wx ⟨rfl, rfl⟩
                go_wp2_with fail
                refine KU.out.mono ?_
                rintro e wx ⟨rfl, rfl⟩
                go_wp2_with fail
                refine (HKN.out _ HT9.out.bel).mono ?_
                rintro e wz ⟨rfl, hbz⟩
                go_wp2
                go_ret
                exact ⟨rfl, hbz⟩
              · obtain ⟨d1, d2⟩ := m3 (by have := HO3.out.e0; omega)
                rw [decide_eq_false (fun q => hu (m1.1 q))] at fs
                have KS := hid fs
                clear fs
                rw [decide_eq_false (fun q => hu (m2.1 q))] at ft
                have KT := hid ft
                clear ft
                rw [decide_eq_false hu] at fu
                have KU := hid fu
                clear fu
                have HD1 : Hid _ := d1
                have HD2 : Hid _ := d2
                have HSZ : Hid (∀ o ∈ (narM S0 v (bothA a d)).D, SzD o) := fun o ho => tt_szd (HO3.out.tt o ho)
                have HLN : Hid ((narM S0 v (bothA a d)).D.length ≤ 9223372036854775806) := by rw [Hid]; have := HO3.out.sz.1; omega
                clear m1 m2 m3 hu d1 d2
                go_wp2_with fail
                refine KS.out.mono ?_
                rintro e wx ⟨rfl, rfl⟩
                go_wp2_with fail
                refine KT.out.mono ?_
                rintro e wx ⟨rfl, rfl⟩
                go_wp2_with fail
                refine KU.out.mono ?_
                rintro e wx ⟨rfl, rfl⟩
                clear KS KT KU
                have ka := Sid.all HT9.out.a HO1.out
                rw [HD1.out] at ka
                go_wp2_with fail
                refine ka.mono ?_
                clear ka
                rintro e v1 ⟨o1, i1, j1, rfl, hds1, hb1⟩
                have HT10 := hid (HT9.out.below hb1)
                have HL1 : Hid (Ds v1 (.slice o1 i1 j1) (narM S0 v (bothA a d)).D) := hds1
                clear hds1 hb1
                have ka := Sid.all HT10.out.b HO2.out
                rw [HD2.out] at ka
                go_wp2_with fail
                refine ka.mono ?_
                clear ka
                rintro e v2 ⟨o2, i2, j2, rfl, hds2, hb2⟩
                have HT11 := hid (HT10.out.below hb2)
                have ks := same_doms (HL1.out.below hb2) hds2 HSZ.out HLN.out
                clear hds2 hb2
                go_wp2_with fail
                refine ks.mono ?_
                clear ks
                rintro e v3 ⟨rfl, hb3⟩
                have HT12 := hid (HT11.out.below hb3)
                clear hb3
                have ka := Sid.all HT12.out.a HO1.out
                rw [HD1.out] at ka
                go_wp2_with fail
                refine ka.mono ?_
                clear ka
                rintro e v4 ⟨o4, i4, j4, rfl, hds4, hb4⟩
                have HT13 := hid (HT12.out.below hb4)
                have HL4 : Hid (Ds v4 (.slice o4 i4 j4) (narM S0 v (bothA a d)).D) := hds4
                clear hds4 hb4
                have ka := Sid.all HT13.out.c HO3.out
                go_wp2_with fail
                refine ka.mono ?_
                clear ka
                rintro e v5 ⟨o5, i5, j5, rfl, hds5, hb5⟩
                have HT14 := hid (HT13.out.below hb5)
                have ks := same_doms (HL4.out.below hb5) hds5 HSZ.out HLN.out
                clear hds5 hb5
                go_wp2_with fail
                refine ks.mono ?_
                clear ks
                rintro e v6 ⟨rfl, hb6⟩
                have HT15 := hid (HT14.out.below hb6)
                clear hb6
                go_wp2_with fail
                refine (HKN.out _ HT15.out.bel).mono ?_
                rintro e wz ⟨rfl, hbz⟩
                go_wp2
                go_ret
                exact ⟨rfl, hbz⟩
end Go.Proofs.YtghnfnieppfhgaaGreat
