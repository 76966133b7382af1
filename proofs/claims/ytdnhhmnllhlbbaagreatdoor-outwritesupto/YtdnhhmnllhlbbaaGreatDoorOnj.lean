/-
  What is proved here: Values as text: texts of package out.
  What is proved here: Numbers by strconv.Itoa; last lines; what stands round an output's values.
-/
import Derived.Test.YtdnhhmnllhlbbaaGreatDoorOm
import Derived.Test.YtdnhhmnllhlbbaaGreatDoorOh
namespace Go.Proofs.YtdnhhmnllhlbbaaGreatDoor
open Go.RowKit Go.Shelf
set_option linter.unusedVariables false
set_option linter.unusedSimpArgs false

/-- A value of a kind as text. -/
def valT (k : Int) (v : Vl) : List UInt8 := if k = 1 then truT v.n else if k = 2 then Lib.itoa v.n else setT v.s
theorem setOk_facts {l : List Int} (h : setOk l = true) : l.length ≤ 64 ∧ ∀ x ∈ l, -1000000 ≤ x ∧ x ≤ 1000000 := by
  unfold setOk at h
  rw [Bool.and_eq_true, List.all_eq_true] at h
  refine ⟨by simpa using h.2, fun x hx => ?_⟩
  obtain ⟨i, hi, e⟩ := List.getElem_of_mem hx
  have h1 := h.1 i (List.mem_range.2 hi)
  unfold badAt at h1
  rw [List.getElem?_eq_getElem hi, e] at h1
  simp [bndB] at h1
  omega
theorem setT_len {l : List Int} (h : setOk l = true) : 0 < (setT l).length ∧ (setT l).length ≤ 1500 := by
  obtain ⟨h1, h2⟩ := setOk_facts h
  have hi : ∀ i, (Lib.itoa (l.getD i 0)).length ≤ 21 := fun i => by
    have : -1000000 ≤ l.getD i 0 ∧ l.getD i 0 ≤ 1000000 := by
      rw [List.getD_eq_getElem?_getD]
      cases e : l[i]? with
      | none => simp
      | some x => exact h2 x (List.mem_of_getElem? e)
    exact Lib.itoa_length_le _ (by omega) (by omega)
  unfold setT
  split
  · have a := hi 0
    have b := hi (l.length - 1)
    have c := itoa_pos (l.getD 0 0)
    unfold spanT
    simp only [List.length_append, List.length_cons, List.length_nil]
    omega
  · have := sepT_len [44] 22 (l.map Lib.itoa) (fun p hp => by
      obtain ⟨y, hy, rfl⟩ := List.mem_map.1 hp
      have b := h2 y hy
      have := Lib.itoa_length_le y (by omega) (by omega)
      simp only [List.length_cons, List.length_nil]; omega)
    rw [List.length_map] at this
    simp only [List.length_append, List.length_cons, List.length_nil]
    omega
/-- What a value of a kind is. -/
theorem isVal_facts {s : Bool} {n : Int} {l : List Int} {k : Int} (h : isVal s n l k = true) :
    (k = 1 ∧ 0 ≤ n ∧ n ≤ 1) ∨ (k = 2 ∧ -1000000 ≤ n ∧ n ≤ 1000000) ∨ (k = 3 ∧ setOk l = true) := by
  unfold isVal isNum at h
  split at h
  · rename_i e
    simp at h
    exact .inl ⟨e, by omega, by omega⟩
  · split at h
    · rename_i e
      simp at h
      exact .inr (.inl ⟨e, by omega, by omega⟩)
    · split at h
      · rename_i e
        simp at h
        exact .inr (.inr ⟨e, h.2.2⟩)
      · cases h
theorem valT_len {v : Vl} {k : Int} (h : isVal v.set v.n v.s k = true) : 0 < (valT k v).length ∧ (valT k v).length ≤ 1500 := by
  rcases isVal_facts h with ⟨rfl, h1, h2⟩ | ⟨rfl, h1, h2⟩ | ⟨rfl, h1⟩
  · show 0 < (truT v.n).length ∧ (truT v.n).length ≤ 1500
    unfold truT; split <;> simp
  · show 0 < (Lib.itoa v.n).length ∧ (Lib.itoa v.n).length ≤ 1500
    exact ⟨itoa_pos _, Nat.le_trans (Lib.itoa_length_le _ (by omega) (by omega)) (by decide)⟩
  · exact setT_len h1
/-- Values of a kind as text. -/
def valsT (k : Int) (l : List Vl) : List UInt8 := sepT [44, 32] (l.map (valT k))

theorem Tryz.conv_nil (w : World) : (convert 60 9 (.slice none 0 0)).run Tryz.prog w = .ok (.string (bs [])) w := run_convert_bytes_nil (P := Tryz.prog) w 60 5 Tryz.underlying60 Tryz.underlying5 0 0 9 Tryz.underlying9

set_option maxRecDepth 100000 in
set_option maxHeartbeats 4000000 in
theorem texts26 {X : Nat → Prop} {W : World} {s : Value} {l : List Vl} {kind : Int} (h : SvX X W s l) (hl : l.length ≤ 2000000) (hv : ∀ v ∈ l, isVal v.set v.n v.s kind = true) (hT : Tens W) :
    Calls Tryz.prog 26 #[.int .i64 kind, s] W fun e w' => e = .returned (.string (bs (valsT kind l))) ∧ Below W.heap.size W w' := by
  obtain ⟨a, c, rfl, h'⟩ := h
  have HS : Hid (0 < l.length → ∃ b off, a = some ⟨b, off, none⟩ ∧ b < W.heap.size ∧ ¬ X b ∧ ∀ i v, l[i]? = some v → ∃ sv, Nm X W sv v.s ∧ W.cell? ⟨b, off + i * 3, none⟩ = some (.bool v.set) ∧ W.cell? ⟨b, off + i * 3 + 1, none⟩ = some (.int .i64 v.n) ∧ W.cell? ⟨b, off + i * 3 + 2, none⟩ = some sv) := h'
  have HT : Hid (Tens W) := hT
  have HV : Hid (∀ v ∈ l, isVal v.set v.n v.s kind = true) := hv
  clear h' hT hv
  obtain ⟨n, hn⟩ : ∃ n, l.length = n := ⟨_, rfl⟩
  have HN : Hid (l.length = n) := hn
  rw [hn] at hl HS ⊢
  clear hn
  go_enter Tryz.func26, Tryz.ntmps26
  go_wp2
  go_loopw [5, 10] (fun o i wr => ∃ (k : Nat), k ≤ n ∧ i = .int .i64 (k : Int) ∧ Hid (By wr W.heap.size o (sepT [44, 32] ((l.take k).map (valT kind)))) ∧ Hid (Below W.heap.size W wr) ∧ Hid (k = 0 → o = .slice none 0 0)) (fun _ i _ => n - (intOf i).toNat)
  case atStart => exact ⟨0, Nat.zero_le _, rfl, .inl (World.ownsRow_nil _ _ _ _), Below.refl _ _, fun _ => rfl⟩
  case round =>
    obtain ⟨k, hk, rfl, HY, HB, HK0⟩ := hrel
    by_cases hlt : k < n
    · clear HK0
      have hlt' : (k : Int) < (n : Int) := by omega
      obtain ⟨v, hx⟩ : ∃ v, l[k]? = some v := ⟨_, List.getElem?_eq_getElem (by rw [HN.out]; exact hlt)⟩
      obtain ⟨b, off, rfl, hb, _, hcl⟩ := HS.out (by omega)
      obtain ⟨sv, hsv, c0, c1, c2⟩ := hcl k v hx
      obtain ⟨sa, sc, rfl, _⟩ := id hsv
      have y0 := (HB.out.cell (p := ⟨b, off + k * 3, none⟩) hb).trans c0
      have y1 := (HB.out.cell (p := ⟨b, off + k * 3 + 1, none⟩) hb).trans c1
      have y2 := (HB.out.cell (p := ⟨b, off + k * 3 + 2, none⟩) hb).trans c2
      have HSV : Hid (Si 0 W (.slice sa v.s.length sc) v.s) := nm_si hsv
      have HVK : Hid (isVal v.set v.n v.s kind = true) := HV.out v (List.mem_of_getElem? hx)
      have lv := valT_len HVK.out
      have hD9 : (sepT [44, 32] ((l.take k).map (valT kind))).length ≤ 3004000000 := by
        refine Nat.le_trans (sepT_len [44, 32] 1502 _ fun p hp => ?_) ?_
        · obtain ⟨y, hy, rfl⟩ := List.mem_map.1 hp
          have := valT_len (HV.out y (List.mem_of_mem_take hy))
          simp only [List.length_cons, List.length_nil]; omega
        · rw [List.length_map, List.length_take]; omega
      have HTK : Hid (sepT [44, 32] ((l.take (k + 1)).map (valT kind)) = sepT [44, 32] ((l.take k).map (valT kind)) ++ (if k = 0 then [] else [44, 32]) ++ valT kind v) := by
        have hln : ((l.take k).map (valT kind)).length = k := by rw [List.length_map, List.length_take]; have := HN.out; omega
        unfold Hid
        rw [List.take_add_one, hx, Option.toList_some, List.map_append, List.map_singleton, sepT_snoc, hln]
      obtain ⟨D, hD⟩ : ∃ D, sepT [44, 32] ((l.take k).map (valT kind)) = D := ⟨_, rfl⟩
      rw [hD] at HY HTK hD9
      have hwk : IntKind.i64.wrap ((k : Int) + 1) = (k : Int) + 1 := by rw [IntKind.wrap_i64]; omega
      obtain ⟨m, hm⟩ : ∃ m, v.s.length = m := ⟨_, rfl⟩
      obtain ⟨vb, hvb⟩ : ∃ q, v.set = q := ⟨_, rfl⟩
      obtain ⟨vn, hvn⟩ : ∃ q, v.n = q := ⟨_, rfl⟩
      rw [hvb] at y0 HVK
      rw [hvn] at y1 HVK
      rw [hm] at y2 HSV
      have HVB : Hid (v.n = vn ∧ v.s.length = m) := ⟨hvn, hm⟩
      clear hD hcl hx hb hsv c0 c1 c2 hm hvb hvn
      go_upto_region 5 with (fail)
      obtain ⟨xb, hxb⟩ : ∃ q, wr.heap.size = q := ⟨_, rfl⟩
      obtain ⟨w1, hw1⟩ : ∃ q, wr.alloc (Obj.cells #[.bool vb, .int .i64 vn, .slice sa m sc] 36) = q := ⟨_, rfl⟩
      have HX1 : Hid (Blk w1 xb #[.bool vb, .int .i64 vn, .slice sa m sc] 36) := by rw [← hw1, ← hxb]; exact Blk.new _ _ _
      have hb1 : Below wr.heap.size wr w1 := by rw [← hw1]; exact (Below.refl _ _).alloc (Nat.le_refl _) _
      have HB1 : Hid (Below W.heap.size W w1) := HB.out.trans (hb1.mono HB.out.size)
      have HY1 : Hid _ := HY.out.below hb1
      rw [hw1, hxb]
      clear hw1 hxb hb1 HY HB y0 y1 y2
      by_cases hk0 : ¬ 0 < k
      focus
        obtain ⟨E, hE⟩ : ∃ E, D = E := ⟨_, rfl⟩
        have HNEW : Hid (sepT [44, 32] ((l.take (k + 1)).map (valT kind)) = E ++ valT kind v) := by rw [← hE]; unfold Hid; rw [HTK.out, if_pos (by omega), List.append_nil]
        have hEl : E.length ≤ 3004000002 := by rw [← hE]; omega
        have HB3 := HB1
        have HY3 := HY1
        have HX3 := HX1
        rw [hE] at HY3
        clear HY1 HB1 HX1 HTK hD9
        go_upto_region 8 with (fail)
        clear hE hk0
      rotate_left 1
      focus
        have hd0 : 0 < k := by omega
        obtain ⟨E, hE⟩ : ∃ E, D ++ [44, 32] = E := ⟨_, rfl⟩
        have HNEW : Hid (sepT [44, 32] ((l.take (k + 1)).map (valT kind)) = E ++ valT kind v) := by rw [← hE]; unfold Hid; rw [HTK.out, if_neg (by omega)]
        have hEl : E.length ≤ 3004000002 := by rw [← hE, List.length_append]; simp only [List.length_cons, List.length_nil]; omega
        clear hk0
        go_wp2_with (at_builtin; refine wpList_app_by rfl (.tmp 17) (.const (.string ⟨#[44, 32]⟩)) rfl W.heap.size _ D [44, 32] rfl HY1.out rfl (by simp only [List.length_cons, List.length_nil]; omega) HB1.out.size ?_; intro v3 w3 hown3 hb3 hf3; refine Hid.out ?_)
        refine (show Hid _ from ?_)
        unfold Hid
        have HX3 : Hid (Blk w3 xb #[.bool vb, .int .i64 vn, .slice sa m sc] 36) := hf3.blk HX1.out (by decide) (by decide)
        have HB3 : Hid (Below W.heap.size W w3) := HB1.out.trans hb3
        have HY3 : Hid (By w3 W.heap.size v3 E) := by rw [← hE]; exact hown3
        clear hown3 hb3 hf3 HB1 HY1 HX1 hE hd0 HTK hD9
        go_upto_region 8 with (fail)
      all_goals
        have HLE : Hid (E.length + (valT kind v).length ≤ 100000000000000) := by unfold Hid; omega
        have HLV : Hid (0 < (valT kind v).length ∧ (valT kind v).length ≤ 1500) := lv
        clear lv hEl
        have x0 := HX3.out.cell 0
        have x1 := HX3.out.cell 1
        have x2 := HX3.out.cell 2
        have hfk := isVal_facts HVK.out
        obtain ⟨T, hTv⟩ : ∃ T, valT kind v = T := ⟨_, rfl⟩
        have HTV : Hid (valT kind v = T) := hTv
        rw [hTv] at HNEW HLE HLV
        clear hTv
        rcases hfk with ⟨rfl, q0, q1⟩ | ⟨rfl, q0, q1⟩ | ⟨rfl, q1⟩
        · have HT9 : Hid (T = truT vn) := by rw [← HVB.out.1, ← HTV.out]; rfl
          rw [HT9.out] at HNEW HLE HLV
          go_wp2_with fail
          refine ((show Calls Tryz.prog 51 #[.agg #[.int .i64 1, .int .i64 vn, .int .i64 0, .string ⟨#[]⟩, .slice none 0 0]] _ _ from pexpr51 (exs_1 vn) (HT.out.self HB3.out))).mono ?_
          rintro e w4 ⟨rfl, hb4⟩
          have HB4 : Hid (Below W.heap.size W w4) := HB3.out.trans (hb4.mono HB3.out.size)
          have HY4 : Hid _ := By.below HY3.out hb4
          clear hb4 HB3 HY3
          go_wp2_with (at_builtin; refine wpList_app_by rfl (.tmp 22) (.tmp 26) rfl W.heap.size _ E _ rfl HY4.out rfl HLE.out HB4.out.size ?_; intro v5 w5 hown5 hb5 _; refine Hid.out ?_)
          refine (show Hid _ from ?_)
          unfold Hid
          have HB5 : Hid (Below W.heap.size W w5) := HB4.out.trans hb5
          have HY5 : Hid (By w5 W.heap.size v5 _) := hown5
          clear hown5 hb5 HB4 HY4
          go_wp2
          go_roundw
          case rel => exact ⟨k + 1, by omega, by go_num, by unfold Hid; rw [HNEW.out]; exact HY5.out, HB5, fun e => by omega⟩
          case measure => simp [intOf]; omega
        · have HT9 : Hid (T = Lib.itoa vn) := by rw [← HVB.out.1, ← HTV.out]; rfl
          rw [HT9.out] at HNEW HLE HLV
          go_wp2_with fail
          refine (digits52 vn (by omega) (by omega) _ (HT.out.self HB3.out)).mono ?_
          rintro e w4 ⟨rfl, hb4⟩
          have HB4 : Hid (Below W.heap.size W w4) := HB3.out.trans (hb4.mono HB3.out.size)
          have HY4 : Hid _ := By.below HY3.out hb4
          clear hb4 HB3 HY3
          go_wp2_with (at_builtin; refine wpList_app_by rfl (.tmp 30) (.tmp 33) rfl W.heap.size _ E _ rfl HY4.out rfl HLE.out HB4.out.size ?_; intro v5 w5 hown5 hb5 _; refine Hid.out ?_)
          refine (show Hid _ from ?_)
          unfold Hid
          have HB5 : Hid (Below W.heap.size W w5) := HB4.out.trans hb5
          have HY5 : Hid (By w5 W.heap.size v5 _) := hown5
          clear hown5 hb5 HB4 HY4
          go_wp2
          go_roundw
          case rel => exact ⟨k + 1, by omega, by go_num, by unfold Hid; rw [HNEW.out]; exact HY5.out, HB5, fun e => by omega⟩
          case measure => simp [intOf]; omega
        · have HT9 : Hid (T = setT v.s) := by rw [← HTV.out]; rfl
          have HSO : Hid (v.s.length ≤ 64 ∧ ∀ x ∈ v.s, -1000000 ≤ x ∧ x ≤ 1000000) := setOk_facts q1
          rw [HT9.out] at HNEW HLE HLV
          rw [← HVB.out.2] at HSV x2
          go_wp2_with fail
          refine (set53 (HSV.out.below HB3.out) (Nat.le_trans HSO.out.1 (by decide)) (fun x hx => by have := HSO.out.2 x hx; omega) (HT.out.self HB3.out)).mono ?_
          rintro e w4 ⟨rfl, hb4⟩
          have HB4 : Hid (Below W.heap.size W w4) := HB3.out.trans (hb4.mono HB3.out.size)
          have HY4 : Hid _ := By.below HY3.out hb4
          clear hb4 HB3 HY3
          go_wp2_with (at_builtin; refine wpList_app_by rfl (.tmp 37) (.tmp 40) rfl W.heap.size _ E _ rfl HY4.out rfl HLE.out HB4.out.size ?_; intro v5 w5 hown5 hb5 _; refine Hid.out ?_)
          refine (show Hid _ from ?_)
          unfold Hid
          have HB5 : Hid (Below W.heap.size W w5) := HB4.out.trans hb5
          have HY5 : Hid (By w5 W.heap.size v5 _) := hown5
          clear hown5 hb5 HB4 HY4
          go_wp2
          go_roundw
          case rel => exact ⟨k + 1, by omega, by go_num, by unfold Hid; rw [HNEW.out]; exact HY5.out, HB5, fun e => by omega⟩
          case measure => simp [intOf]; omega
    · have hk9 : n = k := by omega
      have hlt' : ¬ (k : Int) < (n : Int) := by omega
      have htk : l.take k = l := by rw [← hk9, ← HN.out]; exact List.take_length
      rw [htk] at HY
      by_cases hn0 : k = 0
      · obtain rfl := HK0.out hn0
        have HE : Hid (valsT kind l = []) := by
          have : l = [] := List.eq_nil_of_length_eq_zero (by rw [HN.out]; omega)
          rw [this]; rfl
        have hcv : ∀ w', (convert 60 9 (.slice none 0 0)).run Tryz.prog w' = .ok (.string (bs [])) w' := fun w' => Tryz.conv_nil w'
        clear HY HK0 htk hk hn0
        go_wp2_with fail
        go_ret
        exact ⟨by rw [HE.out]; rfl, HB⟩
      · have h0 : 0 < (valsT kind l).length := by
          cases hl9 : l with
          | nil => have := HN.out; rw [hl9] at this; simp at this; omega
          | cons x r =>
            have := (valT_len (HV.out x (by rw [hl9]; exact List.mem_cons_self ..))).1
            cases r with
            | nil => exact this
            | cons y z => unfold valsT; simp only [List.map_cons, sepT, List.length_append]; omega
        obtain ⟨p, c9, rfl, hcv⟩ := conv_by HY.out h0
        have HCV := hcv wr (Below.refl _ _)
        have hD9 : (valsT kind l).length ≤ 3004000000 := by
          refine Nat.le_trans (sepT_len [44, 32] 1502 _ fun p hp => ?_) ?_
          · obtain ⟨y, hy, rfl⟩ := List.mem_map.1 hp
            have := valT_len (HV.out y hy)
            simp only [List.length_cons, List.length_nil]; omega
          · rw [List.length_map]; have := HN.out; omega
        change (convert 60 9 (.slice p (valsT kind l).length c9)).run Tryz.prog wr = .ok (.string (bs (valsT kind l))) wr at HCV
        obtain ⟨m, hm⟩ : ∃ m, (valsT kind l).length = m := ⟨_, rfl⟩
        rw [show (sepT [44, 32] (l.map (valT kind))).length = m from hm]
        rw [hm] at HCV hD9
        clear HY HK0 htk hk hn0 h0 hcv hm
        go_wp2_with fail
        go_ret
        exact ⟨rfl, HB⟩
end Go.Proofs.YtdnhhmnllhlbbaaGreatDoor

namespace Go.Proofs.YtdnhhmnllhlbbaaGreatDoor
open Go.RowKit Go.Shelf
set_option linter.unusedVariables false
set_option linter.unusedSimpArgs false

theorem fint88 (n : Int) (h0 : -9223372036854775808 ≤ n) (h1 : n ≤ 9223372036854775807) (W : World) (hT : Tens W) : Calls Tryz.prog 88 #[.int .i64 n, .int .i64 10] W fun e w' => e = .returned (.string (bs (Lib.itoa n))) ∧ Below W.heap.size W w' :=
  (Any.internal_strconv_FormatInt_10 { Tryz.laysFint with } n h0 h1 W hT).mono fun e w' h => by
    obtain ⟨he, k, os, rfl⟩ := h
    exact ⟨he, below_growP (⟨rfl, rfl, rfl, Nat.le_refl _, fun _ _ => rfl⟩ : Below W.heap.size W (W.drewN k)) os (Nat.le_refl _)⟩

set_option maxRecDepth 100000 in
set_option maxHeartbeats 4000000 in
theorem itoa67 (n : Int) (h0 : -9223372036854775808 ≤ n) (h1 : n ≤ 9223372036854775807) (W : World) (hT : Tens W) : Calls Tryz.prog 67 #[.int .i64 n] W fun e w' => e = .returned (.string (bs (Lib.itoa n))) ∧ Below W.heap.size W w' := by
  have hX := fint88 n h0 h1 W hT
  go_enter Tryz.func67, Tryz.ntmps67
  go_wp2_with fail
  refine hX.mono ?_
  rintro e w2 ⟨rfl, hb2⟩
  clear hX
  go_wp2_with fail
  go_ret
  exact ⟨rfl, hb2⟩

set_option maxRecDepth 100000 in
set_option maxHeartbeats 4000000 in
theorem itoa40 (n : Int) (h0 : -9223372036854775808 ≤ n) (h1 : n ≤ 9223372036854775807) (W : World) (hT : Tens W) : Calls Tryz.prog 40 #[.int .i64 n] W fun e w' => e = .returned (.string (bs (Lib.itoa n))) ∧ Below W.heap.size W w' := by
  have hX := itoa67 n h0 h1 W hT
  go_enter Tryz.func40, Tryz.ntmps40
  go_wp2_with fail
  refine hX.mono ?_
  rintro e w2 ⟨rfl, hb2⟩
  clear hX
  go_wp2_with fail
  go_ret
  exact ⟨rfl, hb2⟩
/-- A run's last line. -/
def statT (how why part at_ : Int) : List UInt8 :=
  if how = 1 then [61, 61, 61, 61, 61, 61, 61, 61, 61, 61, 10]
  else if how = 2 then [61, 61, 61, 61, 61, 85, 78, 83, 65, 84, 73, 83, 70, 73, 65, 66, 76, 69, 61, 61, 61, 61, 61, 10]
  else if how = 4 then [61, 61, 61, 61, 61, 69, 82, 82, 79, 82, 61, 61, 61, 61, 61, 32] ++ Lib.itoa why ++ [32] ++ Lib.itoa part ++ [32] ++ Lib.itoa at_ ++ [10]
  else [61, 61, 61, 61, 61, 85, 78, 75, 78, 79, 87, 78, 61, 61, 61, 61, 61, 10]
theorem bs_app (a b : List UInt8) : bs a ++ bs b = bs (a ++ b) := by
  apply ByteArray.ext
  simp [bs, ByteArray.data_append]

set_option maxRecDepth 100000 in
set_option maxHeartbeats 4000000 in
theorem stat15 (how why part at_ : Int) (w0 : -9223372036854775808 ≤ why) (w1 : why ≤ 9223372036854775807) (p0 : -9223372036854775808 ≤ part) (p1 : part ≤ 9223372036854775807) (a0 : -9223372036854775808 ≤ at_) (a1 : at_ ≤ 9223372036854775807) (W : World) (hT : Tens W) :
    Calls Tryz.prog 15 #[.int .i64 how, .int .i64 why, .int .i64 part, .int .i64 at_] W fun e w' => e = .returned (.string (bs (statT how why part at_))) ∧ Below W.heap.size W w' := by
  by_cases h1 : how = 1
  · subst h1
    go_enter Tryz.func15, Tryz.ntmps15
    go_wp2
    go_ret
    exact ⟨rfl, Below.refl _ _⟩
  by_cases h2 : how = 2
  · subst h2
    go_enter Tryz.func15, Tryz.ntmps15
    go_wp2
    go_ret
    exact ⟨rfl, Below.refl _ _⟩
  by_cases h4 : how = 4
  · subst h4
    go_enter Tryz.func15, Tryz.ntmps15
    have HT : Hid (Tens W) := hT
    have lw := Lib.itoa_length_le why w0 w1
    have lp := Lib.itoa_length_le part p0 p1
    have la := Lib.itoa_length_le at_ a0 a1
    clear hT
    go_wp2_with fail
    refine (itoa40 why w0 w1 _ HT.out).mono ?_
    rintro e w2 ⟨rfl, hb2⟩
    have HB2 : Hid _ := hb2
    clear hb2
    have hz1 : 16 + (bs (Lib.itoa why)).size ≤ 9223372036854775807 := by rw [bs_size]; omega
    have hz2 : 16 + (bs (Lib.itoa why)).size + 1 ≤ 9223372036854775807 := by rw [bs_size]; omega
    go_wp2_with fail
    refine (itoa40 part p0 p1 _ (HT.out.self HB2.out)).mono ?_
    rintro e w3 ⟨rfl, hb3⟩
    have HB3 : Hid (Below W.heap.size W w3) := HB2.out.trans (hb3.mono HB2.out.size)
    clear hb3 HB2 hz1 hz2
    have hz1 : 16 + (bs (Lib.itoa why)).size + 1 + (bs (Lib.itoa part)).size ≤ 9223372036854775807 := by rw [bs_size, bs_size]; omega
    have hz2 : 16 + (bs (Lib.itoa why)).size + 1 + (bs (Lib.itoa part)).size + 1 ≤ 9223372036854775807 := by rw [bs_size, bs_size]; omega
    go_wp2_with fail
    refine (itoa40 at_ a0 a1 _ (HT.out.self HB3.out)).mono ?_
    rintro e w4 ⟨rfl, hb4⟩
    have HB4 : Hid (Below W.heap.size W w4) := HB3.out.trans (hb4.mono HB3.out.size)
    clear hb4 HB3 hz1 hz2
    have hz1 : 16 + (bs (Lib.itoa why)).size + 1 + (bs (Lib.itoa part)).size + 1 + (bs (Lib.itoa at_)).size ≤ 9223372036854775807 := by rw [bs_size, bs_size, bs_size]; omega
    have hz2 : 16 + (bs (Lib.itoa why)).size + 1 + (bs (Lib.itoa part)).size + 1 + (bs (Lib.itoa at_)).size + 1 ≤ 9223372036854775807 := by rw [bs_size, bs_size, bs_size]; omega
    go_wp2_with fail
    go_ret
    exact ⟨by show Ending.returned (Value.string (bs [61, 61, 61, 61, 61, 69, 82, 82, 79, 82, 61, 61, 61, 61, 61, 32] ++ bs (Lib.itoa why) ++ bs [32] ++ bs (Lib.itoa part) ++ bs [32] ++ bs (Lib.itoa at_) ++ bs [10])) = _; simp only [bs_app]; rfl, HB4⟩
  · go_enter Tryz.func15, Tryz.ntmps15
    go_wp2
    go_ret
    exact ⟨by unfold statT; rw [if_neg h1, if_neg h2, if_neg h4]; rfl, Below.refl _ _⟩
end Go.Proofs.YtdnhhmnllhlbbaaGreatDoor
