/-
  What is proved here: What stands round an output's values: around of package out.
-/
import Derived.Test.YtdnhhmnllhlbbaaGreatDoorOnj
import Derived.Test.YtdnhhmnllhlbbaaGreatDoorOd
namespace Go.Proofs.YtdnhhmnllhlbbaaGreatDoor
open Go.RowKit Go.Shelf
set_option linter.unusedVariables false
set_option linter.unusedSimpArgs false

/-- What stands ahead of an output's values. -/
def dimsT (l : List (Int × Int)) : List UInt8 := (l.map fun r => spanT r.1 r.2 ++ [44, 32]).flatten
def headT (o : Ou) : List UInt8 := if o.one then o.nm ++ [32, 61, 32] else o.nm ++ [32, 61, 32] ++ [97, 114, 114, 97, 121] ++ Lib.itoa o.dims.length ++ [100, 40] ++ dimsT o.dims ++ [91]
/-- What stands behind them. -/
def tailT (o : Ou) : List UInt8 := if o.one then [59, 10] else [93, 41] ++ [59, 10]
/-- One byte is put behind bytes. -/
theorem wpList_app_b1 {ops : Array Oper} {rest : List Oper} {o : Oper} {a : Act} {Q : Exit → Act → World → Prop} {w : World} (hgd : o.guard = none) (s x : Operand)
    (ho : o.op = .call { callee := .builtin .append, args := #[s, x], argTypes := #[60, 60] })
    (base : Nat) (v : Value) (D : List UInt8) (c : UInt8) (hs : a.eval s = v) (hown : By w base v D) (g1 : Nat) (hx : a.eval x = .slice (some ⟨g1, 0, none⟩) 1 1)
    (hR : Rw w g1 5 #[.int .u8 c.toNat]) (hlen : D.length ≤ 1000000000000) (hbase : base ≤ w.heap.size)
    (h : ∀ v' w', By w' base v' (D ++ [c]) → Below base w w' → wpList Tryz.prog ops Q rest (a.put o.dst v') w') : wpList Tryz.prog ops Q (o :: rest) a w := by
  rcases hown with hown | ⟨g, cap, cur, fz, rfl, hB, hg, hn, hf, hcs, ht⟩
  · exact wpList_app_1 hgd s x ho base v D c hs hown g1 hx hR hlen hbase (fun v' w' h1 h2 => h v' w' (.inl h1) h2)
  · obtain ⟨i0, hi0, hz0, hz1, hz2⟩ := info_parts Tryz.info5
    have hnews : ∀ j u, ([Value.int .u8 c.toNat] : List Value)[j]? = some u → w.cell? ((⟨g1, 0, none⟩ : Addr).add j) = some u := fun j u hu => by
      rw [Addr.add_lit, Nat.zero_add]
      exact hR.cell j u (by simpa using hu)
    have hb1 : Lib.byteCells [c] = [Value.int .u8 c.toNat] := rfl
    refine wpList_plain hgd fun K hK => ?_
    by_cases hroom : D.length + 1 ≤ cap
    · have hr := store_tail Tryz.prog g D.length 5 fz [.int .u8 c.toNat] 0 cur w hg (by simp; omega) (by simp; omega) (by simp [Value.oneCell'])
      simp only [Nat.add_zero, List.length_cons, List.length_nil] at hr
      have hfc := run_firstCells_some (P := Tryz.prog) w 1 1 ⟨g1, 0, none⟩ 1 1 [.int .u8 c.toNat] rfl hnews
      have hr2 : (Builtin.append_ #[60, 60] o.type #[.slice (some ⟨g, 0, none⟩) D.length cap, .slice (some ⟨g1, 0, none⟩) 1 1]).run Tryz.prog w = .ok (.slice (some ⟨g, 0, none⟩) (D.length + 1) cap) (w.setRow g (cur.toList.take D.length ++ [Value.int .u8 c.toNat] ++ cur.toList.drop (D.length + (0 + 1))).toArray) := by
        simp [Builtin.append_, run_underlying Tryz.underlying60, sizeOf, typeInfo, hi0, hz1, Builtin.lenOf, hroom, hfc, Addr.add_lit, hr]
      unfold Oper.wp execOp
      simp only [ho, resolve, invoke, builtin, Sem.run_bind, Sem.run_pure, Result.andThen_ok, List.map_toArray, List.map_cons, List.map_nil, hs, hx, hr2]
      refine hK _ _ (h _ _ (.inr ⟨g, cap, _, fz, by rw [List.length_append]; rfl, hB, setRow_heap w g cur _ 5 fz hg, by rw [List.length_append]; exact hroom, hf, ?_, ?_⟩) ?_)
      · simp only [List.size_toArray, List.length_append, List.length_take, List.length_drop, List.length_cons, List.length_nil, Array.length_toList]
        omega
      · rw [ht, Lib.byteCells_append, hb1]
        have : (D ++ [c]).length = (Lib.byteCells D ++ [Value.int .u8 c.toNat]).length := by simp [Lib.byteCells]
        rw [this]
        exact List.take_left
      · exact ⟨rfl, rfl, rfl, by simp, fun k hk => setRow_other w g k _ (by omega)⟩
    · have hc := (By.cell (B := base) (.inr ⟨g, cap, cur, fz, rfl, hB, hg, hn, hf, hcs, ht⟩)).2.2.2.2
      have hr := run_append_grow (P := Tryz.prog) (w := w) 60 o.type 5 i0 (.int .u8 0) Tryz.underlying60 hi0 hz0 ⟨g, 0, none⟩ D.length cap (Lib.byteCells D) (by rw [hz1]; simp [Lib.byteCells])
        (fun j u hu => by rw [Addr.add_lit, Nat.zero_add]; exact hc j u hu) ⟨g1, 0, none⟩ 1 1 [.int .u8 c.toNat] (by rw [hz1]; rfl) hnews (by omega) (by omega) (by rw [hz2]; exact growslice_fits (by omega) (by omega))
      unfold Oper.wp execOp
      simp only [ho, resolve, invoke, builtin, Sem.run_bind, Sem.run_pure, Result.andThen_ok, List.map_toArray, List.map_cons, List.map_nil, hs, hx, hr]
      exact hK _ _ (h _ _ (.inl (grown_own w base cap D [c] (by simp; omega) (by simp; omega) hbase)) ((Below.refl base w).drew.alloc hbase _))
/-- The bytes of a text that is converted. -/
theorem By.conv (w : World) (D : List UInt8) (B : Nat) (hB : B ≤ w.heap.size) (hD : D.length ≤ maxLen) :
    ∃ c w', (convert 9 60 (.string (bs D))).run Tryz.prog w = .ok (.slice (some ⟨w.heap.size, 0, none⟩) D.length c) w' ∧ By w' B (.slice (some ⟨w.heap.size, 0, none⟩) D.length c) D ∧ Below w.heap.size w w' := by
  have hge := grownCap_ge w (bs D).size 0 5
  have hsz : (bytesRow (bs D) (grownCap w (bs D).size 0 5)).size = grownCap w (bs D).size 0 5 := by
    simp only [bytesRow, Array.size_append, Array.size_map, Array.size_replicate]
    show (bs D).size + _ = _
    omega
  refine ⟨_, _, run_bytes_of_string (P := Tryz.prog) w 9 60 5 (bs D) Tryz.underlying9 Tryz.underlying60 Tryz.underlying5, .inr ⟨_, _, _, _, rfl, hB, heap_alloc_new w.drew _, hge, by rw [hsz]; exact Nat.le_refl _, hsz, ?_⟩, (Below.refl w.heap.size w).drew.alloc (Nat.le_refl _) _⟩
  have : (bytesRow (bs D) (grownCap w (bs D).size 0 5)).toList = Lib.byteCells D ++ List.replicate (grownCap w (bs D).size 0 5 - D.length) (.int .u8 0) := by
    simp [bytesRow, bs, Lib.byteCells, ByteArray.size]
  rw [this]
  have h2 : D.length = (Lib.byteCells D).length := by simp [Lib.byteCells]
  rw [h2]
  exact List.take_left

set_option maxRecDepth 100000 in
set_option maxHeartbeats 4000000 in
theorem around25 {W : World} {dv lv : Value} (o : Ou) (hd : Rgs W dv o.dims) (hl : ∃ p n c, lv = .slice p n c) (hn : o.nm.length ≤ 10000000000) (hdn : o.dims.length ≤ 1000) (hb : ∀ r ∈ o.dims, -1000000000 ≤ r.1 ∧ r.1 ≤ 1000000000 ∧ -1000000000 ≤ r.2 ∧ r.2 ≤ 1000000000) (hT : Tens W) :
    Calls Tryz.prog 25 #[.agg #[.string (bs o.nm), dv, lv, .int .i64 o.kind, .bool o.one]] W fun e w' => e = .returned (.tuple #[.string (bs (headT o)), .string (bs (tailT o))]) ∧ Below W.heap.size W w' := by
  obtain ⟨la, ln, lc, rfl⟩ := hl
  obtain ⟨da, dc, rfl, hd'⟩ := hd
  have HD : Hid (Rgs W (.slice da o.dims.length dc) o.dims) := ⟨_, _, rfl, hd'⟩
  have HT : Hid (Tens W) := hT
  have HBD : Hid (∀ r ∈ o.dims, -1000000000 ≤ r.1 ∧ r.1 ≤ 1000000000 ∧ -1000000000 ≤ r.2 ∧ r.2 ≤ 1000000000) := hb
  clear hd' hT hb
  obtain ⟨n, hnn⟩ : ∃ n, o.dims.length = n := ⟨_, rfl⟩
  have HN : Hid (o.dims.length = n) := hnn
  rw [hnn] at HD hdn ⊢
  have hz1 : (bs o.nm).size + 3 ≤ 9223372036854775807 := by rw [bs_size]; omega
  obtain ⟨A, hA⟩ : ∃ A, W.heap.size = A := ⟨_, rfl⟩
  clear hnn
  cases ho : o.one with
  | true =>
    have HH : Hid (headT o = o.nm ++ [32, 61, 32] ∧ tailT o = [59, 10]) := by unfold Hid headT tailT; rw [if_pos ho, if_pos ho]; exact ⟨rfl, rfl⟩
    obtain ⟨W0, hW0⟩ : ∃ q, W.alloc (Obj.cells #[.string (bs o.nm), .slice da n dc, .slice la ln lc, .int .i64 o.kind, .bool true] 53) = q := ⟨_, rfl⟩
    have hb0 : Below W.heap.size W W0 := by rw [← hW0]; exact (Below.refl _ W).alloc (Nat.le_refl _) _
    have HB0 : Hid (Below W.heap.size W W0) := hb0
    have HX0 : Hid (Blk W0 W.heap.size #[.string (bs o.nm), .slice da n dc, .slice la ln lc, .int .i64 o.kind, .bool true] 53) := by rw [← hW0]; exact Blk.new _ _ _
    have HA0 := HX0
    rw [hA] at HA0
    have x0 := HA0.out.cell 0
    have x1 := HA0.out.cell 1
    have x4 := HA0.out.cell 4
    go_enter Tryz.func25, Tryz.ntmps25
    go_wp2_with fail
    go_ret2
    exact ⟨by rw [HH.out.1, HH.out.2, ← bs_app]; rfl, HB0.out⟩
  | false =>
    have HH : Hid (headT o = o.nm ++ [32, 61, 32] ++ [97, 114, 114, 97, 121] ++ Lib.itoa o.dims.length ++ [100, 40] ++ dimsT o.dims ++ [91] ∧ tailT o = [93, 41] ++ [59, 10]) := by unfold Hid headT tailT; rw [ho]; exact ⟨rfl, rfl⟩
    obtain ⟨W0, hW0⟩ : ∃ q, W.alloc (Obj.cells #[.string (bs o.nm), .slice da n dc, .slice la ln lc, .int .i64 o.kind, .bool false] 53) = q := ⟨_, rfl⟩
    have hb0 : Below W.heap.size W W0 := by rw [← hW0]; exact (Below.refl _ W).alloc (Nat.le_refl _) _
    have HB0 : Hid (Below W.heap.size W W0) := hb0
    have HX0 : Hid (Blk W0 W.heap.size #[.string (bs o.nm), .slice da n dc, .slice la ln lc, .int .i64 o.kind, .bool false] 53) := by rw [← hW0]; exact Blk.new _ _ _
    have HA0 := HX0
    rw [hA] at HA0
    have x0 := HA0.out.cell 0
    have x1 := HA0.out.cell 1
    have x4 := HA0.out.cell 4
    have hz2 : (bs o.nm).size + 3 + 5 ≤ 9223372036854775807 := by rw [bs_size]; omega
    have lnn := Lib.itoa_length_le (n : Int) (by omega) (by omega)
    go_enter Tryz.func25, Tryz.ntmps25
    go_wp2_with fail
    refine (itoa40 (n : Int) (by omega) (by omega) _ (HT.out.self HB0.out)).mono ?_
    rintro e w2 ⟨rfl, hb2⟩
    have HB2 : Hid (Below W.heap.size W w2) := HB0.out.trans (hb2.mono HB0.out.size)
    have HX2 : Hid (Blk w2 A #[.string (bs o.nm), .slice da n dc, .slice la ln lc, .int .i64 o.kind, .bool false] 53) := HA0.out.below hb2
    clear HB0 HX0 HA0 hb2 hW0 hz1 hz2 x0 x1 x4
    have x1 := HX2.out.cell 1
    have hz1 : (bs o.nm).size + 3 + 5 + (bs (Lib.itoa n)).size ≤ 9223372036854775807 := by rw [bs_size, bs_size]; omega
    have hz2 : (bs o.nm).size + 3 + 5 + (bs (Lib.itoa n)).size + 2 ≤ 9223372036854775807 := by rw [bs_size, bs_size]; omega
    obtain ⟨P, hP⟩ : ∃ P, o.nm ++ [32, 61, 32] ++ [97, 114, 114, 97, 121] ++ Lib.itoa n ++ [100, 40] = P := ⟨_, rfl⟩
    have lP : P.length ≤ 10000000040 := by rw [← hP]; simp only [List.length_append, List.length_cons, List.length_nil]; omega
    obtain ⟨c3, w3, hcv, hy3, hb3⟩ := By.conv w2 P W.heap.size HB2.out.size (by unfold maxLen; omega)
    have e9 : bs P = bs o.nm ++ ⟨#[32, 61, 32]⟩ ++ ⟨#[97, 114, 114, 97, 121]⟩ ++ bs (Lib.itoa n) ++ ⟨#[100, 40]⟩ := by
      rw [← hP, ← bs_app, ← bs_app, ← bs_app, ← bs_app]; rfl
    rw [e9] at hcv
    obtain ⟨g, hg⟩ : ∃ g, w2.heap.size = g := ⟨_, rfl⟩
    obtain ⟨m, hm⟩ : ∃ m, P.length = m := ⟨_, rfl⟩
    have HM : Hid (P.length = m) := hm
    rw [hg, hm] at hcv hy3
    have HY3 : Hid (By w3 W.heap.size (.slice (some ⟨g, 0, none⟩) m c3) P) := hy3
    have HB3 : Hid (Below W.heap.size W w3) := HB2.out.trans (hb3.mono HB2.out.size)
    have HX3 : Hid (Blk w3 A #[.string (bs o.nm), .slice da n dc, .slice la ln lc, .int .i64 o.kind, .bool false] 53) := HX2.out.below hb3
    have HHP : Hid (headT o = P ++ dimsT o.dims ++ [91]) := by rw [← hP, ← HN.out]; exact HH.out.1
    have x1' := HX3.out.cell 1
    have lP' : m ≤ 10000000040 := by omega
    clear hy3 hb3 e9 hg hm hP lP HX2 HB2
    go_wp2_with fail
    have HHT : Hid (tailT o = [93, 41] ++ [59, 10]) := HH.out.2
    clear hcv x1 x1' hz1 hz2 HH
    go_loopw [4, 26] (fun o' i wr => ∃ (k : Nat), k ≤ n ∧ i = .int .i64 (k : Int) ∧ Hid (By wr W.heap.size o' (P ++ dimsT (o.dims.take k))) ∧ Hid (Below W.heap.size W wr) ∧ Hid ((dimsT (o.dims.take k)).length ≤ 50 * k)) (fun _ i _ => n - (intOf i).toNat)
    case atStart => exact ⟨0, Nat.zero_le _, rfl, by unfold Hid; simpa [dimsT] using HY3.out, HB3, by unfold Hid; simp [dimsT]⟩
    case round =>
      clear HY3 HB3 HX3
      obtain ⟨k, hk, rfl, HY, HB, HLK⟩ := hrel
      by_cases hlt : k < n
      · have hlt' : (k : Int) < (n : Int) := by omega
        obtain ⟨x, hx⟩ : ∃ x, o.dims[k]? = some x := ⟨_, List.getElem?_eq_getElem (by rw [HN.out]; exact hlt)⟩
        obtain ⟨a', c', e, hcl⟩ := HD.out
        rw [HN.out] at e hcl
        injection e with e1 _ e3
        obtain ⟨b, off, e4, hb, hcl⟩ := hcl (by omega)
        rw [e4] at e1
        subst e1
        subst e3
        obtain ⟨c0, c1⟩ := hcl k x hx
        have y0 := (HB.out.cell (p := ⟨b, off + k * 2, none⟩) hb).trans c0
        have y1 := (HB.out.cell (p := ⟨b, off + k * 2 + 1, none⟩) hb).trans c1
        have bx := HBD.out x (List.mem_of_getElem? hx)
        have HTK : Hid (dimsT (o.dims.take (k + 1)) = dimsT (o.dims.take k) ++ spanT x.1 x.2 ++ [44, 32]) := by
          unfold Hid dimsT
          rw [List.take_add_one, hx, Option.toList_some, List.map_append, List.flatten_append, List.map_singleton]
          simp
        have ls : (spanT x.1 x.2).length ≤ 44 := by
          have := Lib.itoa_length_le x.1 (by omega) (by omega)
          have := Lib.itoa_length_le x.2 (by omega) (by omega)
          unfold spanT
          simp only [List.length_append, List.length_cons, List.length_nil]; omega
        have lk := HLK.out
        obtain ⟨D, hD⟩ : ∃ D, dimsT (o.dims.take k) = D := ⟨_, rfl⟩
        rw [hD] at HY HTK lk
        obtain ⟨u, hu⟩ : ∃ u, x.1 = u := ⟨_, rfl⟩
        obtain ⟨v, hv⟩ : ∃ v, x.2 = v := ⟨_, rfl⟩
        rw [hu, hv] at HTK ls bx
        rw [hu] at y0
        rw [hv] at y1
        have hwk : IntKind.i64.wrap ((k : Int) + 1) = (k : Int) + 1 := by rw [IntKind.wrap_i64]; omega
        have hP9 := HM.out
        have HLN : Hid ((dimsT (o.dims.take (k + 1))).length ≤ 50 * (k + 1)) := by unfold Hid; rw [HTK.out]; simp only [List.length_append, List.length_cons, List.length_nil]; omega
        have HL1 : Hid ((P ++ D).length + (spanT u v).length ≤ 100000000000000) := by unfold Hid; rw [List.length_append]; omega
        have HL2 : Hid ((P ++ D ++ spanT u v).length + 2 ≤ 100000000000000) := by unfold Hid; simp only [List.length_append]; omega
        clear hD hx hcl c0 c1 hu hv HLK hP9
        go_wp2_with fail
        obtain ⟨w4, hw4⟩ : ∃ q, wr.alloc (Obj.cells #[.int .i64 u, .int .i64 v] 84) = q := ⟨_, rfl⟩
        have hb4 : Below wr.heap.size wr w4 := by rw [← hw4]; exact (Below.refl _ _).alloc (Nat.le_refl _) _
        have HB4 : Hid (Below W.heap.size W w4) := HB.out.trans (hb4.mono HB.out.size)
        have HY4 : Hid _ := By.below HY.out hb4
        rw [hw4]
        clear hw4 hb4 HY HB y0 y1
        refine (span50 u v (by omega) (by omega) (by omega) (by omega) _ (HT.out.self HB4.out)).mono ?_
        rintro e w5 ⟨rfl, hb5⟩
        have HB5 : Hid (Below W.heap.size W w5) := HB4.out.trans (hb5.mono HB4.out.size)
        have HY5 : Hid _ := By.below HY4.out hb5
        clear hb5 HY4 HB4
        go_wp2_with (at_builtin; refine wpList_app_by rfl (.tmp 30) (.tmp 35) rfl W.heap.size _ (P ++ D) (spanT u v) rfl HY5.out rfl HL1.out HB5.out.size ?_; intro v6 w6 hown6 hb6 _; refine Hid.out ?_)
        refine (show Hid _ from ?_)
        unfold Hid
        have HB6 : Hid (Below W.heap.size W w6) := HB5.out.trans hb6
        have HY6 : Hid _ := hown6
        clear hown6 hb6 HY5 HB5
        go_wp2_with (at_builtin; refine wpList_app_by rfl (.tmp 37) (.const (.string ⟨#[44, 32]⟩)) rfl W.heap.size _ (P ++ D ++ spanT u v) [44, 32] rfl HY6.out rfl HL2.out HB6.out.size ?_; intro v7 w7 hown7 hb7 _; refine Hid.out ?_)
        refine (show Hid _ from ?_)
        unfold Hid
        have HB7 : Hid (Below W.heap.size W w7) := HB6.out.trans hb7
        have HY7 : Hid (By w7 W.heap.size v7 (P ++ dimsT (o.dims.take (k + 1)))) := by unfold Hid; rw [HTK.out]; simpa using hown7
        clear hown7 hb7 HY6 HB6
        go_wp2
        go_roundw
        case rel => exact ⟨k + 1, by omega, by go_num, HY7, HB7, HLN⟩
        case measure => simp [intOf]; omega
      · have hk9 : n = k := by omega
        have hlt' : ¬ (k : Int) < (n : Int) := by omega
        have htk : o.dims.take k = o.dims := by rw [← hk9, ← HN.out]; exact List.take_length
        rw [htk] at HY HLK
        obtain ⟨D, hD⟩ : ∃ D, P ++ dimsT o.dims = D := ⟨_, rfl⟩
        have hP9 := HM.out
        have lk := HLK.out
        have HL1 : Hid (D.length + 1 ≤ 100000000000) := by unfold Hid; rw [← hD, List.length_append]; omega
        rw [hD] at HY
        have HHD : Hid (headT o = D ++ [91]) := by rw [← hD]; exact HHP
        clear hD hk htk hP9 lk HLK HHP
        have HR : Hid (Rw (wr.alloc (Obj.cells #[.int .u8 91] 5)) wr.heap.size 5 #[.int .u8 (91 : UInt8).toNat]) := ⟨(Blk.new wr #[.int .u8 (91 : UInt8).toNat] 5).h⟩
        have hb4 : Below wr.heap.size wr (wr.alloc (Obj.cells #[.int .u8 91] 5)) := (Below.refl _ _).alloc (Nat.le_refl _) _
        have HB4 : Hid (Below W.heap.size W (wr.alloc (Obj.cells #[.int .u8 91] 5))) := HB.out.trans (hb4.mono HB.out.size)
        have HY4 : Hid (By (wr.alloc (Obj.cells #[.int .u8 91] 5)) W.heap.size _ D) := By.below HY.out hb4
        clear hb4 HY HB
        have HL9 : Hid (D.length ≤ 1000000000000) := by have := HL1.out; unfold Hid; omega
        go_wp2_with (at_builtin; refine wpList_app_b1 rfl (.tmp 40) (.tmp 41) rfl W.heap.size _ D 91 rfl HY4.out wr.heap.size rfl HR.out HL9.out HB4.out.size ?_; intro v5 w5 hown5 hb5; refine Hid.out ?_)
        refine (show Hid _ from ?_)
        unfold Hid
        have HB5 : Hid (Below W.heap.size W w5) := HB4.out.trans hb5
        obtain ⟨p, c9, rfl, hcv⟩ := conv_by hown5 (by simp)
        have HCV := hcv w5 (Below.refl _ _)
        have hle := HL1.out
        obtain ⟨q, hq⟩ : ∃ m, (D ++ [91]).length = m := ⟨_, rfl⟩
        have hqm : q ≤ 100000000000 := by rw [← hq, List.length_append]; exact hle
        rw [hq] at HCV ⊢
        clear hown5 hb5 hcv hq HR HY4 HB4 hle
        go_wp2_with fail
        go_ret2
        exact ⟨by rw [HHD.out, HHT.out]; rfl, HB5⟩
end Go.Proofs.YtdnhhmnllhlbbaaGreatDoor
