/-
  What is proved here: what the methods Words, First and Room return.
-/
import Derived.Test.YtgcgomofmicchaaDoorXk
import Derived.Laws.CopyRow
import Derived.Laws.CopyOwn
namespace Go.Proofs.YtgcgomofmicchaaDoor
open Go.RowKit Go.Shelf

set_option maxHeartbeats 400000 in
theorem first_any (b g c : Nat) (f room : Int) (ws : List Nat) (W : World) (h : Bits W b g c f room ws) :
    Calls Tryd.prog 39 #[.pointer (some ⟨b, 0, none⟩)] W fun e w' => e = .returned (.int .i64 f) ∧ w' = W := by
  have c0 := h.c0
  clear h
  go_enter Tryd.func39, Tryd.ntmps39
  go_wp2
  go_ret
  exact ⟨rfl, rfl⟩
set_option maxHeartbeats 400000 in
theorem room_any (b g c : Nat) (f room : Int) (ws : List Nat) (W : World) (h : Bits W b g c f room ws) :
    Calls Tryd.prog 40 #[.pointer (some ⟨b, 0, none⟩)] W fun e w' => e = .returned (.int .i64 room) ∧ w' = W := by
  have c1 := h.c1
  clear h
  go_enter Tryd.func40, Tryd.ntmps40
  go_wp2
  go_ret
  exact ⟨rfl, rfl⟩
set_option maxHeartbeats 400000 in
theorem first_nil (W : World) : Calls Tryd.prog 39 #[.pointer none] W fun e w' => e = .returned (.int .i64 0) ∧ w' = W := by
  go_enter Tryd.func39, Tryd.ntmps39
  go_wp2
  go_ret
  exact ⟨rfl, rfl⟩
set_option maxHeartbeats 400000 in
theorem room_nil (W : World) : Calls Tryd.prog 40 #[.pointer none] W fun e w' => e = .returned (.int .i64 0) ∧ w' = W := by
  go_enter Tryd.func40, Tryd.ntmps40
  go_wp2
  go_ret
  exact ⟨rfl, rfl⟩
set_option maxHeartbeats 400000 in
theorem words_nil (W : World) : Calls Tryd.prog 31 #[.pointer none] W fun e w' => e = .returned (.slice none 0 0) ∧ w' = W := by
  go_enter Tryd.func31, Tryd.ntmps31
  go_wp2
  go_ret
  exact ⟨rfl, rfl⟩

theorem Tryd.size59 : (Tryd.prog.info? 59).map (·.size) = some 1 := by kernel_rfl
theorem row_setRow {W : World} {g : Nat} {cur : Array Value} {t : TypeId} (h : W.heap[g]? = some (.cells cur t (0, 0))) (c' : Array Value) : (W.setRow g c').heap[g]? = some (.cells c' t (0, 0)) := setRow_heap W g cur c' t (0, 0) h

set_option maxRecDepth 100000 in
set_option maxHeartbeats 2000000 in
theorem words_any (b g c : Nat) (f room : Int) (ws : List Nat) (W : World) (h : Bits W b g c f room ws) (hz : Sz f room ws) :
    Calls Tryd.prog 31 #[.pointer (some ⟨b, 0, none⟩)] W fun e w' => ∃ A, e = .returned (.slice (some ⟨A, 0, none⟩) ws.length ws.length) ∧ W.heap.size ≤ A ∧ A < w'.heap.size ∧ (∀ k, k < ws.length → w'.cell? ⟨A, k, none⟩ = some (.int .u64 (wat ws k : Nat))) ∧ Below W.heap.size W w' := by
  have hl := hz.len; have z3 := hz.most; have z2 := hz.one
  have hbl := h.b_lt
  have c2 := h.c2
  obtain ⟨hzv, hzs⟩ := zero_of_info Tryd.info90
  obtain ⟨Z, hZ⟩ : ∃ Z : Array Value, Array.replicate 1024 (.int .u64 0) = Z := ⟨_, rfl⟩
  rw [hZ] at hzv
  have hZs : Z.size = 1024 := by rw [← hZ]; simp
  have hrun := run_copy_row (P := Tryd.prog) ((W.alloc (Obj.cells Z 90)).drew) 57 57 3 59 W.heap.size 0 1024 1024 ⟨g, 0, none⟩ ws.length c Z 90 (words ws) Tryd.underlying57 Tryd.size59 (World.alloc_heap_new W _) (by rw [show (words ws).length = ws.length from by simp [words]]; exact (Nat.min_eq_left (by omega)).symm)
    (fun j v hj => by
      rw [Addr.add_lit, Nat.zero_add]
      show (W.alloc (Obj.cells Z 90)).cell? _ = _
      refine Lib.cell?_alloc_some _ ?_
      have hjl : j < ws.length := by have := (List.getElem?_eq_some_iff.1 hj).1; simpa [words] using this
      rw [(h.cw j hjl).1, ← hj]
      simp [words, wat, hjl]) (by simp [words]; omega) (fun v hv => by unfold words at hv; obtain ⟨x, _, rfl⟩ := List.mem_map.1 hv; rfl)
  obtain ⟨NA, hNA⟩ : ∃ NA : Array Value, (Z.toList.take 0 ++ words ws ++ Z.toList.drop (0 + (words ws).length)).toArray = NA := ⟨_, rfl⟩
  rw [hNA, show (words ws).length = ws.length from by simp [words]] at hrun
  have hcells : ∀ k, k < ws.length → NA[k]? = some (.int .u64 (wat ws k : Nat)) := fun k hk => by
    rw [← hNA]
    simp [words, wat]
    rw [List.getElem?_append_left (by simpa using hk)]
    simp [hk]
  have HC : Hid (∀ k, k < ws.length → NA[k]? = some (.int .u64 (wat ws k : Nat))) := hcells
  obtain ⟨n, hn⟩ : ∃ n, ws.length = n := ⟨_, rfl⟩
  rw [hn] at c2 hl hrun HC ⊢
  have hn2 : (n : Int) ≤ 1024 := by omega
  have hgi : goInt n = .int .i64 (n : Int) := rfl
  rw [hgi] at hrun
  clear hNA hZ hzs hcells hn h hz hl
  go_enter Tryd.func31, Tryd.ntmps31
  go_wp2
  go_region
  all_goals go_wp2
  all_goals
    go_ret
    have hrow : (((W.alloc (Obj.cells Z 90)).drew).setRow W.heap.size NA).heap[W.heap.size]? = some (.cells NA 90 (0, 0)) := row_setRow (World.alloc_heap_new W _) NA
    refine ⟨W.heap.size, rfl, Nat.le_refl _, (Array.getElem?_eq_some_iff.1 hrow).1, fun k hk => by rw [cell_row hrow]; exact HC.out k hk, ?_⟩
    exact below_setRow (((Below.refl _ W).alloc (Nat.le_refl _) _).drew) (Nat.le_refl _) NA
end Go.Proofs.YtgcgomofmicchaaDoor
