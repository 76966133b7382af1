/-
  What is proved here: plain mathematics of how far ranges as text have been read.
-/
import Derived.Test.YtopelhdepocoiaaDoorRa
import Derived.Test.YtopelhdepocoiaaDoorXa
namespace Go.Proofs.YtopelhdepocoiaaDoor
set_option linter.unusedVariables false

/-- What stands behind the k-th range. -/
def restT (L : List Rg) (k : Nat) : List UInt8 := if k + 1 < L.length then 44 :: joinT (tparts (L.drop (k + 1))) else []
theorem join_head (L : List Rg) (k : Nat) (hk : k < L.length) : joinT (tparts (L.drop k)) = tx1 (lo L k) (hi L k) ++ restT L k := by
  have e : L.drop k = L[k] :: L.drop (k + 1) := by rw [List.drop_eq_getElem_cons hk]
  have e1 : lo L k = L[k].1 := by simp [lo, hk]
  have e2 : hi L k = L[k].2 := by simp [hi, hk]
  rw [e, e1, e2]
  unfold tparts restT
  rw [List.map_cons]
  by_cases h : k + 1 < L.length
  · rw [if_pos h, joinT_cons _ _ (by simp; omega)]; rfl
  · rw [if_neg h, show L.drop (k + 1) = [] from List.drop_eq_nil_iff.2 (by omega)]
    simp [joinT]
theorem rest_head (L : List Rg) (k : Nat) (c : UInt8) (h : (restT L k).head? = some c) : c = 44 := by
  unfold restT at h
  split at h
  · simpa using h.symm
  · simp at h
theorem not_dig {c : UInt8} (h : c = 44 ∨ c = 46) : ¬ Dig c := by rcases h with rfl | rfl <;> decide

/-- So far as l, and on from the place a. -/
def Cl (b : List UInt8) (l : List Rg) (a : Nat) : Prop := ∀ L, Right L → 0 < L.length → txN L L.length = b → l.length < L.length ∧ L.take l.length = l ∧ b.drop a = joinT (tparts (L.drop l.length))
/-- So far as l and one range more, and on from the place a behind it. -/
def Cl2 (b : List UInt8) (l : List Rg) (v h : Int) (a : Nat) : Prop := ∀ L, Right L → 0 < L.length → txN L L.length = b → l.length < L.length ∧ L.take l.length = l ∧ v = lo L l.length ∧ h = hi L l.length ∧ b.drop a = restT L l.length

theorem cl_start (b : List UInt8) : Cl b [] 0 := fun L hR h0 hb => ⟨h0, rfl, by rw [← hb, txN_all]; rfl⟩
theorem cl_num {b : List UInt8} {l : List Rg} {a : Nat} {v : Int} {en : Nat} {ok : Bool} (hc : Cl b l a) (hn : NumR b a v en ok) (L : List Rg) (hR : Right L) (h0 : 0 < L.length) (hb : txN L L.length = b) :
    ok = true ∧ v = lo L l.length ∧ b.drop en = (if lo L l.length < hi L l.length then 46 :: 46 :: Lib.itoa (hi L l.length) else []) ++ restT L l.length := by
  obtain ⟨hlt, _, hd⟩ := hc L hR h0 hb
  have ho := hR.2 _ hlt
  unfold OkAt at ho
  rw [join_head L _ hlt] at hd
  have hd' : b.drop a = Lib.itoa (lo L l.length) ++ ((if lo L l.length < hi L l.length then 46 :: 46 :: Lib.itoa (hi L l.length) else []) ++ restT L l.length) := by rw [hd]; unfold tx1; simp
  have := num_at hn (lo L l.length) _ (by omega) (by omega) hd' (fun c hcc => by
    split at hcc
    · simp at hcc; exact not_dig (.inr hcc.symm)
    · simp at hcc; exact not_dig (.inl (rest_head _ _ _ hcc)))
  obtain ⟨h1, h2, h3⟩ := this
  refine ⟨h3, h1, ?_⟩
  rw [h2, ← List.drop_drop, hd', List.drop_left]
theorem cl_nodots {b : List UInt8} {l : List Rg} {a : Nat} {v : Int} {en : Nat} {ok : Bool} (hc : Cl b l a) (hn : NumR b a v en ok) (hd : ¬ (b.drop en).take 2 = [46, 46]) : Cl2 b l v v en := by
  intro L hR h0 hb
  obtain ⟨hlt, ht, _⟩ := hc L hR h0 hb
  obtain ⟨_, h2, h3⟩ := cl_num hc hn L hR h0 hb
  have ho := hR.2 _ hlt
  unfold OkAt at ho
  by_cases hxy : lo L l.length < hi L l.length
  · rw [if_pos hxy] at h3; rw [h3] at hd; exact absurd rfl hd
  · rw [if_neg hxy, List.nil_append] at h3
    exact ⟨hlt, ht, h2, by omega, h3⟩
theorem cl_dots {b : List UInt8} {l : List Rg} {a : Nat} {v : Int} {en : Nat} {ok : Bool} (hc : Cl b l a) (hn : NumR b a v en ok) (hd : (b.drop en).take 2 = [46, 46]) {v2 : Int} {en2 : Nat} {ok2 : Bool} (hn2 : NumR b (en + 2) v2 en2 ok2) (L : List Rg) (hR : Right L) (h0 : 0 < L.length) (hb : txN L L.length = b) :
    ok2 = true ∧ l.length < L.length ∧ L.take l.length = l ∧ v = lo L l.length ∧ v2 = hi L l.length ∧ b.drop en2 = restT L l.length := by
  obtain ⟨hlt, ht, _⟩ := hc L hR h0 hb
  obtain ⟨_, h2, h3⟩ := cl_num hc hn L hR h0 hb
  have ho := hR.2 _ hlt
  unfold OkAt at ho
  by_cases hxy : lo L l.length < hi L l.length
  · rw [if_pos hxy] at h3
    have hd' : b.drop (en + 2) = Lib.itoa (hi L l.length) ++ restT L l.length := by rw [← List.drop_drop, h3]; rfl
    obtain ⟨k1, k2, k3⟩ := num_at hn2 (hi L l.length) _ (by omega) (by omega) hd' (fun c hcc => not_dig (.inl (rest_head _ _ _ hcc)))
    exact ⟨k3, hlt, ht, h2, k1, by rw [k2, ← List.drop_drop, hd', List.drop_left]⟩
  · rw [if_neg hxy, List.nil_append] at h3
    rw [h3] at hd
    unfold restT at hd
    split at hd
    · simp at hd
    · simp at hd
theorem cl2_dots {b : List UInt8} {l : List Rg} {a : Nat} {v : Int} {en : Nat} {ok : Bool} (hc : Cl b l a) (hn : NumR b a v en ok) (hd : (b.drop en).take 2 = [46, 46]) {v2 : Int} {en2 : Nat} {ok2 : Bool} (hn2 : NumR b (en + 2) v2 en2 ok2) : Cl2 b l v v2 en2 :=
  fun L hR h0 hb => (cl_dots hc hn hd hn2 L hR h0 hb).2
theorem take_snocT {L l : List Rg} {v h : Int} (hlt : l.length < L.length) (ht : L.take l.length = l) (h1 : v = lo L l.length) (h2 : h = hi L l.length) : L.take (l.length + 1) = l ++ [(v, h)] := by
  rw [List.take_succ_eq_append_getElem hlt, ht, h1, h2]
  simp [lo, hi, hlt]
theorem cl2_end {b : List UInt8} {l : List Rg} {v h : Int} {a : Nat} (hc : Cl2 b l v h a) (ha : b.length ≤ a) (L : List Rg) (hR : Right L) (h0 : 0 < L.length) (hb : txN L L.length = b) : l ++ [(v, h)] = L := by
  obtain ⟨hlt, ht, h1, h2, h3⟩ := hc L hR h0 hb
  rw [List.drop_eq_nil_iff.2 ha] at h3
  have : ¬ l.length + 1 < L.length := fun hh => by unfold restT at h3; rw [if_pos hh] at h3; cases h3
  rw [← take_snocT hlt ht h1 h2, List.take_of_length_le (by omega)]
theorem cl2_comma {b : List UInt8} {l : List Rg} {v h : Int} {a : Nat} {c : UInt8} (hc : Cl2 b l v h a) (ha : b[a]? = some c) (hne : c ≠ 44) (L : List Rg) (hR : Right L) (h0 : 0 < L.length) (hb : txN L L.length = b) : False := by
  obtain ⟨hlt, ht, h1, h2, h3⟩ := hc L hR h0 hb
  have h4 : (b.drop a).head? = some c := by rw [List.head?_drop]; exact ha
  rw [h3] at h4
  exact hne (rest_head _ _ _ h4)
theorem cl2_next {b : List UInt8} {l : List Rg} {v h : Int} {a : Nat} (hc : Cl2 b l v h a) (ha : b[a]? = some 44) : Cl b (l ++ [(v, h)]) (a + 1) := by
  intro L hR h0 hb
  obtain ⟨hlt, ht, h1, h2, h3⟩ := hc L hR h0 hb
  have h4 : (b.drop a).head? = some 44 := by rw [List.head?_drop]; exact ha
  have hk : l.length + 1 < L.length := by
    apply Classical.byContradiction; intro hn
    rw [h3] at h4; unfold restT at h4; rw [if_neg hn] at h4; simp at h4
  have e : (l ++ [(v, h)]).length = l.length + 1 := by simp
  rw [e]
  refine ⟨hk, take_snocT hlt ht h1 h2, ?_⟩
  rw [← List.drop_drop, h3]
  unfold restT
  rw [if_pos hk]
  rfl
/-- Where a number ends. -/
theorem num_le {b : List UInt8} {a : Nat} {v : Int} {en : Nat} {ok : Bool} (hn : NumR b a v en ok) : a ≤ en ∧ en ≤ b.length ∧ (ok = true → a < en) := by
  obtain ⟨f, k, hf, _, hfk, hen, _, _, _, hok⟩ := hn
  refine ⟨?_, by omega, fun h => ?_⟩
  · rcases hf with ⟨h, _⟩ | ⟨h, _⟩ <;> omega
  · rw [hok, decide_eq_true_iff] at h
    rcases hf with ⟨h', _⟩ | ⟨h', _⟩ <;> omega
end Go.Proofs.YtopelhdepocoiaaDoor
