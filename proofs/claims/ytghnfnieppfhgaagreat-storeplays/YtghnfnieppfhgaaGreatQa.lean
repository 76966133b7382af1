/- What is proved here: the reference store against the store, in numbers: domains made tight. -/
import Derived.Test.YtghnfnieppfhgaaGreatMjj
import Derived.Test.YtghnfnieppfhgaaGreatPe
import Derived.Test.YtghnfnieppfhgaaGreatPbj
set_option linter.unusedVariables false
set_option linter.unusedSimpArgs false
namespace Go.Proofs.YtghnfnieppfhgaaGreat
open Go.RowKit Go.Shelf
theorem rt_both {d:MD} (hd:rightM d=true):rtM d=bothA d d:=by
 cases hs:d.set
 ·have hb:Dm.bothR d.r d.r=d.r:=both_num (num_of hs hd).1 hs (LeA.refl d)
  have hw:rightW d=true:=by unfold rightM at hd;rwa [if_neg (by rw [hs];decide)] at hd
  unfold rightW at hw
  simp only [Bool.and_eq_true,decide_eq_true_eq,beq_iff_eq] at hw
  unfold rtM bothA
  rw [if_neg (by rw [hs];decide),if_neg (by rw [hs];decide)]
  unfold bothW
  rw [hb]
  cases d
  simp_all
 ·unfold rtM bothA
  rw [if_pos hs,if_pos hs,St.both_same]
theorem map_rt {l:List MD} (h:∀ d∈l,rightM d=true):l.map rtM=l.map fun d=>bothA d d:=List.map_congr_left fun d hd=>rt_both (h d hd)
theorem same_of (a:MD):sameA a a=true:=by
 unfold sameA
 split
 ·exact St.same_taken _
 ·simp
theorem ans_r {st:StM} {E:List (Int × Int)} {v:Int} {d:MD} (hT:∀ o∈st.D,Tt o) (hE:0<st.e↔st.D.any reM=true):ansM st v d=(rnar st.D E v d).1:=by
 unfold ansM rnar
 by_cases hv:v<0
 ·have ht:thereB st v=false:=by unfold thereB;simp;omega
  rw [if_pos ht,if_pos hv]
 ·rw [if_neg hv]
  cases ho:st.D[v.toNat]? with
  | none =>
   have ht:thereB st v=false:=by have:=List.getElem?_eq_none_iff.1 ho;unfold thereB;simp;omega
   rw [if_pos ht]
  | some o =>
   have hl:=(List.getElem?_eq_some_iff.1 ho).1
   have ht:¬thereB st v=false:=by unfold thereB;simp;omega
   rw [if_neg ht]
   have hm:=List.mem_of_getElem? ho
   have hB:=both_tt (d:=d) (hT o hm).r
   simp only
   by_cases h1:rightM d=false
   ·rw [if_pos h1,if_pos (.inl h1)]
   ·rw [if_neg h1]
    by_cases h2:d.set≠o.set
    ·rw [if_pos h2,if_pos (.inr h2)]
    ·have hor:¬(rightM d=false∨d.set≠o.set):=fun q=>q.elim h1 h2
     rw [if_neg h2,if_neg hor]
     by_cases h3:0<st.e
     ·rw [if_pos h3,if_pos (hE.1 h3)]
     ·have h3':¬st.D.any reM=true:=fun q=>h3 (hE.2 q)
      rw [if_neg h3,if_neg h3',rb_both]
      by_cases h4:o=bothA o d
      ·have h5:sameA o (bothA o d)=true:=by rw [←h4];exact same_of o
       rw [if_pos h4,if_pos h5]
      ·have h5:¬sameA o (bothA o d)=true:=fun q=>h4 (same_eq (hT o hm) hB (bothA_set o d).symm q)
       rw [if_neg h4,if_neg h5]
       rw [re_empty hB.r]
       split<;>simp_all
theorem narA_D (st:StM) (v:Nat) (o nx:MD) (ch:Int):(narrowA st v o nx ch).D=st.D.set v nx:=by
 unfold narrowA
 split
 ·show ((saveM st v o).D).set v nx=_
  rw [(saveM_D st v o).1]
 ·show ((saveM st v o).D).set v nx=_
  rw [(saveM_D st v o).1]
theorem nar_r {st:StM} {E:List (Int × Int)} {v:Int} {d:MD} (hT:∀ o∈st.D,Tt o) (hE:0<st.e↔st.D.any reM=true):(narM st v d).D=(rnar st.D E v d).2.1:=by
 unfold narM rnar
 by_cases hv:v<0
 ·have ht:thereB st v=false:=by unfold thereB;simp;omega
  rw [if_pos ht,if_pos hv]
 ·rw [if_neg hv]
  cases ho:st.D[v.toNat]? with
  | none =>
   have ht:thereB st v=false:=by have:=List.getElem?_eq_none_iff.1 ho;unfold thereB;simp;omega
   rw [if_pos ht]
  | some o =>
   have hl:=(List.getElem?_eq_some_iff.1 ho).1
   have ht:¬thereB st v=false:=by unfold thereB;simp;omega
   rw [if_neg ht]
   have hm:=List.mem_of_getElem? ho
   have hB:=both_tt (d:=d) (hT o hm).r
   simp only
   by_cases h1:rightM d=false
   ·rw [if_pos h1,if_pos (.inl h1)]
   ·rw [if_neg h1]
    by_cases h2:d.set≠o.set
    ·rw [if_pos h2,if_pos (.inr h2)]
    ·have hor:¬(rightM d=false∨d.set≠o.set):=fun q=>q.elim h1 h2
     rw [if_neg h2,if_neg hor]
     by_cases h3:0<st.e
     ·rw [if_pos h3,if_pos (hE.1 h3)]
     ·have h3':¬st.D.any reM=true:=fun q=>h3 (hE.2 q)
      rw [if_neg h3,if_neg h3',rb_both]
      by_cases h4:o=bothA o d
      ·have h5:sameA o (bothA o d)=true:=by rw [←h4];exact same_of o
       rw [if_pos h4,if_pos h5]
      ·have h5:¬sameA o (bothA o d)=true:=fun q=>h4 (same_eq (hT o hm) hB (bothA_set o d).symm q)
       rw [if_neg h4,if_neg h5,narA_D]
       split<;>rfl
theorem why_ch {a b:MD} (ha:Tt a) (hb:Tt b) (hk:b.set=a.set) (hle:b.set=true→LeA b a):whyM a b=chM a b:=by
 unfold whyM chM
 cases ho:onlyA b
 ·simp only [Bool.false_eq_true,if_false]
  cases hs:b.set
  ·have hsa:a.set=false:=by rw [←hk];exact hs
   simp only [Bool.false_eq_true,if_false]
   unfold sbM
   simp only [hsa,Bool.false_eq_true,if_false]
   by_cases h1:Dm.lo a.r 0=Dm.lo b.r 0
   ·by_cases h2:Dm.hi a.r (a.r.length-1)=Dm.hi b.r (b.r.length-1)
    ·simp [h1,h2]
    ·simp [h1,h2]
   ·simp [h1]
  ·have hsa:a.set=true:=by rw [←hk];exact hs
   have hl:=(hle hs).2
   rw [if_pos hs,ha.t hsa,hb.t hs] at hl
   have s1:St.IsSet a.lo:=(md_of hsa ha.r).2.2.2.1
   have s2:St.IsSet b.lo:=(md_of hs hb.r).2.2.2.1
   have hlo:a.lo=b.lo↔a.lo.length=b.lo.length:=⟨fun e=>by rw [e],fun e=>St.set_sub_eq s1 s2 hl.lo (by omega)⟩
   simp only [if_true]
   unfold sbM
   simp only [hsa,if_true]
   by_cases h1:a.lo.length=b.lo.length
   ·have h1':=hlo.2 h1
    by_cases h2:a.least=b.least
    ·by_cases h3:a.most=b.most
     ·simp [h1',h2,h3]
     ·simp [h1',h2,h3]
    ·simp [h1',h2]
   ·have h1':¬a.lo=b.lo:=fun e=>h1 (hlo.1 e)
    simp [h1,h1']
 ·simp
theorem ch_ne (a b:MD):chM a b≠0:=by
 unfold chM
 split
 ·decide
 ·split<;>decide
theorem nar_E {st:StM} {v:Int} {d:MD} (hT:∀ o∈st.D,Tt o) (hE:0<st.e↔st.D.any reM=true) (hlw:st.why.length=st.D.length):seenF 0 (narM st v d).why=(rnar st.D (seenF 0 st.why) v d).2.2:=by
 unfold narM rnar
 by_cases hv:v<0
 ·have ht:thereB st v=false:=by unfold thereB;simp;omega
  rw [if_pos ht,if_pos hv]
 ·rw [if_neg hv]
  cases ho:st.D[v.toNat]? with
  | none =>
   have ht:thereB st v=false:=by have:=List.getElem?_eq_none_iff.1 ho;unfold thereB;simp;omega
   rw [if_pos ht]
  | some o =>
   have hl:=(List.getElem?_eq_some_iff.1 ho).1
   have ht:¬thereB st v=false:=by unfold thereB;simp;omega
   rw [if_neg ht]
   have hm:=List.mem_of_getElem? ho
   have hB:=both_tt (d:=d) (hT o hm).r
   simp only
   by_cases h1:rightM d=false
   ·rw [if_pos h1,if_pos (.inl h1)]
   ·rw [if_neg h1]
    by_cases h2:d.set≠o.set
    ·rw [if_pos h2,if_pos (.inr h2)]
    ·have hor:¬(rightM d=false∨d.set≠o.set):=fun q=>q.elim h1 h2
     rw [if_neg h2,if_neg hor]
     by_cases h3:0<st.e
     ·rw [if_pos h3,if_pos (hE.1 h3)]
     ·have h3':¬st.D.any reM=true:=fun q=>h3 (hE.2 q)
      rw [if_neg h3,if_neg h3',rb_both]
      by_cases h4:o=bothA o d
      ·have h5:sameA o (bothA o d)=true:=by rw [←h4];exact same_of o
       rw [if_pos h4,if_pos h5]
      ·have h5:¬sameA o (bothA o d)=true:=fun q=>h4 (same_eq (hT o hm) hB (bothA_set o d).symm q)
       rw [if_neg h4,if_neg h5,re_empty hB.r]
       unfold narrowA
       have hw:=(saveM_D st v.toNat o).2.2.1
       cases he:emptyA (bothA o d)
       ·simp only [Bool.false_eq_true,if_false]
        have hr:rightM d=true:=by cases q:rightM d;exact absurd q h1;rfl
        have hk:d.set=o.set:=Classical.byContradiction h2
        have e1:=why_ch (hT o hm) hB (bothA_set o d) (fun hs=>(ml (hT o hm).r hr hk.symm (by
         rw [bothA_set] at hs
         have q1:=(md_of hs (hT o hm).r).2.2.1
         have q2:=(md_of (hk.trans hs) hr).2.2.1
         have q1':o.r.length=0:=q1
         have q2':d.r.length=0:=q2
         omega) he).1)
        rw [e1,hw]
        have e2:=tell_seen st.why 0 v.toNat (chM o (bothA o d)) (by omega) (ch_ne _ _)
        rw [show ((0+v.toNat:Nat):Int)=v by omega] at e2
        exact e2.symm
       ·simp only [if_true]
        show seenF 0 (saveM st v.toNat o).why=_
        rw [hw]
end Go.Proofs.YtghnfnieppfhgaaGreat
