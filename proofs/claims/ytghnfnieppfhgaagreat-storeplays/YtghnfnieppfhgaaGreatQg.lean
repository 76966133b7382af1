/- What is proved here: how domains and calls that came in are opened, with what they weigh. -/
import Derived.Test.YtghnfnieppfhgaaGreatNd
import Derived.Deep.Slices
import Derived.DataReads
import Derived.ChangeArms
import Derived.SizedLaws
import Derived.WalkKit
import Derived.ProofKit
import Derived.OpenShut
import Derived.Stop.Joined
import Derived.Below
import Derived.Lay
import Derived.Deep.SlicePairs
import Derived.LaidMore
import Derived.ChangeSlices
import Derived.ChangeOld
import Derived.ChangeMaps5
import Derived.Carry
set_option linter.unusedVariables false
set_option linter.unusedSimpArgs false
namespace Go.Proofs.YtghnfnieppfhgaaGreat
open Go.RowKit Go.Shelf
open Go.ChangeShapes Go.WideShapes Go.ChangeAt Go.Deep
set_option maxRecDepth 100000
theorem w_all {H:Type} {P:Program} {e:TypeId}:∀ {l:List (DataW H)} {d:DataW H},d∈l→∀ k,k∈d.weights P e→k∈DataW.weightsAll P e l
 | d' :: l,d,h,k,hk=>by
  rw [DataW.weightsAll]
  rcases List.mem_cons.1 h with rfl | h
  ·exact List.mem_append_left _ hk
  ·exact List.mem_append_right _ (w_all h k hk)
def SzW {H:Type} (t:TypeId) (d:DataW H):Prop:=∀ k,k∈d.weights Tryz.prog t→k≤reachBytes
theorem sz_of {H:Type} {ts:List TypeId} {ds:List (DataW H)} {t:TypeId} {d:DataW H} (j:Nat) (hsz:(DataW.weightsEach Tryz.prog ts ds).all (·≤reachBytes)=true) (ht:ts[j]? = some t) (hd:ds[j]? = some d):SzW t d:=fun k hk=>by
 rw [List.all_eq_true] at hsz
 exact of_decide_eq_true (hsz k (DataW.weights_mem_each ht hd k hk))
theorem sz_each {H:Type} {ts:List TypeId} {ds:List (DataW H)} {t:TypeId} {d:DataW H} (j:Nat) (hsz:∀ k,k∈DataW.weightsEach Tryz.prog ts ds→k≤reachBytes) (ht:ts[j]? = some t) (hd:ds[j]? = some d):SzW t d:=fun k hk=>hsz k (DataW.weights_mem_each ht hd k hk)
section
variable {H : Type} {enc : TypeId × Value → H} {W : World}
theorem op_slice {α:Type} {t e:TypeId} {k by_:Nat} {R:List Value→α→Prop} (ht:Tryz.prog.underlying t=some (.slice e)) (hk:Tryz.prog.cellsOf e=k) (hby:Tryz.prog.bytesOf e=by_) (hk0:0<k)
  (hR:∀ fuel cs y,DataW.trod enc Tryz.prog W 0 (fun _=>true) true fuel e cs=some y→(∀ z∈y.2,z.block<W.heap.size)→SzW e y.1→∃ x,R cs x)
  {fuel:Nat} {v:Value} {x:DataW H × List MemPlace} (h:DataW.trod enc Tryz.prog W 0 (fun _=>true) true fuel t [v]=some x) (lt0:∀ z∈x.2,z.block<W.heap.size) (hsz:SzW t x.1) :
  ∃ (a:Option Addr) (c:Nat) (l:List α),v = .slice a l.length c∧l.length*by_≤140737488351232∧l.length≤c∧c≤maxLen∧(0<l.length→∃ b off,a=some ⟨b,off,none⟩∧b<W.heap.size∧∀ (i:Nat) (y:α),l[i]? = some y→∃ cs,R cs y∧∀ r,r<k→W.cell? ⟨b,off+i*k+r,none⟩=cs[r]?):=by
 rcases open_slice ht h with ⟨h0,_⟩ | ⟨a,len,cap,m,n,D,Pl,hcs,_,hl,hm,hmm,hx,hcell⟩
 ·have:v = .slice none 0 0:=by simpa using h0
  subst this
  exact ⟨none,0,[],rfl,by simp,by simp,by simp,fun h=>absurd h (by simp)⟩
 ·have:v = .slice (some a) len cap:=by simpa using hcs
  subst this
  simp only [if_true] at hmm
  subst hmm
  rw [hk] at hcell hx
  have hxx:x.1 = .slice ((List.range len).map D) ((List.range (m-len)).map fun j=>D (len+j)):=by rw [hx]
  have hw:∀ q,q∈(((List.range len).map D).length+((List.range (m-len)).map fun j=>D (len+j)).length)*Tryz.prog.bytesOf e :: (DataW.weightsAll Tryz.prog e ((List.range len).map D)++DataW.weightsAll Tryz.prog e ((List.range (m-len)).map fun j=>D (len+j)))→q≤reachBytes:=by
   intro q hq
   refine hsz q ?_
   rw [hxx,DataW.weights,ht]
   exact hq
  have each:∀ i,i<len→∃ y:α,∃ cs,R cs y∧∀ r,r<k→W.cell? ((a.add (i*k)).add r)=cs[r]?:=by
   intro i hi
   obtain ⟨cs',h1,h2⟩:=hcell i (by omega)
   obtain ⟨_,hlen,hc⟩:=World.cells?_some h1
   obtain ⟨y,hy⟩:=hR n cs' _ h2 (fun z hz=>lt0 z (by rw [hx];exact List.mem_append_right _ (List.mem_flatMap.2 ⟨i,List.mem_range.2 (by omega),hz⟩))) (fun q hq=>hw q (List.mem_cons_of_mem _ (List.mem_append_left _ (w_all (List.mem_map.2 ⟨i,List.mem_range.2 hi,rfl⟩) q hq))))
   exact ⟨y,cs',hy,hc⟩
  by_cases h0:len=0
  ·subst h0
   exact ⟨some a,m,[],rfl,by simp,by simp,hm,fun h=>absurd h (by simp)⟩
  ·have:Inhabited α:=⟨(each 0 (by omega)).choose⟩
   obtain ⟨q,hq⟩:=choose_lt (α:=α) (p:=fun i y=>∃ cs,R cs y∧∀ r,r<k→W.cell? ((a.add (i*k)).add r)=cs[r]?) each
   have hll:((List.range len).map q).length=len:=by simp
   obtain ⟨b,off,spot⟩:=a
   have hspot:spot=none:=by
    obtain ⟨cs',h1,_⟩:=hcell 0 (by omega)
    obtain ⟨_,hlen,hc⟩:=World.cells?_some h1
    have hc0:=hc 0 hk0
    rw [List.getElem?_eq_getElem (by omega)] at hc0
    simpa [Addr.add] using World.cell?_spot hc0
   subst hspot
   have hbW:b<W.heap.size:=lt0 (.cell b off) (by rw [hx];exact List.mem_append_left _ (MemPlace.mem_row.2 ⟨0,Nat.mul_pos (by omega) hk0,by simp⟩))
   refine ⟨_,m,(List.range len).map q,by rw [hll],?_,by omega,hm,fun _=>⟨b,off,rfl,hbW,fun i y hy=>?_⟩⟩
   ·have:=hw _ List.mem_cons_self
    simp only [List.length_map,List.length_range,hby,reachBytes] at this
    rw [hll]
    have h2:len*by_≤(len+(m-len))*by_:=Nat.mul_le_mul_right _ (by omega)
    omega
   ·have hi:i<len:=by have:=(List.getElem?_eq_some_iff.1 hy).1;omega
    rw [List.getElem?_map,List.getElem?_range hi] at hy
    simp at hy
    subst hy
    obtain ⟨cs,h1,h2⟩:=hq i hi
    refine ⟨cs,h1,fun r hr=>?_⟩
    have:=h2 r hr
    rw [Addr.add_lit,Addr.add_lit] at this
    exact this
def Fit (n:Int):Prop:=-9223372036854775808≤n∧n≤9223372036854775807
theorem fit_of {a:Int} (h:(Lit.int .i64 a).wf=true):Fit a:=by
 have:=bounds_i64 h
 unfold Fit;omega
theorem op_nums {fuel:Nat} {v:Value} {x:DataW H × List MemPlace} (h:DataW.trod enc Tryz.prog W 0 (fun _=>true) true fuel 35 [v]=some x) (lt0:∀ z∈x.2,z.block<W.heap.size) (hsz:SzW 35 x.1) :
  ∃ (a:Option Addr) (c:Nat) (l:List Int),v = .slice a l.length c∧Nm (fun _=>False) W v l∧l.length*8≤140737488351232∧∀ y∈l,Fit y:=by
 obtain ⟨a,c,l,rfl,hl,_,_,hc⟩:=op_slice (α:=Int) (R:=fun cs y=>cs=[.int .i64 y]∧Fit y) (k:=1) (by_:=8) Tryz.underlying35 (by kernel_rfl) (by kernel_rfl) (by omega)
  (fun fuel cs y hy _ _=>by obtain ⟨n,e,_,hw⟩:=DataW.trod_int Tryz.underlying2 hy;exact ⟨n,e,fit_of hw⟩) h lt0 hsz
 refine ⟨a,c,l,rfl,⟨a,c,rfl,fun h0=>?_⟩,hl,fun y hy=>?_⟩
 ·obtain ⟨b,off,rfl,hb,hcell⟩:=hc h0
  refine ⟨b,off,rfl,hb,fun q=>q,fun i y hy=>?_⟩
  obtain ⟨cs,⟨rfl,_⟩,h2⟩:=hcell i y hy
  simpa using h2 0 (by omega)
 ·obtain ⟨i,hi⟩:=List.mem_iff_getElem?.1 hy
  obtain ⟨b,off,rfl,hb,hcell⟩:=hc (by have:=(List.getElem?_eq_some_iff.1 hi).1;omega)
  obtain ⟨cs,⟨_,h1⟩,_⟩:=hcell i y hi
  exact h1
theorem op_rngs {fuel:Nat} {v:Value} {x:DataW H × List MemPlace} (h:DataW.trod enc Tryz.prog W 0 (fun _=>true) true fuel 34 [v]=some x) (lt0:∀ z∈x.2,z.block<W.heap.size) (hsz:SzW 34 x.1) :
  ∃ (a:Option Addr) (c:Nat) (l:List Dm.Rg),v = .slice a l.length c∧Rm (fun _=>False) W v l∧l.length*16≤140737488351232∧Dm.FitsR l:=by
 have e80:Tryz.prog.cellsOf 80=2:=by kernel_rfl
 have e2:Tryz.prog.cellsOf 2=1:=by kernel_rfl
 obtain ⟨a,c,l,rfl,hl,_,_,hc⟩:=op_slice (α:=Dm.Rg) (R:=fun cs y=>cs=[.int .i64 y.1,.int .i64 y.2]∧Fit y.1∧Fit y.2) (k:=2) (by_:=16) Tryz.underlying34 (by kernel_rfl) (by kernel_rfl) (by omega)
  (fun fuel cs y hy _ _=>by
   obtain ⟨xs,n,_,hx,hl,hlen,hf⟩:=DataW.trod_struct Tryz.underlying80 hy
   rw [e80] at hl
   match xs,hlen,cs,hl with
   | [y0,y1],_,[c0,c1],_ =>
    have g0:=hf 0 _ rfl
    have g1:=hf 1 _ rfl
    simp [e2] at g0 g1
    obtain ⟨k0,hk0,_,hw0⟩:=DataW.trod_int Tryz.underlying2 g0
    obtain ⟨k1,hk1,_,hw1⟩:=DataW.trod_int Tryz.underlying2 g1
    simp at hk0 hk1
    subst hk0;subst hk1
    exact ⟨(k0,k1),rfl,fit_of hw0,fit_of hw1⟩) h lt0 hsz
 have key:∀ i,i<l.length→l[i]? = some (Dm.lo l i,Dm.hi l i):=fun i hi=>by unfold Dm.lo Dm.hi;rw [List.getElem?_eq_getElem hi];rfl
 refine ⟨a,c,l,rfl,⟨a,c,rfl,fun h0=>?_⟩,hl,fun i hi=>?_⟩
 ·obtain ⟨b,off,rfl,hb,hcell⟩:=hc h0
  refine ⟨b,off,rfl,hb,fun q=>q,fun i hi=>?_⟩
  obtain ⟨cs,⟨rfl,_⟩,h2⟩:=hcell i _ (key i hi)
  exact ⟨h2 0 (by omega),h2 1 (by omega)⟩
 ·obtain ⟨b,off,rfl,hb,hcell⟩:=hc (by omega)
  obtain ⟨cs,⟨_,h1,h2⟩,_⟩:=hcell i _ (key i hi)
  exact ⟨h1,h2⟩
theorem op_dom {fuel:Nat} {cs:List Value} {x:DataW H × List MemPlace} (h:DataW.trod enc Tryz.prog W 0 (fun _=>true) true fuel 37 cs=some x) (lt0:∀ z∈x.2,z.block<W.heap.size) (hsz:SzW 37 x.1) :
  ∃ d:MD,Dc (fun _=>False) W cs d∧Dm.FitsR d.r∧SzD d:=by
 obtain ⟨xs,n,_,hx,hl,hlen,hf⟩:=DataW.trod_struct Tryz.underlying37 h
 have e37:Tryz.prog.cellsOf 37=6:=by kernel_rfl
 have e4:Tryz.prog.cellsOf 4=1:=by kernel_rfl
 have e3:Tryz.prog.cellsOf 3=1:=by kernel_rfl
 have e34:Tryz.prog.cellsOf 34=1:=by kernel_rfl
 have e35:Tryz.prog.cellsOf 35=1:=by kernel_rfl
 rw [e37] at hl
 match xs,hlen,cs,hl with
 | [y0,y1,y2,y3,y4,y5],_,[c0,c1,c2,c3,c4,c5],_ =>
  have g0:=hf 0 _ rfl
  have g1:=hf 1 _ rfl
  have g2:=hf 2 _ rfl
  have g3:=hf 3 _ rfl
  have g4:=hf 4 _ rfl
  have g5:=hf 5 _ rfl
  simp [e4,e3,e34,e35] at g0 g1 g2 g3 g4 g5
  obtain ⟨b,hb,_⟩:=DataW.trod_bool Tryz.underlying4 g0
  obtain ⟨k4,hk4,_,_⟩:=DataW.trod_int Tryz.underlying3 g4
  obtain ⟨k5,hk5,_,_⟩:=DataW.trod_int Tryz.underlying3 g5
  simp at hb hk4 hk5
  subst hb;subst hk4;subst hk5
  have hz:∀ q,q∈DataW.weightsEach Tryz.prog [4,34,35,35,3,3] [y0.1,y1.1,y2.1,y3.1,y4.1,y5.1]→q≤reachBytes:=by
   intro q hq
   refine hsz q ?_
   rw [hx]
   simp only [DataW.weights,Tryz.underlying37]
   exact hq
  obtain ⟨ra,rc,r,rfl,hr,hr2,hr3⟩:=op_rngs g1 (fun z hz=>lt0 z (by rw [hx];simp [hz])) (sz_each 1 hz rfl rfl)
  obtain ⟨a1,c1,l1,rfl,hl1,hl2,_⟩:=op_nums g2 (fun z hz=>lt0 z (by rw [hx];simp [hz])) (sz_each 2 hz rfl rfl)
  obtain ⟨a2,c2,u1,rfl,hu1,hu2,_⟩:=op_nums g3 (fun z hz=>lt0 z (by rw [hx];simp [hz])) (sz_each 3 hz rfl rfl)
  exact ⟨⟨b,r,l1,u1,k4,k5⟩,⟨ra,rc,a1,c1,a2,c2,rfl,hr,hl1,hu1⟩,hr3,⟨hl2,hu2,hr2⟩⟩
theorem op_doms {fuel:Nat} {v:Value} {x:DataW H × List MemPlace} (h:DataW.trod enc Tryz.prog W 0 (fun _=>true) true fuel 22 [v]=some x) (lt0:∀ z∈x.2,z.block<W.heap.size) (hsz:SzW 22 x.1) :
  ∃ (a:Option Addr) (c:Nat) (D:List MD),v = .slice a D.length c∧Ds W v D∧D.length*96≤140737488351232∧∀ d∈D,Dm.FitsR d.r∧SzD d:=by
 obtain ⟨a,c,D,rfl,hl,_,_,hc⟩:=op_slice (α:=MD) (R:=fun cs d=>Dc (fun _=>False) W cs d∧Dm.FitsR d.r∧SzD d) (k:=6) (by_:=96) Tryz.underlying22 (by kernel_rfl) (by kernel_rfl) (by omega)
  (fun fuel cs y hy hlt hs=>op_dom hy hlt hs) h lt0 hsz
 refine ⟨a,c,D,rfl,⟨a,c,rfl,fun h0=>?_⟩,hl,fun d hd=>?_⟩
 ·obtain ⟨b,off,rfl,hb,hcell⟩:=hc h0
  refine ⟨b,off,rfl,hb,fun i d hd=>?_⟩
  obtain ⟨cs,⟨h1,_⟩,h2⟩:=hcell i d hd
  match cs,h1.len with
  | [c0,c1,c2,c3,c4,c5],_=>exact ⟨c0,c1,c2,c3,c4,c5,h1,h2 0 (by omega),h2 1 (by omega),h2 2 (by omega),h2 3 (by omega),h2 4 (by omega),h2 5 (by omega)⟩
 ·obtain ⟨i,hi⟩:=List.mem_iff_getElem?.1 hd
  obtain ⟨b,off,rfl,hb,hcell⟩:=hc (by have:=(List.getElem?_eq_some_iff.1 hi).1;omega)
  obtain ⟨cs,⟨_,h1⟩,_⟩:=hcell i d hi
  exact h1
theorem op_op {fuel:Nat} {cs:List Value} {x:DataW H × List MemPlace} (h:DataW.trod enc Tryz.prog W 0 (fun _=>true) true fuel 40 cs=some x) (lt0:∀ z∈x.2,z.block<W.heap.size) (hsz:SzW 40 x.1) :
  ∃ q:Int × Int × MD,∃ ds:List Value,cs = .int .i64 q.1 :: .int .i64 q.2.1 :: ds∧Dc (fun _=>False) W ds q.2.2∧Dm.FitsR q.2.2.r∧SzD q.2.2:=by
 obtain ⟨xs,n,_,hx,hl,hlen,hf⟩:=DataW.trod_struct Tryz.underlying40 h
 have e40:Tryz.prog.cellsOf 40=8:=by kernel_rfl
 have e37:Tryz.prog.cellsOf 37=6:=by kernel_rfl
 have e3:Tryz.prog.cellsOf 3=1:=by kernel_rfl
 rw [e40] at hl
 match xs,hlen,cs,hl with
 | [y0,y1,y2],_,[c0,c1,c2,c3,c4,c5,c6,c7],_ =>
  have g0:=hf 0 _ rfl
  have g1:=hf 1 _ rfl
  have g2:=hf 2 _ rfl
  simp [e3,e37] at g0 g1 g2
  obtain ⟨k0,hk0,_,_⟩:=DataW.trod_int Tryz.underlying3 g0
  obtain ⟨k1,hk1,_,_⟩:=DataW.trod_int Tryz.underlying3 g1
  simp at hk0 hk1
  subst hk0;subst hk1
  have hz:∀ q,q∈DataW.weightsEach Tryz.prog [3,3,37] [y0.1,y1.1,y2.1]→q≤reachBytes:=by
   intro q hq
   refine hsz q ?_
   rw [hx]
   simp only [DataW.weights,Tryz.underlying40]
   exact hq
  obtain ⟨d,h1,h2,h3⟩:=op_dom g2 (fun z hz=>lt0 z (by rw [hx];simp [hz])) (sz_each 2 hz rfl rfl)
  exact ⟨(k0,k1,d),[c2,c3,c4,c5,c6,c7],rfl,h1,h2,h3⟩
theorem op_script {fuel:Nat} {v:Value} {x:DataW H × List MemPlace} (h:DataW.trod enc Tryz.prog W 0 (fun _=>true) true fuel 23 [v]=some x) (lt0:∀ z∈x.2,z.block<W.heap.size) (hsz:SzW 23 x.1) :
  ∃ (a:Option Addr) (c:Nat) (S:List (Int × Int × MD)),v = .slice a S.length c∧Scr2 W v S∧∀ q∈S,Dm.FitsR q.2.2.r∧SzD q.2.2:=by
 obtain ⟨a,c,S,rfl,_,_,_,hc⟩:=op_slice (α:=Int × Int × MD) (R:=fun cs q=>∃ ds:List Value,cs = .int .i64 q.1 :: .int .i64 q.2.1 :: ds∧Dc (fun _=>False) W ds q.2.2∧Dm.FitsR q.2.2.r∧SzD q.2.2) (k:=8) (by_:=112) Tryz.underlying23 (by kernel_rfl) (by kernel_rfl) (by omega)
  (fun fuel cs y hy hlt hs=>op_op hy hlt hs) h lt0 hsz
 refine ⟨a,c,S,rfl,⟨a,c,rfl,fun h0=>?_⟩,fun d hd=>?_⟩
 ·obtain ⟨b,off,rfl,hb,hcell⟩:=hc h0
  refine ⟨b,off,rfl,hb,fun i kd v d hd=>?_⟩
  obtain ⟨cs,⟨ds,rfl,h1,_⟩,h2⟩:=hcell i (kd,v,d) hd
  match ds,h1.len with
  | [c0,c1,c2,c3,c4,c5],_=>exact ⟨c0,c1,c2,c3,c4,c5,h1,h2 0 (by omega),h2 1 (by omega),h2 2 (by omega),h2 3 (by omega),h2 4 (by omega),h2 5 (by omega),h2 6 (by omega),h2 7 (by omega)⟩
 ·obtain ⟨i,hi⟩:=List.mem_iff_getElem?.1 hd
  obtain ⟨b,off,rfl,hb,hcell⟩:=hc (by have:=(List.getElem?_eq_some_iff.1 hi).1;omega)
  obtain ⟨cs,⟨_,_,_,h1⟩,_⟩:=hcell i d hi
  exact h1
end
end Go.Proofs.YtghnfnieppfhgaaGreat
