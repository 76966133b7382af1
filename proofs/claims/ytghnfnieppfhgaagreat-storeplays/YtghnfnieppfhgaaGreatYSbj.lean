/- What is proved here: what sets.shared tells of any two sets. What is proved here: what sets.picked, Less and Meet answer of any sets. -/
import Derived.Test.YtghnfnieppfhgaaGreatYSa
import Derived.Test.YtghnfnieppfhgaaGreatYSh
import Derived.Deep.MidRow
import Derived.Laws.Rows
import Derived.Laws.Tables
import Derived.Laws.CopyOwn
set_option linter.unusedVariables false
set_option linter.unusedSimpArgs false
set_option maxRecDepth 100000
set_option maxHeartbeats 2000000
namespace Go.Proofs.YtghnfnieppfhgaaGreat.St
open Go.RowKit Go.Shelf
theorem Tryz.info131:(Tryz.prog.info? 131).map (fun i=>(i.zero,i.size))=some (some (.agg (Array.replicate 64 (.bool false))),64):=by kernel_rfl
theorem Tryz.size131:(Tryz.prog.info? 131).map (·.size)=some 64:=by kernel_rfl
def bits64 (f:Nat→Bool):Array Value:=((List.range 64).map fun j=>Value.bool (f j)).toArray
theorem bits64_size (f:Nat→Bool):(bits64 f).size=64:=by simp [bits64]
theorem bits64_get (f:Nat→Bool) (k:Nat) (h:k<64):(bits64 f)[k]? = some (.bool (f k)):=by simp [bits64,h]
theorem bits64_set (f:Nat→Bool) (k:Nat) (c:Bool):(bits64 f).setIfInBounds k (.bool c)=bits64 (fun j=>if j=k then c else f j):=by
 apply Array.ext_getElem?
 intro j
 by_cases hj:j<64
 ·rw [bits64_get _ j hj,Array.getElem?_setIfInBounds]
  by_cases h:k=j
  ·subst h;simp [bits64_size,hj]
  ·rw [if_neg h,bits64_get _ j hj,if_neg (fun e=>h e.symm)]
 ·rw [Array.getElem?_eq_none (by simp [bits64_size];omega),Array.getElem?_eq_none (by simp [bits64_size];omega)]
theorem bits64_congr {f g:Nat→Bool} (h:∀ j,j<64→f j=g j):bits64 f=bits64 g:=by
 unfold bits64
 congr 1
 exact List.map_congr_left fun j hj=>by rw [h j (List.mem_range.1 hj)]
theorem bits64_zero:bits64 (fun _=>false)=Array.replicate 64 (.bool false):=by
 apply Array.ext_getElem?
 intro j
 by_cases hj:j<64
 ·rw [bits64_get _ j hj];simp [hj]
 ·rw [Array.getElem?_eq_none (by simp [bits64_size];omega),Array.getElem?_eq_none (by simp;omega)]
theorem bits64_one (f:Nat→Bool):(bits64 f).all (·.oneCell')=true:=by
 rw [Array.all_eq_true_iff_forall_mem]
 intro v hv
 unfold bits64 at hv
 simp only [List.mem_toArray,List.mem_map] at hv
 obtain ⟨j,_,rfl⟩:=hv
 rfl
def sharedF (a b:List Int) (k:Nat) (j:Nat):Bool:=decide (j<k)&&b.contains (nth a j)
theorem row_set {W:World} {A:Nat} {cur:Array Value} {t:TypeId} (h:W.heap[A]? = some (.cells cur t (0,0))) (q:Nat) (v:Value):(W.setCell ⟨A,q,none⟩ v).heap[A]? = some (.cells (cur.setIfInBounds q v) t (0,0)):=by
 obtain ⟨hlt,hk⟩:=Array.getElem?_eq_some_iff.1 h
 show (W.heap.modify A _)[A]? = _
 rw [Array.getElem?_eq_getElem (by rw [Array.size_modify];exact hlt),Array.getElem_modify_self,hk]
 rfl
theorem set_sorted {l:List Int} (h:IsSet l):l.Pairwise (·≤·):=by
 have key:∀ i j,i<j→j<l.length→nth l i<nth l j:=by
  intro i j hij
  induction j with
  | zero=>omega
  | succ j ih =>
   intro hj
   have h1:=(h.2 (j+1) hj).2.2 (by omega)
   simp only [Nat.add_sub_cancel] at h1
   by_cases e:i=j
   ·subst e;exact h1
   ·have:=ih (by omega) (by omega);omega
 rw [List.pairwise_iff_getElem]
 intro i j hi hj hij
 have:=key i j hij hj
 simp only [nth,List.getD_eq_getElem?_getD,List.getElem?_eq_getElem hi,List.getElem?_eq_getElem hj,Option.getD_some] at this
 omega
theorem search_none (a:Option Addr) (c:Nat) (x:Int) (w:World) :
  Calls Tryz.prog 127 #[.slice a 0 c,.int .i64 x] w fun e w'=>e = .returned (.tuple #[.int .i64 0,.bool false])∧∃ q,w'=w.drewN q:=by
 go_enter Tryz.func127,Tryz.ntmps127
 go_wp2
 go_loopw [7,8] (fun i j wr=>i = .int .i64 0∧j = .int .i64 0∧∃ m,wr=w.drewN m) (fun _ _ _=>0)
 case atStart=>exact ⟨rfl,rfl,0,rfl⟩
 case round =>
  obtain ⟨rfl,rfl,m,rfl⟩:=hrel
  go_wp2
  go_ret2
  exact ⟨rfl,_,rfl⟩
theorem nth_getD (l:List Int) (j:Nat):l.getD j 0=nth l j:=rfl
theorem search_any (s:Value) (l:List Int) (x:Int) (w:World) (h:Si w s l) (hR:IsSet l) :
  Calls Tryz.prog 127 #[s,.int .i64 x] w fun e w'=>∃ i,e = .returned (.tuple #[.int .i64 i,.bool (l.contains x)])∧∃ q,w'=w.drewN q:=by
 obtain ⟨a,cap,rfl,hc⟩:=h
 by_cases h0:0<l.length
 ·obtain ⟨b,off,rfl,hb,hcell⟩:=hc h0
  have:=AnyG.slices_BinarySearch_int Tryz.laysSearch b off l.length cap l x w (Nat.le_refl _) (by have:=hR.1;omega) (fun j hj=>by rw [nth_getD];exact hcell j hj) (by rw [List.take_length];exact set_sorted hR)
  rw [List.take_length] at this
  exact this.mono fun e w' ⟨he,hw⟩=>⟨_,he,hw⟩
 ·have e0:l.length=0:=by omega
  have:l=[]:=List.length_eq_zero_iff.1 e0
  subst this
  exact (search_none a cap x w).mono fun e w' ⟨he,hw⟩=>⟨0,he,hw⟩
theorem shared_any (s1 s2:Value) (a b:List Int) (W:World) (h1:Si W s1 a) (h2:Si W s2 b) (ha:IsSet a) (hb:IsSet b) :
  Calls Tryz.prog 124 #[s1,s2] W fun e w'=>e = .returned (.agg (bits64 (sharedF a b a.length)))∧Below W.heap.size W w':=by
 have hsr:=fun X (hX:Below W.heap.size W X) x=>search_any s2 b x X (h2.below hX) hb
 have hlen:=ha.1
 obtain ⟨a1,c1,rfl,hc1⟩:=h1
 obtain ⟨a2,c2,rfl,_⟩:=h2
 obtain ⟨n,hn⟩:∃ n,a.length=n:=⟨_,rfl⟩
 have HN:Hid (a.length=n):=hn
 rw [hn] at hc1 hlen ⊢
 have HC:Hid _:=hc1
 obtain ⟨hz,hzs⟩:=zero_of_info Tryz.info131
 rw [←bits64_zero] at hz
 obtain ⟨Z,hZ⟩:∃ Z:Array Value,bits64 (fun _=>false)=Z:=⟨_,rfl⟩
 rw [hZ] at hz
 have HZ:Hid (bits64 (fun _=>false)=Z):=hZ
 have hR1:((W.alloc (Obj.cells Z 131)).alloc (Obj.cells Z 131)).heap[W.heap.size]? = some (.cells Z 131 (0,0)):=(Below.heap_alloc _ _ _ (by simp)).trans (World.alloc_heap_new W _)
 have hR2:((W.alloc (Obj.cells Z 131)).alloc (Obj.cells Z 131)).heap[W.heap.size+1]? = some (.cells Z 131 (0,0)):=by
  have:=World.alloc_heap_new (W.alloc (Obj.cells Z 131)) (Obj.cells Z 131);rwa [World.size_alloc] at this
 have hB0:Below W.heap.size W ((W.alloc (Obj.cells Z 131)).alloc (Obj.cells Z 131)):=((Below.refl _ W).alloc (Nat.le_refl _) _).alloc (by simp) _
 have HR1:Hid _:=hR1
 have HR2:Hid _:=hR2
 clear hn hc1 hZ hzs ha hb hR1 hR2
 go_enter Tryz.func124,Tryz.ntmps124
 go_wp2
 go_loopw [10] (fun i wr=>∃ k:Nat,k≤n∧i = .int .i64 k∧Hid (wr.heap[W.heap.size]? = some (.cells Z 131 (0,0)))∧Hid (wr.heap[W.heap.size+1]? = some (.cells (bits64 (sharedF a b k)) 131 (0,0)))∧Below W.heap.size W wr) (fun i _=>n-(intOf i).toNat)
 case atStart=>exact ⟨0,Nat.zero_le _,rfl,HR1.out,by unfold Hid;rw [HR2.out,←HZ.out,bits64_congr (f:=fun _=>false) (g:=sharedF a b 0) (fun j hj=>by simp [sharedF])],hB0⟩
 case round =>
  obtain ⟨k,hk,rfl,H1,H2,hB⟩:=hrel
  clear HR1 HR2 hB0
  by_cases hlt:k<n
  ·obtain ⟨b1,off,rfl,hb1,hcell⟩:=HC.out (by omega)
   have d1:=(hB.cell (p:=⟨b1,off+k,none⟩) hb1).trans (hcell k hlt)
   have hlt':(k:Int)<(n:Int):=by omega
   obtain ⟨x,hx⟩:∃ x,nth a k=x:=⟨_,rfl⟩
   have HX:Hid (nth a k=x):=hx
   rw [hx] at d1
   clear hcell hx
   have hs:=hsr wr hB x
   go_wp2_with fail
   refine hs.mono ?_
   rintro e w2 ⟨i,rfl,q,hw2⟩
   have hB2:Below W.heap.size W w2:=by rw [hw2];exact below_drewN hB q
   have H12:Hid (w2.heap[W.heap.size]? = some (.cells Z 131 (0,0))):=by rw [hw2];exact H1.out
   have H22:Hid (w2.heap[W.heap.size+1]? = some (.cells (bits64 (sharedF a b k)) 131 (0,0))):=by rw [hw2];exact H2.out
   have hk64:k<64:=by omega
   have c1:w2.cell? ⟨W.heap.size+1,k,none⟩=some (.bool (sharedF a b k k)):=by simp only [World.cell?,H22.out];rw [if_neg (by simp)];exact bits64_get _ k hk64
   have f1:w2.frozen? ⟨W.heap.size+1,k,none⟩=false:=by simp [World.frozen?,H22.out]
   have hk64':(k:Int)<64:=by omega
   clear hs hw2 H1 H2 hB
   go_wp2
   go_roundw
   case rel =>
    refine ⟨k+1,by omega,by go_num,?_,?_,hB2.setCell (p:=⟨W.heap.size+1,k,none⟩) (by show W.heap.size≤W.heap.size+1;omega) _⟩
    ·unfold Hid
     rw [heap_setCell_other _ _ _ _ (by simp)]
     exact H12.out
    ·unfold Hid
     rw [row_set H22.out,bits64_set]
     congr 2
     refine bits64_congr fun j hj=>?_
     unfold sharedF
     by_cases e:j=k
     ·subst e;simp [HX.out]
     ·rw [if_neg e]
      congr 1
      simp only [decide_eq_decide];omega
   case measure=>simp [intOf];omega
  ·obtain rfl:k=n:=by omega
   have hlt':¬(k:Int)<(k:Int):=by omega
   have hsz:=bits64_size (sharedF a b k)
   have hone:=bits64_one (sharedF a b k)
   obtain ⟨T,hT⟩:∃ T,bits64 (sharedF a b k)=T:=⟨_,rfl⟩
   rw [hT] at H2 hsz hone
   have HT:Hid (bits64 (sharedF a b k)=T):=hT
   have hzz:Z.size=64:=by rw [←HZ.out];exact bits64_size _
   have hs62:(Tryz.prog.info? 131).map (·.size)=some T.size:=by rw [Tryz.size131,hsz]
   have HS62:Hid ((Tryz.prog.info? 131).map (·.size)=some T.size):=hs62
   have HZT:Hid (Z.size=T.size∧T.all (·.oneCell')=true):=⟨by rw [hzz,hsz],hone⟩
   have hB9:Below W.heap.size W (wr.setRow W.heap.size T):=below_setRow hB (Nat.le_refl _) T
   have H9:Hid ((wr.setRow W.heap.size T).heap[W.heap.size]? = some (.cells T 131 (0,0))):=setRow_heap wr W.heap.size Z T 131 (0,0) H1.out
   have HSZ:Hid (T.size=64):=hsz
   clear hsz hone hzz hT hs62
   go_wp2_with (first | (with_reducible refine wpList_load_row rfl 131 (.tmp 5) rfl (W.heap.size+1) (by with_unfolding_all rfl) 131 T (0,0) _ H2.out Tryz.underlying131 rfl HS62.out ?_) | (with_reducible refine wpList_store_row rfl 131 (.tmp 4) (.tmp 24) rfl W.heap.size T (by with_unfolding_all rfl) (by with_unfolding_all rfl) 131 Z H1.out HS62.out HZT.out.1 HZT.out.2 ?_))
   refine ⟨rfl,.agg T,?_,by rw [HT.out],hB9⟩
   exact results_cell_row (P:=Tryz.prog) rfl _ _ W.heap.size 131 T (0,0) _ rfl H9.out Tryz.underlying131 rfl HS62.out
theorem Tryz.info133:(Tryz.prog.info? 133).map (fun i=>(i.zero,i.size))=some (some (.agg (Array.replicate 64 (.int .i64 0))),64):=by kernel_rfl
def rowI (xs:List Int):Array Value:=((List.range 64).map fun j=>Value.int .i64 (nth xs j)).toArray
theorem rowI_size (xs:List Int):(rowI xs).size=64:=by simp [rowI]
theorem rowI_get (xs:List Int) (k:Nat) (h:k<64):(rowI xs)[k]? = some (.int .i64 (nth xs k)):=by simp [rowI,h]
theorem rowI_nil:rowI []=Array.replicate 64 (.int .i64 0):=by
 apply Array.ext_getElem?
 intro j
 by_cases hj:j<64
 ·rw [rowI_get _ j hj];simp [hj,nth]
 ·rw [Array.getElem?_eq_none (by simp [rowI_size];omega),Array.getElem?_eq_none (by simp;omega)]
theorem rowI_snoc (xs:List Int) (v:Int):(rowI xs).setIfInBounds xs.length (.int .i64 v)=rowI (xs++[v]):=by
 apply Array.ext_getElem?
 intro j
 by_cases hj:j<64
 ·rw [rowI_get _ j hj,Array.getElem?_setIfInBounds]
  by_cases h:xs.length=j
  ·subst h;simp [rowI_size,hj,nth]
  ·rw [if_neg h,rowI_get _ j hj]
   congr 2
   unfold nth
   simp only [List.getD_eq_getElem?_getD]
   by_cases hl:j<xs.length
   ·rw [List.getElem?_append_left hl]
   ·rw [List.getElem?_eq_none (by omega),List.getElem?_eq_none (by simp;omega)]
 ·rw [Array.getElem?_eq_none (by simp [rowI_size];omega),Array.getElem?_eq_none (by simp [rowI_size];omega)]
def pickL (l:List Int) (f:Nat→Bool) (wanted:Bool) (k:Nat):List Int:=((List.range k).filter fun j=>f j==wanted).map (nth l)
theorem pickL_succ (l:List Int) (f:Nat→Bool) (wanted:Bool) (k:Nat):pickL l f wanted (k+1)=pickL l f wanted k++(if f k==wanted then [nth l k] else []):=by
 unfold pickL
 rw [List.range_succ,List.filter_append,List.map_append]
 congr 1
 by_cases h:(f k==wanted)=true
 ·simp [List.filter_cons,h]
 ·simp [List.filter_cons,h]
def Fresh (B:Nat) (W:World) (s:Value) (l:List Int):Prop :=
 ∃ A off cap cur t,s = .slice (some ⟨A,off,none⟩) l.length cap∧B≤A∧A<W.heap.size∧W.heap[A]? = some (.cells cur t (0,0))∧∀ i,i<l.length→cur[off+i]? = some (.int .i64 (nth l i))
theorem Fresh.si {B:Nat} {W:World} {s:Value} {l:List Int} (h:Fresh B W s l):Si W s l:=by
 obtain ⟨A,off,cap,cur,t,rfl,hB,hA,hh,hc⟩:=h
 refine ⟨_,cap,rfl,fun _=>⟨A,off,rfl,hA,fun i hi=>?_⟩⟩
 simp only [World.cell?,hh]
 rw [if_neg (by simp)]
 exact hc i hi
theorem picked_any (s:Value) (l:List Int) (f:Nat→Bool) (wanted:Bool) (W:World) (h:Si W s l) (hlen:l.length≤64) :
  Calls Tryz.prog 123 #[s,.agg (bits64 f),.bool wanted] W fun e w'=>∃ v,e = .returned v∧Fresh W.heap.size w' v (pickL l f wanted l.length)∧Below W.heap.size W w':=by
 obtain ⟨a1,c1,rfl,hc1⟩:=h
 obtain ⟨n,hn⟩:∃ n,l.length=n:=⟨_,rfl⟩
 have HN:Hid (l.length=n):=hn
 rw [hn] at hc1 hlen ⊢
 have HC:Hid _:=hc1
 obtain ⟨hz,hzs⟩:=zero_of_info Tryz.info133
 rw [←rowI_nil] at hz
 obtain ⟨Z,hZ⟩:∃ Z:Array Value,rowI []=Z:=⟨_,rfl⟩
 rw [hZ] at hz
 have HZ:Hid (rowI []=Z):=hZ
 have hone:=bits64_one f
 have hget:=bits64_get f
 obtain ⟨F,hF⟩:∃ F,bits64 f=F:=⟨_,rfl⟩
 rw [hF] at hone hget ⊢
 have HG:Hid _:=hget
 clear hn hc1 hZ hzs hget hF
 go_enter Tryz.func123,Tryz.ntmps123
 go_wp2
 have hB0:Below W.heap.size W ((W.alloc (Obj.cells F 131)).alloc (Obj.cells Z 133)):=((Below.refl _ W).alloc (Nat.le_refl _) _).alloc (by simp) _
 have HR1:Hid (((W.alloc (Obj.cells F 131)).alloc (Obj.cells Z 133)).heap[W.heap.size]? = some (.cells F 131 (0,0))):=(Below.heap_alloc _ _ _ (by simp)).trans (World.alloc_heap_new W _)
 have HR2:Hid (((W.alloc (Obj.cells F 131)).alloc (Obj.cells Z 133)).heap[W.heap.size+1]? = some (.cells Z 133 (0,0))):=by
  have:=World.alloc_heap_new (W.alloc (Obj.cells F 131)) (Obj.cells Z 133);rwa [World.size_alloc] at this
 go_loopw [8,13] (fun c i wr=>∃ k q:Nat,k≤n∧i = .int .i64 k∧c = .int .i64 q∧q≤k∧Hid (q=(pickL l f wanted k).length)∧Hid (wr.heap[W.heap.size]? = some (.cells F 131 (0,0)))∧Hid (wr.heap[W.heap.size+1]? = some (.cells (rowI (pickL l f wanted k)) 133 (0,0)))∧Below W.heap.size W wr) (fun _ i _=>n-(intOf i).toNat)
 case atStart=>exact ⟨0,0,Nat.zero_le _,rfl,rfl,Nat.le_refl _,rfl,HR1.out,by unfold Hid;rw [HR2.out,←HZ.out];rfl,hB0⟩
 case round =>
  obtain ⟨k,q,hk,rfl,rfl,hqk,HQ,H1,H2,hB⟩:=hrel
  clear HR1 HR2 hB0
  by_cases hlt:k<n
  ·obtain ⟨b1,off,rfl,hb1,hcell⟩:=HC.out (by omega)
   have d1:=(hB.cell (p:=⟨b1,off+k,none⟩) hb1).trans (hcell k hlt)
   have hlt':(k:Int)<(n:Int):=by omega
   obtain ⟨x,hx⟩:∃ x,nth l k=x:=⟨_,rfl⟩
   have HX:Hid (nth l k=x):=hx
   rw [hx] at d1
   clear hcell hx
   have hk64:k<64:=by omega
   have hk64':(k:Int)<64:=by omega
   have hq64':(q:Int)<64:=by omega
   have c1:wr.cell? ⟨W.heap.size,k,none⟩=some (.bool (f k)):=by simp only [World.cell?,H1.out];rw [if_neg (by simp)];exact HG.out k hk64
   have c2:wr.cell? ⟨W.heap.size+1,q,none⟩=some (.int .i64 (nth (pickL l f wanted k) q)):=by simp only [World.cell?,H2.out];rw [if_neg (by simp)];exact rowI_get _ q (by omega)
   have f2:wr.frozen? ⟨W.heap.size+1,q,none⟩=false:=by simp [World.frozen?,H2.out]
   have HS:=pickL_succ l f wanted k
   have HSS:Hid (pickL l f wanted (k+1)=pickL l f wanted k++(if f k==wanted then [nth l k] else [])):=HS
   obtain ⟨y,hy⟩:∃ y,nth (pickL l f wanted k) q=y:=⟨_,rfl⟩
   rw [hy] at c2
   clear HS hy
   obtain ⟨fk,hfk⟩:∃ fk,f k=fk:=⟨_,rfl⟩
   rw [hfk] at c1 HSS
   clear hfk
   by_cases he:fk=wanted
   ·subst he
    rw [if_pos (by simp)] at HSS
    go_wp2
    go_roundw
    case rel =>
     refine ⟨k+1,q+1,by omega,by go_num,by go_num,by omega,?_,?_,?_,hB.setCell (p:=⟨W.heap.size+1,q,none⟩) (by show W.heap.size≤W.heap.size+1;omega) _⟩
     ·unfold Hid;rw [HSS.out,List.length_append,←HQ.out];rfl
     ·unfold Hid;rw [heap_setCell_other _ _ _ _ (by simp)];exact H1.out
     ·unfold Hid;rw [row_set H2.out,HQ.out,rowI_snoc,HSS.out,HX.out]
    case measure=>simp [intOf];omega
   ·rw [if_neg (by simpa using he)] at HSS
    have he1:(fk==wanted)=false:=by simpa using he
    go_wp2
    go_roundw
    case rel =>
     refine ⟨k+1,q,by omega,by go_num,rfl,by omega,?_,H1.out,?_,hB⟩
     ·unfold Hid;rw [HSS.out,List.append_nil];exact HQ.out
     ·unfold Hid;rw [HSS.out,List.append_nil];exact H2.out
    case measure=>simp [intOf];omega
  ·obtain rfl:k=n:=by omega
   have hlt':¬(k:Int)<(k:Int):=by omega
   have hq64:q≤64:=by omega
   have hq64':(q:Int)≤64:=by omega
   go_wp2
   go_ret
   refine ⟨_,rfl,⟨W.heap.size+1,0,q,_,133,by rw [←HQ.out];rfl,by omega,?_,H2.out,fun i hi=>?_⟩,hB⟩
   ·exact (Array.getElem?_eq_some_iff.1 H2.out).1
   ·rw [Nat.zero_add];exact rowI_get _ i (by rw [←HQ.out] at hi;omega)
def lessL (a b:List Int):List Int:=a.filter fun x=>!b.contains x
def meetL (a b:List Int):List Int:=a.filter fun x=>b.contains x
theorem list_nth (a:List Int):(List.range a.length).map (nth a)=a:=by
 refine List.ext_getElem? fun i=>?_
 by_cases h:i<a.length
 ·simp [h,nth]
 ·rw [List.getElem?_eq_none (by simp;omega),List.getElem?_eq_none (by omega)]
theorem pickL_filter (a b:List Int) (w:Bool):pickL a (sharedF a b a.length) w a.length=a.filter fun x=>b.contains x==w:=by
 have e:a.filter (fun x=>b.contains x==w)=((List.range a.length).map (nth a)).filter (fun x=>b.contains x==w):=by rw [list_nth]
 rw [e,List.filter_map]
 unfold pickL
 congr 1
 refine List.filter_congr fun j hj=>?_
 have:=List.mem_range.1 hj
 simp [sharedF,this]
theorem lessL_is (a b:List Int):pickL a (sharedF a b a.length) false a.length=lessL a b:=by
 rw [pickL_filter];unfold lessL
 refine List.filter_congr fun x _=>?_
 cases b.contains x<;>rfl
theorem meetL_is (a b:List Int):pickL a (sharedF a b a.length) true a.length=meetL a b:=by
 rw [pickL_filter];unfold meetL
 refine List.filter_congr fun x _=>?_
 cases b.contains x<;>rfl
theorem less_any (s1 s2:Value) (a b:List Int) (W:World) (h1:Si W s1 a) (h2:Si W s2 b) :
  Calls Tryz.prog 111 #[s1,s2] W fun e w'=>∃ v,e = .returned v∧Fresh W.heap.size w' v (lessL (tkS a) (tkS b))∧Below W.heap.size W w':=by
 have hk1:=known_any s1 a W h1
 have hk2:=fun X (hX:Below W.heap.size W X)=>known_any s2 b X (h2.below hX)
 have h1':=h1
 have h2':=h2
 obtain ⟨a1,c1,rfl,_⟩:=h1'
 obtain ⟨a2,c2,rfl,_⟩:=h2'
 clear h1 h2
 go_enter Tryz.func111,Tryz.ntmps111
 go_wp2_with fail
 refine hk1.mono ?_
 rintro e w1 ⟨a3,n3,c3,rfl,HS1,HN1,m1,rfl⟩
 have hB1:Below W.heap.size W (W.drewN m1):=below_drewN (Below.refl _ _) _
 have hS1:=HS1.out.below hB1
 have hk2':=hk2 _ hB1
 clear hk1 hk2
 go_wp2_with fail
 refine hk2'.mono ?_
 rintro e w2 ⟨a4,n4,c4,rfl,HS2,HN2,m2,rfl⟩
 have hB2:Below (W.drewN m1).heap.size (W.drewN m1) ((W.drewN m1).drewN m2):=below_drewN (Below.refl _ _) _
 have hB2':Below W.heap.size W ((W.drewN m1).drewN m2):=below_drewN hB1 _
 have hsh:=shared_any _ _ (tkS a) (tkS b) _ (hS1.below hB2) (HS2.out.below hB2) (tkS_set a) (tkS_set b)
 have hS1':=hS1.below hB2
 obtain ⟨X2,hX2⟩:∃ X,(W.drewN m1).drewN m2=X:=⟨_,rfl⟩
 have hsz:X2.heap.size=W.heap.size:=by rw [←hX2];rfl
 rw [hX2] at hsh hS1' hB2' ⊢
 clear hk2' hB1 hB2 hS1 hX2 HS1 HS2
 go_wp2_with fail
 refine hsh.mono ?_
 rintro e w3 ⟨rfl,hb3⟩
 have hp:=picked_any _ (tkS a) (sharedF (tkS a) (tkS b) (tkS a).length) false w3 (hS1'.below hb3) (tkS_set a).1
 rw [lessL_is] at hp
 have hB3:Below W.heap.size W w3:=hB2'.trans (hb3.mono hB2'.size)
 clear hsh hS1' hb3
 go_wp2_with fail
 refine hp.mono ?_
 rintro e w4 ⟨v,rfl,hF,hb4⟩
 obtain ⟨A,off,cap,cur,t,rfl,r⟩:=hF
 go_wp2
 go_ret
 refine ⟨_,rfl,⟨A,off,cap,cur,t,rfl,Nat.le_trans hB3.size r.1,r.2⟩,hB3.trans (hb4.mono hB3.size)⟩
theorem meet_any (s1 s2:Value) (a b:List Int) (W:World) (h1:Si W s1 a) (h2:Si W s2 b) :
  Calls Tryz.prog 113 #[s1,s2] W fun e w'=>∃ v,e = .returned v∧Fresh W.heap.size w' v (meetL (tkS a) (tkS b))∧Below W.heap.size W w':=by
 have hk1:=known_any s1 a W h1
 have hk2:=fun X (hX:Below W.heap.size W X)=>known_any s2 b X (h2.below hX)
 have h1':=h1
 have h2':=h2
 obtain ⟨a1,c1,rfl,_⟩:=h1'
 obtain ⟨a2,c2,rfl,_⟩:=h2'
 clear h1 h2
 go_enter Tryz.func113,Tryz.ntmps113
 go_wp2_with fail
 refine hk1.mono ?_
 rintro e w1 ⟨a3,n3,c3,rfl,HS1,HN1,m1,rfl⟩
 have hB1:Below W.heap.size W (W.drewN m1):=below_drewN (Below.refl _ _) _
 have hS1:=HS1.out.below hB1
 have hk2':=hk2 _ hB1
 clear hk1 hk2
 go_wp2_with fail
 refine hk2'.mono ?_
 rintro e w2 ⟨a4,n4,c4,rfl,HS2,HN2,m2,rfl⟩
 have hB2:Below (W.drewN m1).heap.size (W.drewN m1) ((W.drewN m1).drewN m2):=below_drewN (Below.refl _ _) _
 have hB2':Below W.heap.size W ((W.drewN m1).drewN m2):=below_drewN hB1 _
 have hsh:=shared_any _ _ (tkS a) (tkS b) _ (hS1.below hB2) (HS2.out.below hB2) (tkS_set a) (tkS_set b)
 have hS1':=hS1.below hB2
 obtain ⟨X2,hX2⟩:∃ X,(W.drewN m1).drewN m2=X:=⟨_,rfl⟩
 have hsz:X2.heap.size=W.heap.size:=by rw [←hX2];rfl
 rw [hX2] at hsh hS1' hB2' ⊢
 clear hk2' hB1 hB2 hS1 hX2 HS1 HS2
 go_wp2_with fail
 refine hsh.mono ?_
 rintro e w3 ⟨rfl,hb3⟩
 have hp:=picked_any _ (tkS a) (sharedF (tkS a) (tkS b) (tkS a).length) true w3 (hS1'.below hb3) (tkS_set a).1
 rw [meetL_is] at hp
 have hB3:Below W.heap.size W w3:=hB2'.trans (hb3.mono hB2'.size)
 clear hsh hS1' hb3
 go_wp2_with fail
 refine hp.mono ?_
 rintro e w4 ⟨v,rfl,hF,hb4⟩
 obtain ⟨A,off,cap,cur,t,rfl,r⟩:=hF
 go_wp2
 go_ret
 refine ⟨_,rfl,⟨A,off,cap,cur,t,rfl,Nat.le_trans hB3.size r.1,r.2⟩,hB3.trans (hb4.mono hB3.size)⟩
end Go.Proofs.YtghnfnieppfhgaaGreat.St
