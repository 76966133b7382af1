/- What is proved here: what dom.overlaps tells: what two lists of ranges have in common, rising. -/
import Derived.Test.YtghnfnieppfhgaaGreatZXdj
import Derived.Lib.MinMax
import Derived.Deep.RegionHeld3
import Derived.Sort.QuietIn
set_option linter.unusedSimpArgs false
set_option linter.unusedVariables false
set_option maxRecDepth 100000
set_option maxHeartbeats 8000000
namespace Go.Proofs.YtghnfnieppfhgaaGreat.Dm
open Go.RowKit Go.Shelf
attribute [local go_sem] Oper.semAt_some
theorem wp_calm {P:Program} {c:Code} {K:Act→World→Prop} {Q:Exit→Act→World→Prop} {a:Act} {w:World} (h:c.wp P (Exit.then K (fun _ _ _=>False)) a w):c.wp P (Exit.then K Q) a w :=
 Code.wp_mono (fun e a w h=>by cases e<;>first | exact h | exact (h:False).elim) h
theorem grown_drew (W:World):W.grownBy W.drew none:=⟨rfl,rfl,rfl,Nat.le_refl _,fun _ _ _=>rfl⟩
theorem grown_drewN (W:World) (n:Nat):W.grownBy (W.drewN n) none:=⟨rfl,rfl,rfl,Nat.le_refl _,fun _ _ _=>rfl⟩
theorem wp_one {P:Program} {c:Code} {K:Act→World→Prop} {a:Act} {w:World} (act:Act) (wld:World) (h:c.wp P (Exit.then (fun a' w'=>a'=act∧w'=wld) (fun _ _ _=>False)) a w) (hK:Exit.then K (fun _ _ _=>False) .normal act wld):c.wp P (Exit.then K (fun _ _ _=>False)) a w :=
 Code.wp_mono (fun e a w h=>by cases e<;>first | (obtain ⟨rfl,rfl⟩:=h;exact hK) | exact (h:False).elim) h
def Lists (n₀:Nat) (W:World) (B:Nat) (l:List Rg):Prop:=∃ s,B<n₀∧W.cell? ⟨B,0,none⟩=some s∧∃ a cap,s = .slice a l.length cap∧(0<l.length→∃ b off,a=some ⟨b,off,none⟩∧b<n₀∧∀ i,i<l.length→W.cell? ⟨b,off+i*2,none⟩=some (.int .i64 (lo l i))∧W.cell? ⟨b,off+i*2+1,none⟩=some (.int .i64 (hi l i)))
theorem Lists.below {n₀:Nat} {W W':World} {B:Nat} {l:List Rg} (h:Lists n₀ W B l) (hb:Below n₀ W W'):Lists n₀ W' B l:=by
 obtain ⟨s,h1,h2,a,cap,h3,h4⟩:=h
 refine ⟨s,h1,(hb.cell (p:=⟨B,0,none⟩) h1).trans h2,a,cap,h3,fun h0=>?_⟩
 obtain ⟨b,off,e,hlt,hc⟩:=h4 h0
 exact ⟨b,off,e,hlt,fun i hi=>⟨(hb.cell (p:=⟨b,off+i*2,none⟩) hlt).trans (hc i hi).1,(hb.cell (p:=⟨b,off+i*2+1,none⟩) hlt).trans (hc i hi).2⟩⟩
theorem ov_rok {a:List Rg} (ha:∀ i,i<a.length→-1000000≤lo a i∧hi a i≤1000000) {i:Nat} (h:i<a.length) (y1 y2:Int) (hle:max (lo a i) y1≤min (hi a i) y2):Rok (max (lo a i) y1,min (hi a i) y2):=by
 have:=ha i h
 refine ⟨?_,hle,?_⟩<;>dsimp only<;>omega
theorem ov1_yes (x1 x2 y1 y2:Int) (h:max x1 y1≤min x2 y2):ov1 (x1,x2) (y1,y2)=[(max x1 y1,min x2 y2)]:=by
 unfold ov1 mx mn
 simp only [←Int.max_def,←Int.min_def]
 rw [if_pos h]
theorem ov1_no (x1 x2 y1 y2:Int) (h:¬max x1 y1≤min x2 y2):ov1 (x1,x2) (y1,y2)=[]:=by
 unfold ov1 mx mn
 simp only [←Int.max_def,←Int.min_def]
 rw [if_neg h]
theorem overlaps1_in (n:Nat) (hn:1≤n) (lr A B n₀:Nat) (a b:List Rg) (ha:∀ i,i<a.length→-1000000≤lo a i∧hi a i≤1000000) (hla:a.length≤5000) (hlb:b.length≤5000) (J Jx:List RgOk→World→Prop)
  (hY:∀ pre x W,J pre W→pre.length<20000→YieldAt Fence.wide (n-1) Tryz.prog lr (encR x) W fun e W' =>
   (e = .returned (.bool true)∧J (pre++[x]) W'∧Below n₀ W W')∨(e = .returned (.bool false)∧Jx (pre++[x]) W'))
  (W:World) (hnW:n₀≤W.heap.size) (hJ:AbidesFrom W.heap.size J) (hA:Lists n₀ W A a) (hB:Lists n₀ W B b) (h0:J [] W) :
  CallsIn Fence.wide n Tryz.prog 126 #[.func (.yield lr) #[] #[],.pointer (some ⟨A,0,none⟩),.pointer (some ⟨B,0,none⟩)] W fun e W'=>(∃ v,e = .returned v) ∧
   ((∃ ys,ys.map (·.1)=ov a b∧J ys W')∨(∃ pre,(∃ r,pre.map (·.1)++r=ov a b)∧Jx pre W')):=by
 have hol:=ov_len a b
 have hJd:∀ pre W' m,J pre W'→J pre (W'.drewN m):=fun pre W' m h=>hJ _ _ _ none h (grown_drewN W' m) (fun r e=>by cases e)
 obtain ⟨na,hna⟩:∃ na,a.length=na:=⟨_,rfl⟩
 obtain ⟨nb,hnb⟩:∃ nb,b.length=nb:=⟨_,rfl⟩
 have HNA:Hid (a.length=na):=hna
 have HNB:Hid (b.length=nb):=hnb
 have HAB:Hid (∀ i,i<a.length→-1000000≤lo a i∧hi a i≤1000000):=ha
 have HA:Hid (Lists n₀ W A a):=hA
 have HB:Hid (Lists n₀ W B b):=hB
 rw [hna] at hla hol;rw [hnb] at hlb hol
 have HOL:Hid ((ov a b).length≤na+nb):=hol
 clear hna hnb ha hA hB hol
 refine callsIn_of_wp Tryz.func126 rfl trivial ?_ rfl
 simp only [Tryz.ntmps126,List.size_toArray,List.length_cons,List.length_nil,Nat.reduceAdd,Nat.reduceSub,Array.replicate_succ,Array.replicate_zero,List.push_toArray,List.append_toArray,List.nil_append,List.cons_append]
 gi_wp2
 gi_loopw [4,5] (fun vi vj wr=>∃ i j:Nat,i≤na∧j≤nb∧vi = .int .i64 i∧vj = .int .i64 j∧(∃ pre,ov a b=pre.map (·.1)++ovF a b i j∧J pre wr)∧Below n₀ W wr)
  (fun vi vj _=>(na-(intOf vi).toNat)+(nb-(intOf vj).toNat))
 case atStart=>exact ⟨0,0,Nat.zero_le _,Nat.zero_le _,rfl,rfl,⟨[],by simp [ov],h0⟩,Below.refl _ _⟩
 case round =>
  obtain ⟨i,j,hi',hj',rfl,rfl,⟨pre,hpre,hJp⟩,hBl⟩:=hrel
  have hsz:=hBl.size
  obtain ⟨sa,hA1,hA2,aa,ca,rfl,hA4⟩:=HA.out.below hBl
  obtain ⟨sb,hB1,hB2,ab,cb,rfl,hB4⟩:=HB.out.below hBl
  rw [HNA.out] at hA2 hA4
  rw [HNB.out] at hB2 hB4
  have HPRE:Hid (ov a b=pre.map (·.1)++ovF a b i j):=hpre
  clear hpre
  by_cases h1:i<na
  ·by_cases h2:j<nb
   ·obtain ⟨b1,o1,rfl,hb1,hc1⟩:=hA4 (by omega)
    obtain ⟨b2,o2,rfl,hb2,hc2⟩:=hB4 (by omega)
    obtain ⟨c1,c2⟩:=hc1 i h1
    obtain ⟨c3,c4⟩:=hc2 j h2
    have hov:=ovF_yes a b i j ⟨by rw [HNA.out];exact h1,by rw [HNB.out];exact h2⟩
    have hrk:=fun y1 y2=>ov_rok HAB.out (by rw [HNA.out];exact h1) y1 y2
    obtain ⟨x1,hx1⟩:∃ x,lo a i=x:=⟨_,rfl⟩
    obtain ⟨x2,hx2⟩:∃ x,hi a i=x:=⟨_,rfl⟩
    obtain ⟨y1,hy1⟩:∃ x,lo b j=x:=⟨_,rfl⟩
    obtain ⟨y2,hy2⟩:∃ x,hi b j=x:=⟨_,rfl⟩
    rw [hx1,hx2,hy1,hy2] at hov
    rw [hx1] at c1;rw [hx2] at c2;rw [hy1] at c3;rw [hy2] at c4
    rw [hx1,hx2] at hrk
    have HRK:Hid (max x1 y1≤min x2 y2→Rok (max x1 y1,min x2 y2)):=hrk y1 y2
    have HOV:Hid (ovF a b i j=ov1 (x1,x2) (y1,y2)++(if x2<y2 then ovF a b (i+1) j else ovF a b i (j+1))):=hov
    have HO1:Hid (max x1 y1≤min x2 y2→ov1 (x1,x2) (y1,y2)=[(max x1 y1,min x2 y2)]):=ov1_yes x1 x2 y1 y2
    have HO0:Hid (¬max x1 y1≤min x2 y2→ov1 (x1,x2) (y1,y2)=[]):=ov1_no x1 x2 y1 y2
    have h1':(i:Int)<(na:Int):=by omega
    have h2':(j:Int)<(nb:Int):=by omega
    clear hx1 hx2 hy1 hy2 hov hrk hc1 hc2 hA4 hB4
    have HK:∀ X,Below n₀ wr X→X.cell? ⟨A,0,none⟩=some (.slice (some ⟨b1,o1,none⟩) na ca)∧X.cell? ⟨B,0,none⟩=some (.slice (some ⟨b2,o2,none⟩) nb cb)∧X.cell? ⟨b1,o1+i*2,none⟩=some (.int .i64 x1)∧X.cell? ⟨b1,o1+i*2+1,none⟩=some (.int .i64 x2)∧X.cell? ⟨b2,o2+j*2,none⟩=some (.int .i64 y1)∧X.cell? ⟨b2,o2+j*2+1,none⟩=some (.int .i64 y2) :=
     fun X hX=>⟨(hX.cell (p:=⟨A,0,none⟩) hA1).trans hA2,(hX.cell (p:=⟨B,0,none⟩) hB1).trans hB2,(hX.cell (p:=⟨b1,o1+i*2,none⟩) hb1).trans c1,(hX.cell (p:=⟨b1,o1+i*2+1,none⟩) hb1).trans c2,(hX.cell (p:=⟨b2,o2+j*2,none⟩) hb2).trans c3,(hX.cell (p:=⟨b2,o2+j*2+1,none⟩) hb2).trans c4⟩
    have HJP:Hid (J pre wr):=hJp
    have hJ2:J pre ((wr.alloc (Obj.cells #[Value.int IntKind.i64 (max x1 y1),Value.int IntKind.i64 (min x2 y2)] 80)).drew):=hJ _ _ _ none (hJ _ _ _ none hJp (World.grownBy_alloc wr (Obj.cells #[Value.int IntKind.i64 (max x1 y1),Value.int IntKind.i64 (min x2 y2)] 80) none) (fun r e=>by cases e)) (grown_drew _) (fun r e=>by cases e)
    have hB2':Below n₀ wr ((wr.alloc (Obj.cells #[Value.int IntKind.i64 (max x1 y1),Value.int IntKind.i64 (min x2 y2)] 80)).drew):=((Below.refl n₀ wr).alloc (Nat.le_trans hnW hsz) _).drew
    have HJ2:Hid (J pre ((wr.alloc (Obj.cells #[Value.int IntKind.i64 (max x1 y1),Value.int IntKind.i64 (min x2 y2)] 80)).drew)):=hJ2
    have HB2:Hid (Below n₀ wr ((wr.alloc (Obj.cells #[Value.int IntKind.i64 (max x1 y1),Value.int IntKind.i64 (min x2 y2)] 80)).drew)):=hB2'
    have HJ1:Hid (J pre (wr.alloc (Obj.cells #[Value.int IntKind.i64 (max x1 y1),Value.int IntKind.i64 (min x2 y2)] 80))):=hJ _ _ _ none hJp (World.grownBy_alloc wr _ none) (fun r e=>by cases e)
    clear hJ2 hB2'
    clear hJp
    gi_wp2
    refine wpIn_wide.2 (wp_calm ?_)
    apply wp_one (wld:=((wr.alloc (Obj.cells #[Value.int IntKind.i64 (max x1 y1),Value.int IntKind.i64 (min x2 y2)] 80)).drew))
    case h =>
     go_region_held3 (fun X=>X.cell? ⟨A,0,none⟩=some (.slice (some ⟨b1,o1,none⟩) na ca)∧X.cell? ⟨B,0,none⟩=some (.slice (some ⟨b2,o2,none⟩) nb cb)∧X.cell? ⟨b1,o1+i*2,none⟩=some (.int .i64 x1)∧X.cell? ⟨b1,o1+i*2+1,none⟩=some (.int .i64 x2)∧X.cell? ⟨b2,o2+j*2,none⟩=some (.int .i64 y1)∧X.cell? ⟨b2,o2+j*2+1,none⟩=some (.int .i64 y2)) (go_keep) (first | fail)
     all_goals exact ⟨rfl,rfl⟩
    obtain ⟨M,hM⟩:∃ M,max x1 y1=M:=⟨_,rfl⟩
    obtain ⟨m,hm⟩:∃ m,min x2 y2=m:=⟨_,rfl⟩
    rw [hM,hm] at HJ1 HJ2 HB2 HRK HO1 HO0 ⊢
    obtain ⟨k1,k2,k3,k4,k5,k6⟩:=HK (wr.alloc (Obj.cells #[Value.int IntKind.i64 M,Value.int IntKind.i64 m] 80)) ((Below.refl n₀ wr).alloc (Nat.le_trans hnW hsz) _)
    clear hM hm HK c1 c2 c3 c4
    by_cases hMm:M≤m
    ·have hlen:pre.length<20000:=by
      have e1:=congrArg List.length HPRE.out
      have e2:=HOL.out
      rw [List.length_append,List.length_map] at e1
      omega
     obtain ⟨fn,tmps,assign,body,hyy,hRd⟩:=hY pre ⟨(M,m),HRK.out hMm⟩ _ HJ2.out hlen
     unfold encR at hyy
     dsimp only at hyy
     have HR2:Hid (ov a b=(pre++[(⟨(M,m),HRK.out hMm⟩:RgOk)]).map (·.1)++(if x2<y2 then ovF a b (i+1) j else ovF a b i (j+1))):=by
      unfold Hid
      rw [List.map_append,HPRE.out,HOV.out,HO1.out hMm,List.append_assoc];rfl
     clear hlen
     gi_wp2
     refine hRd.mono ?_
     rintro e W3 (⟨rfl,hJ3,hk3⟩ | ⟨rfl,hJx3⟩)
     ·have hB3:Below n₀ wr W3:=HB2.out.trans hk3
      have d1:=(hk3.cell (p:=⟨A,0,none⟩) hA1).trans k1
      have d2:=(hk3.cell (p:=⟨B,0,none⟩) hB1).trans k2
      have d3:=(hk3.cell (p:=⟨b1,o1+i*2+1,none⟩) hb1).trans k4
      have d4:=(hk3.cell (p:=⟨b2,o2+j*2+1,none⟩) hb2).trans k6
      clear hk3 k1 k2 k3 k4 k5 k6
      gi_wp2
      gi_quiet (fail)
      by_cases hxy:x2<y2
      ·gi_wp2
       go_roundw
       case rel=>exact ⟨i+1,j,by omega,by omega,by go_num,rfl,⟨_,by rw [HR2.out,if_pos hxy],hJd _ _ _ hJ3⟩,below_drewN (hBl.trans hB3) _⟩
       case measure=>simp [intOf];omega
      ·gi_wp2
       go_roundw
       case rel=>exact ⟨i,j+1,by omega,by omega,rfl,by go_num,⟨_,by rw [HR2.out,if_neg hxy],hJd _ _ _ hJ3⟩,below_drewN (hBl.trans hB3) _⟩
       case measure=>simp [intOf];omega
     ·gi_wp2
      refine bodyPost_ret (results_none rfl _ _ _) rfl ?_
      refine ⟨⟨_,rfl⟩,.inr ⟨_,?_,hJx3⟩⟩
      exact ⟨_,HR2.out.symm⟩
    ·have HR2:Hid (ov a b=pre.map (·.1)++(if x2<y2 then ovF a b (i+1) j else ovF a b i (j+1))):=by
      unfold Hid
      rw [HPRE.out,HOV.out,HO0.out (by omega),List.nil_append]
     gi_wp2
     refine ⟨fun _ h=>(by cases h),?_⟩
     gi_wp2
     gi_quiet (fail)
     by_cases hxy:x2<y2
     ·gi_wp2
      go_roundw
      case rel=>exact ⟨i+1,j,by omega,by omega,by go_num,rfl,⟨_,by rw [HR2.out,if_pos hxy],hJd _ _ _ HJ1.out⟩,below_drewN (hBl.trans ((Below.refl n₀ wr).alloc (Nat.le_trans hnW hsz) _)) _⟩
      case measure=>simp [intOf];omega
     ·gi_wp2
      go_roundw
      case rel=>exact ⟨i,j+1,by omega,by omega,rfl,by go_num,⟨_,by rw [HR2.out,if_neg hxy],hJd _ _ _ HJ1.out⟩,below_drewN (hBl.trans ((Below.refl n₀ wr).alloc (Nat.le_trans hnW hsz) _)) _⟩
      case measure=>simp [intOf];omega
   ·have hno:=ovF_no a b i j (fun h=>h2 (by rw [←HNB.out];exact h.2))
    have HNO:Hid (ovF a b i j=[]):=hno
    have h2':¬((j:Int)<(nb:Int)):=by omega
    clear hno
    gi_wp2
    go_end0
    exact ⟨⟨_,rfl⟩,.inl ⟨pre,by rw [HPRE.out,HNO.out,List.append_nil],hJp⟩⟩
  ·have hno:=ovF_no a b i j (fun h=>h1 (by rw [←HNA.out];exact h.1))
   have HNO:Hid (ovF a b i j=[]):=hno
   have h1':¬((i:Int)<(na:Int)):=by omega
   clear hno
   gi_wp2
   go_end0
   exact ⟨⟨_,rfl⟩,.inl ⟨pre,by rw [HPRE.out,HNO.out,List.append_nil],hJp⟩⟩
end Go.Proofs.YtghnfnieppfhgaaGreat.Dm
