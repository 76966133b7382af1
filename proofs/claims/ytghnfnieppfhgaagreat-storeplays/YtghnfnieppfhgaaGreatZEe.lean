/- What is proved here: what dom.join returns of whatever iterator of ranges: they, joined where they touch, or that they are too many. -/
import Derived.Test.YtghnfnieppfhgaaGreatZEd
import Derived.Test.YtghnfnieppfhgaaGreatZXfj
import Derived.Maps.AppendAt
import Derived.Test.YtghnfnieppfhgaaGreatZRd
set_option linter.unusedSimpArgs false
set_option linter.unusedVariables false
set_option maxRecDepth 100000
set_option maxHeartbeats 8000000
namespace Go.Proofs.YtghnfnieppfhgaaGreat.Dm
open Go.RowKit Go.Shelf
attribute [local go_sem] Oper.semAt_some
theorem joinF_hi (l:List Rg):∀ p∈joinF l,∃ q∈l,p.2=q.2:=by
 induction l using snoc_induct with
 | h0=>simp [joinF]
 | h1 l r ih =>
  rw [joinF_snoc]
  obtain ⟨o,eo⟩:∃ o,joinF l=o:=⟨_,rfl⟩
  rw [eo] at ih ⊢
  rcases Nat.eq_zero_or_pos o.length with h0 | h0
  ·have e:o=[]:=List.eq_nil_of_length_eq_zero h0
   subst e
   have ej:jstep [] r=[r]:=by unfold jstep;simp
   rw [ej]
   exact fun p hp=>⟨r,by simp,by rw [List.mem_singleton] at hp;rw [hp]⟩
  ·obtain ⟨i,a,e⟩:=list_last o h0
   subst e
   rw [jstep_last]
   intro p hp
   have hold:∀ p,p∈i++[a]→∃ q∈l++[r],p.2=q.2:=fun p hp=>by obtain ⟨q,hq,e⟩:=ih p hp;exact ⟨q,by simp [hq],e⟩
   split at hp
   ·rw [List.mem_append] at hp
    rcases hp with h | h
    ·exact hold p (by simp [h])
    ·rw [List.mem_singleton] at h
     rw [h]
     dsimp only
     split
     ·exact ⟨r,by simp,rfl⟩
     ·exact hold a (by simp)
   ·rw [List.mem_append] at hp
    rcases hp with h | h
    ·exact hold p h
    ·rw [List.mem_singleton] at h;exact ⟨r,by simp,by rw [h]⟩
def Two (W:World) (B:Nat) (x y:Int):Prop:=W.heap[B]? = some (.cells #[.int .i64 x,.int .i64 y] 80 (0,0))
theorem Two.new (W:World) (x y:Int):Two (W.alloc (.cells #[.int .i64 x,.int .i64 y] 80)) W.heap.size x y:=World.alloc_heap_new W _
theorem Two.c0 {W:World} {B:Nat} {x y:Int} (h:Two W B x y):W.cell? ⟨B,0,none⟩=some (.int .i64 x):=by simp [World.cell?,show W.heap[B]? = _ from h]
theorem Two.c1 {W:World} {B:Nat} {x y:Int} (h:Two W B x y):W.cell? ⟨B,1,none⟩=some (.int .i64 y):=by simp [World.cell?,show W.heap[B]? = _ from h]
theorem Two.own (B:Nat) (x y:Int) (n:Nat):OwnFrom n (fun (_:Unit) W=>Two W B x y):=fun _ X Y row hs hg hr=>by
 refine (hg.block B (Array.getElem?_eq_some_iff.1 hs).1 (fun e=>?_)).trans hs
 obtain ⟨_,o,ho,hc⟩:=hr B e.symm
 rw [show X.heap[B]? = _ from hs] at ho
 cases ho
 simp [Obj.isCells] at hc
def Outs (n₀ O:Nat) (o:List Rg) (W:World):Prop:=∃ v,Boxed W O 34 v∧W.ownsRow n₀ 80 2 v o.length (flat o)∧(v = .slice none 0 0↔o=[])
theorem outs_own {β:Type} (n₀ O:Nat) (f:β→List Rg):Own (fun s W=>Outs n₀ O (f s) W):=holdsRow_own n₀ O 34 80 2 (fun s=>(f s).length) (fun s=>flat (f s)) (fun s v=>v = .slice none 0 0↔f s=[])
theorem appended_at {X w1:World} {n₀ O m:Nat} {v:Value} {gn capn:Nat} {tmp:Obj} {xs ys:List Value} (hv:Boxed X O 34 v) (hrow:X.ownsRow n₀ 80 2 v m xs) (hnX:n₀≤X.heap.size)
  (hown':w1.ownsRow n₀ 80 2 (.slice (some ⟨gn,0,none⟩) (m+1) capn) (m+1) ys) (hgrow:(X.alloc tmp).grownBy w1 v.ownBlock) :
  Boxed w1 O 34 v∧(∀ B0 (W:World),Below B0 W X→B0≤n₀→B0≤O→Below B0 W (w1.setCell ⟨O,0,none⟩ (.slice (some ⟨gn,0,none⟩) (m+1) capn)))∧(KeepsOthers X (w1.setCell ⟨O,0,none⟩ (.slice (some ⟨gn,0,none⟩) (m+1) capn))∧X.heap.size≤(w1.setCell ⟨O,0,none⟩ (.slice (some ⟨gn,0,none⟩) (m+1) capn)).heap.size ∧
   (∀ k,k≠O→k<n₀→(w1.setCell ⟨O,0,none⟩ (.slice (some ⟨gn,0,none⟩) (m+1) capn)).heap[k]? = X.heap[k]?)∧(w1.setCell ⟨O,0,none⟩ (.slice (some ⟨gn,0,none⟩) (m+1) capn)).ownsRow n₀ 80 2 (.slice (some ⟨gn,0,none⟩) (m+1) capn) (m+1) ys):=by
 have hv1:Boxed w1 O 34 v:=(hv.alloc tmp).kept hgrow (hv.not_row (by decide) hrow)
 have hob:∀ j,v.ownBlock=some j→n₀≤j∧∃ o,X.heap[j]? = some o∧o.isCells=true:=fun j ej=>by
  rcases hrow.2 with ⟨rfl,_⟩ | ⟨gg,cap,cur,rfl,hb,hgb,_⟩
  ·simp [Value.ownBlock] at ej
  ·obtain rfl:gg=j:=by simpa [Value.ownBlock] using ej
   exact ⟨hb,_,hgb,rfl⟩
 refine ⟨hv1,fun B0 W hB0 h1 h2=>((hB0.alloc (Nat.le_trans h1 hnX) tmp).grown hgrow (by have:=hB0.size;simp;omega) (fun j ej=>Nat.le_trans h1 (hob j ej).1)).setCell (p:=⟨O,0,none⟩) h2 _,?_,?_,fun k hk hkn=>?_,hown'.kept (grownBy_setCell' w1 O _) (.inr (hv1.not_row (by decide) hown').symm)⟩
 ·refine ((KeepsOthers.alloc X tmp).trans (KeepsOthers.of_grownBy hgrow fun j o ej hj=>?_)).trans (KeepsOthers.setCell _ _ _)
  rcases (hrow.alloc tmp).2 with ⟨rfl,_⟩ | ⟨g,cap,cur,rfl,_,hgb,_⟩
  ·simp [Value.ownBlock] at ej
  ·obtain rfl:g=j:=by simpa [Value.ownBlock] using ej
   rw [hgb] at hj;cases hj;rfl
 ·have h1:=hgrow.size
  have h2:=(KeepsOthers.setCell w1 ⟨O,0,none⟩ (.slice (some ⟨gn,0,none⟩) (m+1) capn)).size
  simp at h1;omega
 ·refine (Below.heap_setCell _ _ _ k hk).trans ((hgrow.block k (by simp;omega) (fun e=>?_)).trans (Below.heap_alloc X tmp k (by omega)))
  have:=(hob k e.symm).1;omega
def JoinEnd (L:List Rg) (W:World) (e:Ending) (w':World):Prop:=∃ (s:Value) (c:Int),e = .returned (.tuple #[s,.int .i64 c])∧Below W.heap.size W w' ∧
 ((c=0∧(joinF L).length≤4096∧w'.ownsRow W.heap.size 80 2 s (joinF L).length (flat (joinF L))∧(s = .slice none 0 0↔joinF L=[]))∨(c=4∧4096<(joinF L).length∧s = .slice none 0 0))
theorem join_any (gf:Nat) (lb:Array Value) (L:List Rg) (NN:Nat) (W:World) (eg:∀ args w,(callFunc gf args).run Tryz.prog w = .ok (.enter gf args) w)
  (hseq:SeqStopsK (α:=RgOk) Fence.wide 5 Tryz.prog gf lb encR (Below W.heap.size) (fun xs=>xs.map (·.1)=L) (fun pre=>∃ r,pre.map (·.1)++r=L) NN W) :
  Calls Tryz.prog 117 #[.func (.func gf) #[] lb] W fun e w'=>JoinEnd L W e w':=by
 refine (callsIn_wide (n:=6)).1 ?_
 refine callsIn_of_wp_marks Tryz.func117 rfl trivial ?_ rfl
 simp only [Tryz.ntmps117,List.size_toArray,List.length_cons,List.length_nil,Nat.reduceAdd,Nat.reduceSub,Array.replicate_succ,Array.replicate_zero,List.push_toArray,List.append_toArray,List.nil_append,List.cons_append]
 obtain ⟨N,hN⟩:∃ N,W.heap.size=N:=⟨_,rfl⟩
 have HSEQ:Hid (SeqStopsK (α:=RgOk) Fence.wide 5 Tryz.prog gf lb encR (Below W.heap.size) (fun xs=>xs.map (·.1)=L) (fun pre=>∃ r,pre.map (·.1)++r=L) NN W):=hseq
 clear hseq
 gi_wp2_with fail
 obtain ⟨Wa,hWa⟩:∃ Wa,(((W.alloc (Obj.cells #[Value.slice none 0 0] 34)).alloc (Obj.cells #[Value.int IntKind.i64 0] 26)).alloc (Obj.cells #[Value.slice none 0 0] 34))=Wa:=⟨_,rfl⟩
 have hsa:Wa.heap.size=N+3:=by rw [←hWa,←hN];simp
 have hba:Below N W Wa:=by rw [←hWa,←hN];exact (((Below.refl _ W).alloc (Nat.le_refl _) _).alloc (by simp) _).alloc (by simp;omega) _
 have bR:Boxed Wa N 34 (.slice none 0 0):=by rw [←hWa,←hN];exact ((Boxed.new W 34 _).alloc _).alloc _
 have bE:Boxed Wa (N+1) 26 (.int .i64 0):=by rw [←hWa,←hN];have h9:=Boxed.new (W.alloc (Obj.cells #[Value.slice none 0 0] 34)) 26 (.int .i64 0);rw [World.size_alloc] at h9;exact h9.alloc _
 have bO:Boxed Wa (N+2) 34 (.slice none 0 0):=by rw [←hWa,←hN];have h9:=Boxed.new ((W.alloc (Obj.cells #[Value.slice none 0 0] 34)).alloc (Obj.cells #[Value.int IntKind.i64 0] 26)) 34 (.slice none 0 0);rw [World.size_alloc,World.size_alloc] at h9;exact h9
 rw [hWa]
 have hNw:N≤W.heap.size:=by omega
 obtain ⟨n₀,hn₀⟩:∃ n₀,Wa.heap.size=n₀:=⟨_,rfl⟩
 clear hWa
 refine wpIn_rangeFunc_ownH rfl (by decide) (gf:=gf) (lb:=lb) rfl trivial eg HSEQ.out belowK_t (belowK_b (by omega)) (by rw [hN];exact hba) (fun _=>rfl)
  (fun pre X=>Outs n₀ (N+2) (joinF (pre.map (·.1))) X∧(joinF (pre.map (·.1))).length≤4096∧Boxed X N 34 (.slice none 0 0)∧Boxed X (N+1) 26 (.int .i64 0)∧Below N W X∧n₀≤X.heap.size)
  (fun c pre X=>c = .ret∧4096<(joinF (pre.map (·.1))).length∧Boxed X N 34 (.slice none 0 0)∧Boxed X (N+1) 26 (.int .i64 4)∧Below N W X)
  (OwnFrom.and (Own.from (outs_own _ _ _) _) (OwnFrom.and (ownFrom_pure _ _) (OwnFrom.and (Own.from (boxed_own _ _ _) _) (OwnFrom.and (Own.from (boxed_own _ _ _) _) (OwnFrom.and (ownFrom_below hNw (by omega)) (fun s A B row hs hg hr=>Nat.le_trans hs hg.size))))))
  (fun c=>OwnFrom.and (ownFrom_pure _ _) (OwnFrom.and (ownFrom_pure _ _) (OwnFrom.and (Own.from (boxed_own _ _ _) _) (OwnFrom.and (Own.from (boxed_own _ _ _) _) (ownFrom_below hNw (by omega))))))
  ⟨⟨_,bO,World.ownsRow_nil _ _ _ _,by simp [joinF]⟩,by simp [joinF],bR,bE,hba,by omega⟩
  (fun x a' X=>∃ Bx,n₀≤Bx∧Two X Bx x.1.1 x.1.2∧a' = { tmps:=#[.func (.func gf) #[] lb,undef,.pointer (some ⟨N,0,none⟩),.pointer (some ⟨N+1,0,none⟩),.pointer (some ⟨N+1+1,0,none⟩),.pointer (some ⟨Bx,0,none⟩),undef,.func (.func gf) #[] lb,.agg #[.int .i64 x.1.1,.int .i64 x.1.2],undef,undef,undef,undef,undef,undef,undef,undef,undef,undef,undef,undef,undef,undef,undef,undef,undef,undef,undef,undef,undef,undef,undef,undef,undef,undef,undef,undef,undef,undef,undef,undef,undef,undef,undef,undef,undef,undef],defers:=[] })
  (fun x a' _ X Y row hs hg hr=>by obtain ⟨Bx,h1,h2,h3⟩:=hs;exact ⟨Bx,h1,Two.own Bx _ _ _ () X Y row h2 hg hr,h3⟩)
  ?assign ?body ?done ?stop
 case assign =>
  rintro l pre x X K ⟨⟨v,hv,hrow,hnil⟩,hle,hR,hE,hB,hnX⟩ hK
  unfold encR
  gi_wp2
  exact hK _ _ ((KeepsOthers.alloc _ _).from _) ((Below.refl _ X).alloc (by omega) _) ⟨⟨v,hv.alloc _,hrow.alloc _,hnil⟩,hle,hR.alloc _,hE.alloc _,hB.alloc (by omega) _,by simp;omega⟩ ⟨X.heap.size,hnX,Two.new X _ _,rfl⟩
 case body =>
  rintro lr pre ⟨⟨x,x'⟩,hx⟩ a' X hl _ ⟨⟨v,hv,hrow,hnil⟩,hle,hR,hE,hB,hnX⟩ ⟨Bx,hBx,hT,rfl⟩ _
  obtain ⟨hx1,hx2,hx3⟩:=hx
  dsimp only at hx1 hx2 hx3
  have t0:=hT.c0
  have t1:=hT.c1
  dsimp only at t0 t1
  obtain ⟨o,ho⟩:∃ o,joinF (pre.map (·.1))=o:=⟨_,rfl⟩
  have HO:Hid (joinF (pre.map (·.1))=o):=ho
  have hbo:=joinF_hi (pre.map (·.1))
  rw [ho] at hrow hnil hle hbo
  have HBO:Hid (∀ i,i<o.length→-1000000≤hi o i∧hi o i≤1000000):=by
   intro i hi'
   obtain ⟨q,hq,e⟩:=hbo o[i] (List.getElem_mem hi')
   rw [List.mem_map] at hq
   obtain ⟨z,_,rfl⟩:=hq
   have:=z.2
   unfold Rok at this
   rw [hi_get o i hi',e];omega
  clear ho hbo
  have cv:=hv.cell
  have fv:=hv.frozen
  have mixed:Tryz.prog.follows .mixedOrders=true:=by kernel_rfl
  by_cases h0:0<o.length
  ·obtain ⟨go,co,rfl,_,_,hcells⟩:=own_some hrow h0
   obtain ⟨hg0,hgX⟩:=own_ge hrow
   obtain ⟨d1,d2⟩:=flat_even o (o.length-1) (by omega)
   have e2:=hcells _ _ d2
   have hyb:=HBO.out (o.length-1) (by omega)
   have fz:=own_frozen hrow ((o.length-1)*2+1)
   obtain ⟨m,hm⟩:∃ m,o.length=m:=⟨_,rfl⟩
   have HM:Hid (o.length=m):=hm
   obtain ⟨y,hy⟩:∃ y,hi o (o.length-1)=y:=⟨_,rfl⟩
   have HY:Hid (hi o (o.length-1)=y):=hy
   rw [hy] at e2 hyb
   rw [hm] at h0 hle e2 fz cv
   obtain ⟨hy1,hy2⟩:=hyb
   have hlast:(m:Int)-1=((m-1:Nat):Int):=by omega
   have hd0:decide (0≤(m:Int)-1)=true:=by simp;omega
   have hm4:(m:Int)≤4096:=by omega
   have hm1:m-1<m:=by omega
   clear d1 d2 hm hy hcells
   by_cases hA:x≤y+1
   ·have hstep:jstep o (x,x')=o.set (o.length-1) (lo o (o.length-1),max y x'):=by
     unfold jstep
     rw [HY.out,if_pos ⟨by rw [HM.out];exact h0,hA⟩]
     congr 2
     rw [Int.max_def];dsimp only;split<;>split<;>omega
    have HST:Hid (jstep o (x,x')=o.set (o.length-1) (lo o (o.length-1),max y x')):=hstep
    clear hstep
    have hw1:IntKind.i64.wrap (y+1)=y+1:=by rw [IntKind.wrap_i64];omega
    have hm2:((m-1:Nat):Int)<(m:Int):=by omega
    gi_wp2
    refine region_quiet (by kernel_rfl) mixed (by kernel_rfl) ?_
    repeat (gi_big_quiet_step (fail))
    refine wpQuietIn_nil ?_
    rintro _ ⟨nq,rfl⟩
    gi_wp2
    refine region_last (by kernel_rfl) mixed (by kernel_rfl) rfl rfl ?_
    dsimp only [List.dropLast]
    repeat (gi_big_quiet_step (fail))
    refine wpQuietIn_nil ?_
    rintro _ ⟨nq2,rfl⟩ K2 hK2
    dsimp only [List.getLast]
    go_simp
    refine hK2 _ _ ?_
    clear hK2 K2
    gi_wp2
    have hv1:Boxed (X.drewN (nq+nq2)) (N+2) 34 (.slice (some ⟨go,0,none⟩) o.length co):=hv
    have hrow1:(X.drewN (nq+nq2)).ownsRow n₀ 80 2 (.slice (some ⟨go,0,none⟩) o.length co) o.length (flat o):=hrow
    have hR1:Boxed (X.drewN (nq+nq2)) N 34 (.slice none 0 0):=hR
    have hE1:Boxed (X.drewN (nq+nq2)) (N+1) 26 (.int .i64 0):=hE
    have hB1:Below N W (X.drewN (nq+nq2)):=below_drewN hB _
    have hn1:n₀≤(X.drewN (nq+nq2)).heap.size:=hnX
    have hk1:KeepsOthers X (X.drewN (nq+nq2)):=⟨Nat.le_refl _,fun _ _ h _=>h⟩
    have hb1:Below N X (X.drewN (nq+nq2)):=below_drewN (Below.refl _ _) _
    obtain ⟨X1,hX1⟩:∃ X1,X.drewN (nq+nq2)=X1:=⟨_,rfl⟩
    rw [hX1] at hv1 hrow1 hR1 hE1 hB1 hn1 hk1 hb1 ⊢
    have hgn:N+3≤go:=by omega
    refine ⟨(hk1.trans (KeepsOthers.setCell _ _ _)).from _,?_,?_,?_,?_,?_,?_,?_⟩
    ·rw [hN];exact hb1.setCell (p:=⟨go,_,none⟩) (by show N≤go;omega) _
    ·rw [List.map_append,List.map_singleton,joinF_snoc,HO.out,HST.out]
     have h9:=own_set (j:=(o.length-1)*2+1) hrow1 (.int .i64 (max y x'))
     rw [flat_set o (o.length-1) _ (by rw [HM.out];omega),HM.out] at h9
     rw [HM.out]
     refine ⟨.slice (some ⟨go,0,none⟩) m co,?_,?_,?_⟩
     ·rw [←HM.out];exact (Below.heap_setCell _ _ _ (N+2) (show N+2≠go by omega)).trans hv1
     ·rw [List.length_set,HM.out];exact h9
     ·constructor
      ·intro e;cases e
      ·intro e;have:=congrArg List.length e;rw [List.length_set,HM.out] at this;simp at this;omega
    ·rw [List.map_append,List.map_singleton,joinF_snoc,HO.out,HST.out,List.length_set,HM.out];exact hle
    ·exact (Below.heap_setCell _ _ _ N (show N≠go by omega)).trans hR1
    ·exact (Below.heap_setCell _ _ _ (N+1) (show N+1≠go by omega)).trans hE1
    ·exact hB1.setCell (p:=⟨go,_,none⟩) (by show N≤go;omega) _
    ·exact Nat.le_trans hn1 (KeepsOthers.setCell X1 _ _).size
   ·have hstep:jstep o (x,x')=o++[(x,x')]:=by unfold jstep;rw [if_neg (fun h=>hA (by rw [←HY.out];exact h.2))]
    have HST:Hid (jstep o (x,x')=o++[(x,x')]):=hstep
    have hw1:IntKind.i64.wrap (y+1)=y+1:=by rw [IntKind.wrap_i64];omega
    have hm2:((m-1:Nat):Int)<(m:Int):=by omega
    clear hstep
    by_cases hF:m=4096
    ·have hF':((m:Int)==4096)=true:=by simp;omega
     have HF:Hid (m=4096):=hF
     clear hF
     gi_wp2
     refine region_quiet (by kernel_rfl) mixed (by kernel_rfl) ?_
     repeat (gi_big_quiet_step (fail))
     refine wpQuietIn_nil ?_
     rintro _ ⟨nq,rfl⟩
     have hv1:Boxed (X.drewN (nq)) (N+2) 34 (.slice (some ⟨go,0,none⟩) o.length co):=hv
     have hrow1:(X.drewN (nq)).ownsRow n₀ 80 2 (.slice (some ⟨go,0,none⟩) o.length co) o.length (flat o):=hrow
     have hR1:Boxed (X.drewN (nq)) N 34 (.slice none 0 0):=hR
     have hE1:Boxed (X.drewN (nq)) (N+1) 26 (.int .i64 0):=hE
     have hB1:Below N W (X.drewN (nq)):=below_drewN hB _
     have hn1:n₀≤(X.drewN (nq)).heap.size:=hnX
     have hk1:KeepsOthers X (X.drewN (nq)):=⟨Nat.le_refl _,fun _ _ h _=>h⟩
     have hb1:Below N X (X.drewN (nq)):=below_drewN (Below.refl _ _) _
     have cv1:(X.drewN nq).cell? ⟨N+1+1,0,none⟩=some (.slice (some ⟨go,0,none⟩) m co):=by rw [←HM.out];exact hv1.cell
     obtain ⟨X1,hX1⟩:∃ X1,X.drewN nq=X1:=⟨_,rfl⟩
     rw [hX1] at hv1 hrow1 hR1 hE1 hB1 hn1 hk1 hb1 cv1 ⊢
     have hcR:=hR1.cell;have hfR:=hR1.frozen;have hcE:=hE1.cell;have hfE:=hE1.frozen
     gi_wp2
     refine ⟨((hk1.trans (KeepsOthers.setCell _ _ _)).trans (KeepsOthers.setCell _ _ _)).from _,rfl,?_,(hR1.set _).other (by omega) _,(hE1.other (by omega) _).set _,(hB1.setCell (p:=⟨N,0,none⟩) (Nat.le_refl _) _).setCell (p:=⟨N+1,0,none⟩) (by show N≤N+1;omega) _⟩
     rw [List.map_append,List.map_singleton,joinF_snoc,HO.out,HST.out,List.length_append,HM.out,HF.out];simp
    ·have hF':((m:Int)==4096)=false:=by simp;omega
     obtain ⟨i0,hi0,hz0,hz1,hz2⟩:=info_parts Tryz.info80
     have hlm:m+1≤4096:=by omega
     clear hF
     gi_wp2
     refine region_quiet (by kernel_rfl) mixed (by kernel_rfl) ?_
     repeat (gi_big_quiet_step (fail))
     refine wpQuietIn_nil ?_
     rintro _ ⟨nq,rfl⟩
     rw [HM.out] at hrow hv
     have hv1:Boxed (X.drewN (nq)) (N+2) 34 (.slice (some ⟨go,0,none⟩) m co):=hv
     have hrow1:(X.drewN (nq)).ownsRow n₀ 80 2 (.slice (some ⟨go,0,none⟩) m co) m (flat o):=hrow
     have hR1:Boxed (X.drewN (nq)) N 34 (.slice none 0 0):=hR
     have hE1:Boxed (X.drewN (nq)) (N+1) 26 (.int .i64 0):=hE
     have hB1:Below N W (X.drewN (nq)):=below_drewN hB _
     have hn1:n₀≤(X.drewN (nq)).heap.size:=hnX
     have hk1:KeepsOthers X (X.drewN (nq)):=⟨Nat.le_refl _,fun _ _ h _=>h⟩
     have hb1:Below N X (X.drewN (nq)):=below_drewN (Below.refl _ _) _
     have s0:(X.drewN (nq)).cell? ⟨Bx,0,none⟩=some (.int .i64 x):=t0
     have s1:(X.drewN (nq)).cell? ⟨Bx,1,none⟩=some (.int .i64 x'):=t1
     have cv1:=hv1.cell
     have fv1:=hv1.frozen
     obtain ⟨X1,hX1⟩:∃ X1,X.drewN nq=X1:=⟨_,rfl⟩
     rw [hX1] at hv1 hrow1 hR1 hE1 hB1 hn1 hk1 hb1 cv1 fv1 s0 s1 ⊢
     gi_wp2_with (gi_at_builtin;refine wpListIn_append_own _ rfl _ _ 34 rfl n₀ 80 i0 (.agg #[.int .i64 0,.int .i64 0]) 2 16 Tryz.underlying34 hi0 hz0 hz1 hz2 rfl (by decide) _ _ _ rfl (hrow1.alloc _) ⟨X1.heap.size,0,none⟩ 1 1 [.int .i64 x,.int .i64 x'] rfl rfl (cell_two_new _ _ _ _) (by simp [Value.oneCell']) (by unfold maxLen;omega) (by omega) (by simp;omega) ?_;intro v' w1 hown' hgrow _;obtain ⟨gn,capn,rfl⟩:=ownsRow_succ hown';obtain ⟨hv2,hbl2,hw2⟩:=appended_at hv1 hrow1 hn1 hown' hgrow;have hc2:=hv2.cell;have hf2:=hv2.frozen)
     refine ⟨(hk1.trans hw2.1).from _,?_,?_,?_,?_,?_,?_,?_⟩
     ·rw [hN];exact hbl2 N X hb1 (by omega) (by omega)
     ·rw [List.map_append,List.map_singleton,joinF_snoc,HO.out,HST.out]
      refine ⟨_,hv2.set _,?_,?_⟩
      ·rw [List.length_append,HM.out,flat_two];exact hw2.2.2.2
      ·simp
     ·rw [List.map_append,List.map_singleton,joinF_snoc,HO.out,HST.out,List.length_append,HM.out];simp;omega
     ·exact (hw2.2.2.1 N (by omega) (by omega)).trans hR1
     ·exact (hw2.2.2.1 (N+1) (by omega) (by omega)).trans hE1
     ·exact hbl2 N W hB1 (by omega) (by omega)
     ·exact Nat.le_trans hn1 hw2.2.1
  ·obtain rfl:o=[]:=List.eq_nil_of_length_eq_zero (by omega)
   have hvn:v = .slice none 0 0:=hnil.2 rfl
   subst hvn
   have HST:Hid (jstep [] (x,x')=[]++[(x,x')]):=by unfold Hid jstep;simp
   obtain ⟨i0,hi0,hz0,hz1,hz2⟩:=info_parts Tryz.info80
   clear hnil h0
   gi_wp2
   refine region_quiet (by kernel_rfl) mixed (by kernel_rfl) ?_
   repeat (gi_big_quiet_step (fail))
   refine wpQuietIn_nil ?_
   rintro _ ⟨nq,rfl⟩
   have hv1:Boxed (X.drewN (nq)) (N+2) 34 (.slice none 0 0):=hv
   have hrow1:(X.drewN (nq)).ownsRow n₀ 80 2 (.slice none 0 0) 0 (flat []):=hrow
   have hR1:Boxed (X.drewN (nq)) N 34 (.slice none 0 0):=hR
   have hE1:Boxed (X.drewN (nq)) (N+1) 26 (.int .i64 0):=hE
   have hB1:Below N W (X.drewN (nq)):=below_drewN hB _
   have hn1:n₀≤(X.drewN (nq)).heap.size:=hnX
   have hk1:KeepsOthers X (X.drewN (nq)):=⟨Nat.le_refl _,fun _ _ h _=>h⟩
   have hb1:Below N X (X.drewN (nq)):=below_drewN (Below.refl _ _) _
   have s0:(X.drewN (nq)).cell? ⟨Bx,0,none⟩=some (.int .i64 x):=t0
   have s1:(X.drewN (nq)).cell? ⟨Bx,1,none⟩=some (.int .i64 x'):=t1
   have cv1:=hv1.cell
   have fv1:=hv1.frozen
   obtain ⟨X1,hX1⟩:∃ X1,X.drewN nq=X1:=⟨_,rfl⟩
   rw [hX1] at hv1 hrow1 hR1 hE1 hB1 hn1 hk1 hb1 cv1 fv1 s0 s1 ⊢
   gi_wp2_with (gi_at_builtin;refine wpListIn_append_own _ rfl _ _ 34 rfl n₀ 80 i0 (.agg #[.int .i64 0,.int .i64 0]) 2 16 Tryz.underlying34 hi0 hz0 hz1 hz2 rfl (by decide) _ _ _ rfl (hrow1.alloc _) ⟨X1.heap.size,0,none⟩ 1 1 [.int .i64 x,.int .i64 x'] rfl rfl (cell_two_new _ _ _ _) (by simp [Value.oneCell']) (by unfold maxLen;omega) (by omega) (by simp;omega) ?_;intro v' w1 hown' hgrow _;obtain ⟨gn,capn,rfl⟩:=ownsRow_succ hown';obtain ⟨hv2,hbl2,hw2⟩:=appended_at hv1 hrow1 hn1 hown' hgrow;have hc2:=hv2.cell;have hf2:=hv2.frozen)
   refine ⟨(hk1.trans hw2.1).from _,?_,?_,?_,?_,?_,?_,?_⟩
   ·rw [hN];exact hbl2 N X hb1 (by omega) (by omega)
   ·rw [List.map_append,List.map_singleton,joinF_snoc,HO.out,HST.out]
    refine ⟨_,hv2.set _,?_,?_⟩
    ·rw [List.length_append,flat_two];exact hw2.2.2.2
    ·simp
   ·rw [List.map_append,List.map_singleton,joinF_snoc,HO.out,HST.out];simp
   ·exact (hw2.2.2.1 N (by omega) (by omega)).trans hR1
   ·exact (hw2.2.2.1 (N+1) (by omega) (by omega)).trans hE1
   ·exact hbl2 N W hB1 (by omega) (by omega)
   ·exact Nat.le_trans hn1 hw2.2.1
 case done =>
  rintro D xs X hD hS ⟨⟨v,hv,hrow,hnil⟩,hle,hR,hE,hB,hnX⟩ hK
  rw [hS] at hrow hnil hle
  obtain ⟨va,vn,vc,rfl⟩:∃ a n c,v = .slice a n c:=by
   rcases hrow.2 with ⟨e,_⟩ | ⟨q1,q2,q3,e,_⟩
   ·exact ⟨_,_,_,e⟩
   ·exact ⟨_,_,_,e⟩
  have hcv:=hv.cell
  have hcR:=hR.cell;have hfR:=hR.frozen;have hcE:=hE.cell;have hfE:=hE.frozen
  gi_wp2
  have hK1:((X.setCell ⟨N,0,none⟩ (.slice va vn vc)).setCell ⟨N+1,0,none⟩ (.int .i64 0)).heap[D]? = some (.deferred (some [])):=((KeepsOthers.setCell X ⟨N,0,none⟩ (.slice va vn vc)).trans (KeepsOthers.setCell _ ⟨N+1,0,none⟩ (.int .i64 0))).same D _ hK rfl
  have bR1:Boxed ((X.setCell ⟨N,0,none⟩ (.slice va vn vc)).setCell ⟨N+1,0,none⟩ (.int .i64 0)) N 34 (.slice va vn vc):=(hR.set _).other (by omega) _
  have bE1:Boxed ((X.setCell ⟨N,0,none⟩ (.slice va vn vc)).setCell ⟨N+1,0,none⟩ (.int .i64 0)) (N+1) 26 (.int .i64 0):=(hE.other (by omega) _).set _
  have hgp:=grownBy_putObj' ((X.setCell ⟨N,0,none⟩ (.slice va vn vc)).setCell ⟨N+1,0,none⟩ (.int .i64 0)) D (.deferred none)
  have cR1:=cell_kept bR1.cell hgp (fun r e=>by cases e;exact ⟨_,hK1,rfl⟩)
  have cE1:=cell_kept bE1.cell hgp (fun r e=>by cases e;exact ⟨_,hK1,rfl⟩)
  refine ⟨by simp,.inl ⟨_,_,rfl,run_takeDeferred hK1,?_⟩⟩
  refine ⟨.tuple #[.slice va vn vc,.int .i64 0],by simp [results,Tryz.results117,go_sem,cR1,cE1],_,0,rfl,?_,.inl ⟨rfl,hle,?_,hnil⟩⟩
  ·rw [hN]
   have hb9:=(hB.setCell (p:=⟨N,0,none⟩) (Nat.le_refl _) (.slice va vn vc)).setCell (p:=⟨N+1,0,none⟩) (by show N≤N+1;omega) (.int .i64 0)
   exact hb9.trans (belowK_b (n₀:=N) (w:=W) hNw _ D _ (.deferred none) (by omega) hK1 rfl rfl)
  ·have h1:=own_base hrow (show N≤n₀ by omega)
   have h2:=h1.kept (grownBy_setCell' X N (.slice va vn vc)) (.inr (hR.not_row (by decide) h1).symm)
   have h3:=h2.kept (grownBy_setCell' _ (N+1) (.int .i64 0)) (.inr ((hE.other (by omega) (.slice va vn vc)).not_row (by decide) h2).symm)
   rw [hN]
   exact ownsRow_putObj h3 _ hK1 rfl
 case stop =>
  rintro D c pre X hD ⟨r,hr⟩ ⟨rfl,hF,hR,hE,hB⟩ hK
  have hmono:=joinF_mono (pre.map (·.1)) r
  rw [hr] at hmono
  have hgp:=grownBy_putObj' X D (.deferred none)
  have cR1:=cell_kept hR.cell hgp (fun r e=>by cases e;exact ⟨_,hK,rfl⟩)
  have cE1:=cell_kept hE.cell hgp (fun r e=>by cases e;exact ⟨_,hK,rfl⟩)
  gi_wp2
  refine ⟨by simp,.inl ⟨_,_,rfl,run_takeDeferred hK,?_⟩⟩
  refine ⟨.tuple #[.slice none 0 0,.int .i64 4],by simp [results,Tryz.results117,go_sem,cR1,cE1],_,4,rfl,?_,.inr ⟨rfl,by omega,rfl⟩⟩
  rw [hN]
  exact hB.trans (belowK_b (n₀:=N) (w:=W) hNw _ D _ (.deferred none) (by omega) hK rfl rfl)
end Go.Proofs.YtghnfnieppfhgaaGreat.Dm
