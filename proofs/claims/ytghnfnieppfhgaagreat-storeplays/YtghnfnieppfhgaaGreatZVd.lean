/- What is proved here: joined of the reference hands back ranges that rise and do not touch as they are. -/
import Derived.Test.YtghnfnieppfhgaaGreatZXfj
import Derived.Deep.AppendLies
import Derived.Deep.Cut
set_option linter.unusedSimpArgs false
set_option linter.unusedVariables false
set_option maxRecDepth 100000
set_option maxHeartbeats 8000000
namespace Go.Proofs.YtghnfnieppfhgaaGreat.Dm
open Go.RowKit Go.Shelf
theorem run_app_nil (w:World) (ty:TypeId) (base:Option Addr) (n c:Nat) (hle:n≤c):(Builtin.append_ #[34,34] ty #[.slice base n c,.slice none 0 0]).run Tryz.prog w = .ok (.slice base n c) w:=by
 obtain ⟨i0,hi0,hz0,hz1,hz2⟩:=info_parts Tryz.info80
 have hf:(Builtin.firstCells i0.size 0 (.slice none 0 0)).run Tryz.prog w = .ok #[] w:=by simp [Builtin.firstCells]
 cases base<;>simp [Builtin.append_,run_underlying Tryz.underlying34,sizeOf,typeInfo,hi0,Builtin.lenOf,hle,hf,storeCells]
theorem wp_app_nil (w:World) {o:Oper} {a:Act} {K:Act→World→Prop} {Q:Exit→Act→World→Prop} (s x:Operand) (ho:o.op = .call { callee:=.builtin .append,args:=#[s,x],argTypes:=#[34,34] })
  (base:Option Addr) (n c:Nat) (hle:n≤c) (hs:a.eval s = .slice base n c) (hx:a.eval x = .slice none 0 0) (h:K (a.put o.dst (.slice base n c)) w):o.wp Tryz.prog a w K Q:=by
 have hr:=run_app_nil w o.type base n c hle
 unfold Oper.wp execOp
 simp only [ho,resolve,invoke,builtin,Sem.run_bind,Sem.run_pure,Result.andThen_ok,List.map_toArray,List.map_cons,List.map_nil,hs,hx,hr]
 exact h
theorem wpList_app_nil (w:World) {ops:Array Oper} {rest:List Oper} {o:Oper} {a:Act} {Q:Exit→Act→World→Prop} (hgd:o.guard=none) (s x:Operand) (ho:o.op = .call { callee:=.builtin .append,args:=#[s,x],argTypes:=#[34,34] })
  (base:Option Addr) (n c:Nat) (hle:n≤c) (hs:a.eval s = .slice base n c) (hx:a.eval x = .slice none 0 0) (h:wpList Tryz.prog ops Q rest (a.put o.dst (.slice base n c)) w):wpList Tryz.prog ops Q (o :: rest) a w :=
 wpList_plain hgd fun _ hK=>wp_app_nil w s x ho base n c hle hs hx (hK _ _ h)
theorem step_app_nil (w:World) {ops:Array Oper} {o:Oper} {a:Act} {K:Act→World→Prop} {Q:Exit→Act→World→Prop} {E:Prop} (hgd:o.guard=none) (s x:Operand) (ho:o.op = .call { callee:=.builtin .append,args:=#[s,x],argTypes:=#[34,34] })
  (base:Option Addr) (n c:Nat) (hle:n≤c) (hs:a.eval s = .slice base n c) (hx:a.eval x = .slice none 0 0) (h:K (a.put o.dst (.slice base n c)) w):if Region.wanted o (yielded ops a.tmps)=true then Oper.wp Tryz.prog o a w K Q else E:=by
 have hw:Region.wanted o (yielded ops a.tmps)=true:=by simp [Region.wanted,hgd]
 rw [if_pos hw]
 exact wp_app_nil w s x ho base n c hle hs hx h
theorem flat_one {l:List Rg}:∀ u∈flat l,u.oneCell'=true:=by
 intro u hu
 unfold flat at hu
 rw [List.mem_flatMap] at hu
 obtain ⟨r,_,hu⟩:=hu
 simp at hu
 rcases hu with rfl | rfl<;>rfl
theorem take_two (l:List Rg) (k:Nat) (hk:k<l.length):l.take (k+1)=l.take k++[(lo l k,hi l k)]:=by
 rw [List.take_add_one,List.getElem?_eq_getElem hk,lo_get l k hk,hi_get l k hk];rfl
theorem ord_step {l:List Rg} (h:Ord l) (k:Nat) (hk:k<l.length) (h0:0<k):hi l (k-1)+1<lo l k∧lo l (k-1)≤hi l (k-1):=by
 have h1:=(List.pairwise_iff_getElem.1 h.2) (k-1) k (by omega) hk (by omega)
 have h2:=h.1 l[k-1] (List.getElem_mem _)
 rw [lo_get l k hk,hi_get l (k-1) (by omega),lo_get l (k-1) (by omega)]
 exact ⟨h1,h2⟩
theorem flat_last (l:List Rg) (k:Nat) (hk:k<l.length) (h0:0<k):(flat (l.take k))[(k-1)*2]? = some (.int .i64 (lo l (k-1)))∧(flat (l.take k))[(k-1)*2+1]? = some (.int .i64 (hi l (k-1))):=by
 have h1:=flat_even (l.take k) (k-1) (by rw [List.length_take];omega)
 have e1:lo (l.take k) (k-1)=lo l (k-1):=by unfold lo;rw [List.getElem?_take_of_lt (by omega)]
 have e2:hi (l.take k) (k-1)=hi l (k-1):=by unfold hi;rw [List.getElem?_take_of_lt (by omega)]
 rw [e1,e2] at h1
 exact h1
theorem joined_ord (s:Value) (l:List Rg) (W:World) (h:Sr W s l) (ho:Ord l) (hib:Inb l) (hlen:l.length≤100000) :
  Calls Tryz.prog 91 #[s] W fun e w'=>∃ s',e = .returned s'∧w'.ownsRow W.heap.size 80 2 s' l.length (flat l)∧(s' = .slice none 0 0↔l=[])∧Below W.heap.size W w':=by
 obtain ⟨i0,hi0,hz0,hz1,hz2⟩:=info_parts Tryz.info80
 obtain ⟨sa,cap,rfl,hcell⟩:=h
 have hord:=fun k hk h0=>ord_step ho k hk h0
 have hin:=fun k (hk:k<l.length)=>by have q:=hib l[k] (List.getElem_mem hk);rw [←lo_get l k hk,←hi_get l k hk] at q;exact q
 have hne:=fun k (hk:k<l.length)=>by have q:=ho.1 l[k] (List.getElem_mem hk);rw [←lo_get l k hk,←hi_get l k hk] at q;exact q
 obtain ⟨n,hn⟩:∃ n,l.length=n:=⟨_,rfl⟩
 have HN:Hid (l.length=n):=hn
 have HC:Hid _:=hcell
 have HORD:Hid _:=hord
 have HIN:Hid _:=hin
 have HNE:Hid _:=hne
 rw [hn] at hlen ⊢
 clear hn hcell hord hin hne ho hib
 go_enter Tryz.func91,Tryz.ntmps91
 go_wp2
 go_loopw [3,4,5,6] (fun sv i _ _ wr=>∃ (k:Nat),k≤n∧i = .int .i64 k∧wr.ownsRow W.heap.size 80 2 sv k (flat (l.take k))∧(sv = .slice none 0 0↔k=0)∧Below W.heap.size W wr) (fun _ i _ _ _=>n-(intOf i).toNat)
 case atStart=>exact ⟨0,Nat.zero_le _,rfl,World.ownsRow_nil _ _ _ _,by simp,Below.refl _ _⟩
 case round =>
  obtain ⟨k,hk,rfl,hrow,hnil,hB⟩:=hrel
  have hsz:=hB.size
  by_cases hlt:k<n
  ·have hkl:k<l.length:=by rw [HN.out];exact hlt
   obtain ⟨sb,off,rfl,hb,hcells⟩:=HC.out (by omega)
   obtain ⟨c1,c2⟩:=hcells k hkl
   have d1:=(hB.cell (p:=⟨sb,off+k*2,none⟩) hb).trans c1
   have d2:=(hB.cell (p:=⟨sb,off+k*2+1,none⟩) hb).trans c2
   have htk:=take_two l k hkl
   obtain ⟨x,hx⟩:∃ x,lo l k=x:=⟨_,rfl⟩
   obtain ⟨y,hy⟩:∃ y,hi l k=y:=⟨_,rfl⟩
   rw [hx] at d1 htk
   rw [hy] at d2 htk
   have HTK:Hid (l.take (k+1)=l.take k++[(x,y)]):=htk
   have hlt':(k:Int)<(n:Int):=by omega
   rcases Nat.eq_zero_or_pos k with hk0 | hk0
   ·subst hk0
    have hsv:=hnil.2 rfl
    subst hsv
    clear hcells c1 c2 hx hy htk hnil
    go_wp2
    go_loopw [5] (fun j wq=>j = .int .i64 0∧∃ m,wq=wr.drewN m) (fun _ _=>0)
    case atStart=>exact ⟨rfl,0,rfl⟩
    case round =>
     obtain ⟨rfl,m,rfl⟩:=hrel
     go_wp2
     go_quiet (fail)
     obtain ⟨Wd,hWd⟩:∃ Wd,(wr.drewN m).drewN nq=Wd:=⟨_,rfl⟩
     have hBd:Below W.heap.size W Wd:=by rw [←hWd];exact below_drewN (below_drewN hB m) nq
     have d1':Wd.cell? ⟨sb,off+0*2,none⟩=some (.int .i64 x):=by rw [←hWd];exact d1
     have d2':Wd.cell? ⟨sb,off+0*2+1,none⟩=some (.int .i64 y):=by rw [←hWd];exact d2
     rw [hWd]
     simp only [Nat.zero_mul,Nat.add_zero] at d1' d2'
     clear hWd d1 d2
     go_upto_region 10 with (at_builtin;refine wpList_app_nil _ rfl _ _ rfl none 0 0 (Nat.le_refl _) rfl rfl ?_)
     go_upto_region 11 with (at_builtin;refine wpList_append_own _ rfl _ _ 34 rfl W.heap.size 80 i0 (.agg #[.int .i64 0,.int .i64 0]) 2 16 Tryz.underlying34 hi0 hz0 hz1 hz2 rfl (by decide) _ _ _ rfl (World.ownsRow_nil _ _ _ _) ⟨Wd.heap.size,0,none⟩ 1 1 [.int .i64 x,.int .i64 y] rfl rfl (cell_two_new _ _ _ _) (by simp [Value.oneCell']) (by unfold maxLen;omega) (by omega) (by have:=hBd.size;simp;omega) ?_;intro v' w1 hown' hgrow _;simp only [Nat.zero_add,List.nil_append] at hown';obtain ⟨g',cap',rfl⟩:=ownsRow_succ hown';obtain ⟨hq1,hq2⟩:=own_capsR hown';have hB1:Below W.heap.size W w1:=(hBd.alloc hBd.size _).grown hgrow (by have:=hBd.size;simp;omega) (fun j e=>by cases e))
     go_wp2_with (at_builtin;refine wpList_app_nil _ rfl _ _ rfl _ _ _ hq1 rfl rfl ?_)
     go_roundw
     case rel=>exact ⟨1,by omega,by go_num,by rw [HTK.out];exact hown',by simp,hB1⟩
     case measure=>simp [intOf];omega
   ·obtain ⟨gs,cs,rfl,hgs1,hgs2,hcs⟩:=own_some hrow hk0
    obtain ⟨hq1,hq2⟩:=own_capsR hrow
    obtain ⟨f1,f2⟩:=flat_last l k hkl hk0
    have p1:=hcs _ _ f1
    obtain ⟨o1,o2⟩:=HORD.out k hkl hk0
    rw [hx] at o1
    obtain ⟨x0,hx0⟩:∃ x0,lo l (k-1)=x0:=⟨_,rfl⟩
    rw [hx0] at p1 o2
    have hle:(x0:Int)≤x:=by omega
    have hd:decide (x<x0)=false:=by simp;omega
    have hd0:decide (0<(k:Int))=true:=by simp;omega
    have hk1:(k:Int)-1=((k-1:Nat):Int):=by omega
    have HCS:Hid _:=hcs
    clear hcells c1 c2 hx hy htk hnil f1 f2 o1 o2 hx0 hcs
    go_wp2
    go_loopw [5] (fun j wq=>j = .int .i64 k∧∃ m,wq=wr.drewN m) (fun _ _=>0)
    case atStart=>exact ⟨rfl,0,rfl⟩
    case round =>
     obtain ⟨rfl,m,rfl⟩:=hrel
     go_wp2
     go_quiet (fail)
     obtain ⟨Wd,hWd⟩:∃ Wd,(wr.drewN m).drewN nq=Wd:=⟨_,rfl⟩
     have hBd:Below W.heap.size W Wd:=by rw [←hWd];exact below_drewN (below_drewN hB m) nq
     have d1':Wd.cell? ⟨sb,off+k*2,none⟩=some (.int .i64 x):=by rw [←hWd];exact d1
     have d2':Wd.cell? ⟨sb,off+k*2+1,none⟩=some (.int .i64 y):=by rw [←hWd];exact d2
     have hrow':Wd.ownsRow W.heap.size 80 2 (.slice (some ⟨gs,0,none⟩) k cs) k (flat (l.take k)):=by rw [←hWd];exact hrow
     rw [hWd]
     have hnews:∀ j u,(flat (l.take k))[j]? = some u→Wd.cell? ((⟨gs,0,none⟩:Addr).add j)=some u:=fun j u hj=>by rw [Addr.add_lit,Nat.zero_add,←hWd];exact HCS.out j u hj
     have hgsd:gs<Wd.heap.size:=by rw [←hWd];exact hgs2
     have hfl:(flat (l.take k)).length=k*2:=by rw [flat_length,List.length_take];omega
     clear hWd d1 d2 hrow p1
     go_upto_region 10 with (at_builtin;refine wpList_append_own _ rfl _ _ 34 rfl Wd.heap.size 80 i0 (.agg #[.int .i64 0,.int .i64 0]) 2 16 Tryz.underlying34 hi0 hz0 hz1 hz2 rfl (by decide) _ _ _ rfl (World.ownsRow_nil _ _ _ _) ⟨gs,0,none⟩ k cs (flat (l.take k)) rfl hfl hnews flat_one (by unfold maxLen;omega) (by omega) (Nat.le_refl _) ?_;intro v1 w1 hown1 hgrow1 _;simp only [Nat.zero_add,List.nil_append] at hown1;obtain ⟨g1,cap1,rfl⟩:∃ g1 cap1,v1 = .slice (some ⟨g1,0,none⟩) k cap1:=(by obtain ⟨g1,cap1,e,_⟩:=own_some hown1 hk0;exact ⟨g1,cap1,e⟩);have hb1:Below Wd.heap.size Wd w1:=(Below.refl _ Wd).grown hgrow1 (Nat.le_refl _) (fun j e=>by cases e))
     have hBw1:Below W.heap.size W w1:=hBd.trans (hb1.mono hBd.size)
     have e1:=(hb1.cell (p:=⟨sb,off+k*2,none⟩) (by show sb<_;have:=hBd.size;omega)).trans d1'
     have e2:=(hb1.cell (p:=⟨sb,off+k*2+1,none⟩) (by show sb<_;have:=hBd.size;omega)).trans d2'
     go_upto_region 11 with (at_builtin;refine wpList_append_own _ rfl _ _ 34 rfl Wd.heap.size 80 i0 (.agg #[.int .i64 0,.int .i64 0]) 2 16 Tryz.underlying34 hi0 hz0 hz1 hz2 rfl (by decide) _ _ _ rfl (World.ownsRow.alloc hown1 _) ⟨w1.heap.size,0,none⟩ 1 1 [.int .i64 x,.int .i64 y] rfl rfl (cell_two_new _ _ _ _) (by simp [Value.oneCell']) (by unfold maxLen;omega) (by omega) (by have:=hb1.size;simp;omega) ?_;intro v2 w2 hown2 hgrow2 _;obtain ⟨g2,cap2,rfl⟩:=ownsRow_succ hown2;have hb2:Below Wd.heap.size Wd w2:=(hb1.alloc hb1.size _).grown hgrow2 (by have:=hb1.size;simp;omega) (fun j e=>(World.ownsRow.lt hown1 j e).1))
     have hBw2:Below W.heap.size W w2:=hBd.trans (hb2.mono hBd.size)
     have hks:(cs:Int)≤9223372036854775807:=by omega
     have hkc:(k:Int)≤(cs:Int):=by omega
     by_cases hck:cs=k
     ·subst hck
      go_wp2_with (at_builtin;refine wpList_append_own _ rfl _ _ 34 rfl Wd.heap.size 80 i0 (.agg #[.int .i64 0,.int .i64 0]) 2 16 Tryz.underlying34 hi0 hz0 hz1 hz2 rfl (by decide) _ _ _ rfl hown2 _ 0 _ [] rfl rfl (fun j u hj=>by cases hj) (fun u hu=>by cases hu) (by unfold maxLen;omega) (by omega) hb2.size ?_;intro v3 w3 hown3 hgrow3 hn3;simp only [Nat.add_zero,List.append_nil] at hown3;obtain ⟨g3,cap3,rfl⟩:=ownsRow_succ hown3;have hB3:Below W.heap.size W w3:=hBw2.grown hgrow3 hBw2.size (fun j e=>Nat.le_trans hBd.size (World.ownsRow.lt hown2 j e).1))
      go_roundw
      case rel=>exact ⟨cs+1,by omega,by go_num,by rw [HTK.out,flat_two];exact own_base hown3 hBd.size,by simp,hB3⟩
      case measure=>simp [intOf];omega
     ·have hck2:¬(cs:Int)=(k:Int):=by omega
      go_wp2_with (at_builtin;refine wpList_append_own _ rfl _ _ 34 rfl Wd.heap.size 80 i0 (.agg #[.int .i64 0,.int .i64 0]) 2 16 Tryz.underlying34 hi0 hz0 hz1 hz2 rfl (by decide) _ _ _ rfl hown2 _ 0 _ [] rfl rfl (fun j u hj=>by cases hj) (fun u hu=>by cases hu) (by unfold maxLen;omega) (by omega) hb2.size ?_;intro v3 w3 hown3 hgrow3 hn3;simp only [Nat.add_zero,List.append_nil] at hown3;obtain ⟨g3,cap3,rfl⟩:=ownsRow_succ hown3;have hB3:Below W.heap.size W w3:=hBw2.grown hgrow3 hBw2.size (fun j e=>Nat.le_trans hBd.size (World.ownsRow.lt hown2 j e).1))
      go_roundw
      case rel=>exact ⟨k+1,by omega,by go_num,by rw [HTK.out,flat_two];exact own_base hown3 hBd.size,by simp,hB3⟩
      case measure=>simp [intOf];omega
  ·obtain rfl:k=n:=by omega
   have htk:l.take k=l:=by rw [←HN.out];exact List.take_length
   rw [htk] at hrow
   have HL:Hid (l.take k=l):=htk
   clear htk
   obtain ⟨sq,cq,rfl⟩:∃ a c,u3 = .slice a k c:=by
    rcases hrow.2 with ⟨e1,e2⟩ | ⟨g',cap',cur,e1,_⟩
    ·exact ⟨none,0,by rw [e1,e2]⟩
    ·exact ⟨_,_,e1⟩
   have HCELL:Hid (0<k→∃ gs,sq=some ⟨gs,0,none⟩∧gs<wr.heap.size∧∀ j u,(flat l)[j]? = some u→wr.cell? ⟨gs,j,none⟩=some u):=fun h0=>by
    obtain ⟨gs,cs,e,_,h2,h3⟩:=own_some hrow h0
    injection e with e1 _ _
    exact ⟨gs,e1,h2,h3⟩
   clear hnil hrow
   obtain ⟨Wb,hWb⟩:∃ Wb,Wb=wr:=⟨_,rfl⟩
   subst hWb
   go_wp2
   go_loopw [7,8,9] (fun o i _ wr=>∃ (j:Nat),j≤k∧i = .int .i64 j∧wr.ownsRow Wb.heap.size 80 2 o j (flat (l.take j))∧(o = .slice none 0 0↔j=0)∧Below Wb.heap.size Wb wr) (fun _ i _ _=>k-(intOf i).toNat)
   case atStart=>exact ⟨0,Nat.zero_le _,rfl,World.ownsRow_nil _ _ _ _,by simp,Below.refl _ _⟩
   case round =>
    obtain ⟨j,hj,rfl,hrow,hnil,hBq⟩:=hrel
    have hszq:=hBq.size
    by_cases hlt2:j<k
    ·have hjl:j<l.length:=by rw [HN.out];exact hlt2
     obtain ⟨gs,rfl,hgs,hcs⟩:=HCELL.out (by omega)
     obtain ⟨e1,e2⟩:=flat_even l j hjl
     have d1:=(hBq.cell (p:=⟨gs,j*2,none⟩) hgs).trans (hcs _ _ e1)
     have d2:=(hBq.cell (p:=⟨gs,j*2+1,none⟩) hgs).trans (hcs _ _ e2)
     have htk:=take_two l j hjl
     obtain ⟨x,hx⟩:∃ x,lo l j=x:=⟨_,rfl⟩
     obtain ⟨y,hy⟩:∃ y,hi l j=y:=⟨_,rfl⟩
     rw [hx] at d1 htk
     rw [hy] at d2 htk
     have HTK:Hid (l.take (j+1)=l.take j++[(x,y)]):=htk
     have hlt':(j:Int)<(k:Int):=by omega
     rcases Nat.eq_zero_or_pos j with hj0 | hj0
     ·subst hj0
      have hov:=hnil.2 rfl
      subst hov
      clear hcs e1 e2 hx hy htk hnil
      go_wp2
      go_quiet (fail)
      obtain ⟨Wd,hWd⟩:∃ Wd,wr.drewN nq=Wd:=⟨_,rfl⟩
      have hBd:Below Wb.heap.size Wb Wd:=by rw [←hWd];exact below_drewN hBq nq
      have d1':Wd.cell? ⟨gs,0,none⟩=some (.int .i64 x):=by rw [←hWd];simpa using d1
      have d2':Wd.cell? ⟨gs,1,none⟩=some (.int .i64 y):=by rw [←hWd];simpa using d2
      rw [hWd]
      clear hWd d1 d2
      go_wp2_with (at_builtin;refine wpList_append_own _ rfl _ _ 34 rfl Wb.heap.size 80 i0 (.agg #[.int .i64 0,.int .i64 0]) 2 16 Tryz.underlying34 hi0 hz0 hz1 hz2 rfl (by decide) _ _ _ rfl (World.ownsRow_nil _ _ _ _) ⟨Wd.heap.size,0,none⟩ 1 1 [.int .i64 x,.int .i64 y] rfl rfl (cell_two_new _ _ _ _) (by simp [Value.oneCell']) (by unfold maxLen;omega) (by omega) (by have:=hBd.size;simp;omega) ?_;intro v' w1 hown' hgrow hnl;simp only [Nat.zero_add,List.nil_append] at hown';have hB1:Below Wb.heap.size Wb w1:=(hBd.alloc hBd.size _).grown hgrow (by have:=hBd.size;simp;omega) (fun j e=>by cases e))
      go_roundw
      case rel=>exact ⟨1,by omega,by go_num,by rw [HTK.out];exact hown',by simp [hnl],hB1⟩
      case measure=>simp [intOf];omega
     ·obtain ⟨go,co,rfl,hgo1,hgo2,hco⟩:=own_some hrow hj0
      obtain ⟨f1,f2⟩:=flat_last l j hjl hj0
      have p2:=hco _ _ f2
      obtain ⟨o1,o2⟩:=HORD.out j hjl hj0
      obtain ⟨n1,n2⟩:=HIN.out (j-1) (by omega)
      rw [hx] at o1
      obtain ⟨y0,hy0⟩:∃ y0,hi l (j-1)=y0:=⟨_,rfl⟩
      rw [hy0] at p2 o1 o2 n2
      have hd:decide (x≤y0+1)=false:=by simp;omega
      have hd0:decide (0<(j:Int))=true:=by simp;omega
      have hj1:(j:Int)-1=((j-1:Nat):Int):=by omega
      have hy1 : -1000000≤y0:=by omega
      clear hcs e1 e2 hx hy htk hnil f1 f2 hy0 hco n1
      go_wp2
      go_quiet (fail)
      obtain ⟨Wd,hWd⟩:∃ Wd,wr.drewN nq=Wd:=⟨_,rfl⟩
      have hBd:Below Wb.heap.size Wb Wd:=by rw [←hWd];exact below_drewN hBq nq
      have d1':Wd.cell? ⟨gs,j*2,none⟩=some (.int .i64 x):=by rw [←hWd];exact d1
      have d2':Wd.cell? ⟨gs,j*2+1,none⟩=some (.int .i64 y):=by rw [←hWd];exact d2
      have hrow':Wd.ownsRow Wb.heap.size 80 2 (.slice (some ⟨go,0,none⟩) j co) j (flat (l.take j)):=by rw [←hWd];exact hrow
      rw [hWd]
      clear hWd d1 d2 hrow p2
      go_wp2_with (at_builtin;refine wpList_append_own _ rfl _ _ 34 rfl Wb.heap.size 80 i0 (.agg #[.int .i64 0,.int .i64 0]) 2 16 Tryz.underlying34 hi0 hz0 hz1 hz2 rfl (by decide) _ _ _ rfl (World.ownsRow.alloc hrow' _) ⟨Wd.heap.size,0,none⟩ 1 1 [.int .i64 x,.int .i64 y] rfl rfl (cell_two_new _ _ _ _) (by simp [Value.oneCell']) (by unfold maxLen;omega) (by omega) (by have:=hBd.size;simp;omega) ?_;intro v' w1 hown' hgrow hnl;have hB1:Below Wb.heap.size Wb w1:=(hBd.alloc hBd.size _).grown hgrow (by have:=hBd.size;simp;omega) (fun j e=>(World.ownsRow.lt hrow' j e).1))
      go_roundw
      case rel=>exact ⟨j+1,by omega,by go_num,by rw [HTK.out,flat_two];exact hown',by simp [hnl],hB1⟩
      case measure=>simp [intOf];omega
    ·obtain rfl:j=k:=by omega
     rw [HL.out] at hrow
     have hjl:(u7 = .slice none 0 0↔l=[]):=hnil.trans ⟨fun e=>List.eq_nil_of_length_eq_zero (by rw [HN.out];exact e),fun e=>by rw [←HN.out,e];rfl⟩
     have HJL:Hid (u7 = .slice none 0 0↔l=[]):=hjl
     clear hjl hnil
     go_wp2
     go_ret
     exact ⟨_,rfl,own_base hrow hsz,HJL.out,hB.trans (hBq.mono hsz)⟩
end Go.Proofs.YtghnfnieppfhgaaGreat.Dm
