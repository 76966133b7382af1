/- What is proved here: what packages kinds and store make of any domain: empty, with, narrower, tight, Same. What is proved here: kinds.Copy of any domain. -/
import Derived.Test.YtghnfnieppfhgaaGreatCaj
import Derived.Test.YtghnfnieppfhgaaGreatKaj
import Derived.Test.YtghnfnieppfhgaaGreatYOkj
import Derived.Test.YtghnfnieppfhgaaGreatKgj
import Derived.Test.YtghnfnieppfhgaaGreatAa
import Derived.Test.YtghnfnieppfhgaaGreatYSfj
import Derived.OwnWalk
set_option linter.unusedVariables false
set_option linter.unusedSimpArgs false
set_option maxRecDepth 100000
set_option maxHeartbeats 8000000
namespace Go.Proofs.YtghnfnieppfhgaaGreat
open Go.RowKit Go.Shelf
def bothA (a b:MD):MD:=if a.set then ofSD (St.bothD (sdM a) (sdM b)) else bothW a b
def sameA (a b:MD):Bool:=if a.set then St.sameD (sdM a) (sdM b) else decide (Dm.tk a.r=Dm.tk b.r)
theorem emptiness_d {X:Nat→Prop} {W:World} {c:List Value} {d:MD} (h:Dc X W c d) :
  Calls Tryz.prog 32 #[.agg c.toArray] W fun e w'=>e = .returned (.int .i64 (emptI (emptyA d)))∧Below W.heap.size W w':=by
 have hc:=h
 obtain ⟨b,ra,n0,rc,a1,n1,c1,a2,n2,c2,x,y,rfl,HE,H1,H2,H3⟩:=h.look
 clear h
 obtain ⟨W0,hW0⟩:∃ Q,W.alloc (Obj.cells #[.bool b,.slice ra n0 rc,.slice a1 n1 c1,.slice a2 n2 c2,.int .i64 x,.int .i64 y] 37)=Q:=⟨_,rfl⟩
 have hb0:Below W.heap.size W W0:=by rw [←hW0];exact (Below.refl _ W).alloc (Nat.le_refl _) _
 have HB0:Hid (Bx W0 W.heap.size #[.bool b,.slice ra n0 rc,.slice a1 n1 c1,.slice a2 n2 c2,.int .i64 x,.int .i64 y] 37):=by rw [←hW0];exact Bx.new _ _ _
 have ke:=empty_d (hc.below hb0)
 have HW0:Hid _:=hW0
 clear hW0 hc
 cases hM:emptyA d
 all_goals
  rw [hM] at ke
  clear hM
  go_enter Tryz.func32,Tryz.ntmps32
  go_wp2_with fail
  rw [HW0.out]
  refine ke.mono ?_
  rintro e w1 ⟨rfl,hb1⟩
  go_wp2
  go_ret
  exact ⟨ret_int (by rfl),hb0.trans (hb1.mono hb0.size)⟩
theorem with_s {X Y:Nat→Prop} {W:World} {c k:List Value} {d o:MD} (h:Dc X W c d) (h':Dc Y W k o) (hs:d.set=true) :
  Calls Tryz.prog 73 #[.agg c.toArray,.agg k.toArray] W fun e w'=>∃ q:List Value,e = .returned (.agg q.toArray)∧Ans W.heap.size w' q (ofSD (St.bothD (sdM d) (sdM o)))∧Below W.heap.size W w':=by
 obtain ⟨N,hN⟩:∃ N,W.heap.size=N:=⟨_,rfl⟩
 have h0:=h
 have h0':=h'
 obtain ⟨b,ra,n0,rc,a1,n1,c1,a2,n2,c2,x,y,rfl,HE,H1,H2,H3⟩:=h.look
 obtain ⟨b',ra',n0',rc',a1',n1',c1',a2',n2',c2',x',y',rfl,HE',H1',H2',H3'⟩:=h'.look
 obtain ⟨W0,hW0⟩:∃ Q,((W.alloc (Obj.cells #[.bool b,.slice ra n0 rc,.slice a1 n1 c1,.slice a2 n2 c2,.int .i64 x,.int .i64 y] 100)).alloc (Obj.cells #[.bool b',.slice ra' n0' rc',.slice a1' n1' c1',.slice a2' n2' c2',.int .i64 x',.int .i64 y'] 37)).alloc (Obj.cells #[.bool false,.slice none 0 0,.slice none 0 0,.slice none 0 0,.int .i64 0,.int .i64 0] 37)=Q:=⟨_,rfl⟩
 have hb0:Below W.heap.size W W0:=by rw [←hW0];exact (((Below.refl _ W).alloc (Nat.le_refl _) _).alloc (by simp) _).alloc (by simp;omega) _
 have HX:Hid (Bx W0 N #[.bool b,.slice ra n0 rc,.slice a1 n1 c1,.slice a2 n2 c2,.int .i64 x,.int .i64 y] 100):=by rw [←hW0];exact ((Bx.new' hN _ _).alloc _).alloc _
 have HY:Hid (Bx W0 (N+1) #[.bool b',.slice ra' n0' rc',.slice a1' n1' c1',.slice a2' n2' c2',.int .i64 x',.int .i64 y'] 37):=by rw [←hW0];exact (Bx.new' (by simp [hN]) _ _).alloc _
 have HR:Hid (Bx W0 (N+1+1) #[.bool false,.slice none 0 0,.slice none 0 0,.slice none 0 0,.int .i64 0,.int .i64 0] 37):=by rw [←hW0];exact Bx.new' (by simp [hN]) _ _
 have HS0:Hid (W0.heap.size=N+3):=by unfold Hid;rw [←hW0];simp [hN]
 have HB0:Hid (Below W.heap.size W W0):=hb0
 have kr:=St.both_dom _ _ (sdM d) (sdM o) W0 (h0.below hb0).di (h0'.below hb0).di
 have HW0:Hid _:=hW0
 have HN:Hid (W.heap.size=N):=hN
 clear h h0 hs HE H1 H2 H3 hW0 h' h0' HE' H1' H2' H3' hb0
 obtain ⟨z0,z1,z2,z3,z4,z5⟩:=HX.out.six
 obtain ⟨y0,y1,y2,y3,y4,y5⟩:=HY.out.six
 rw [hN]
 go_enter Tryz.func73,Tryz.ntmps73
 go_upto_region 1 with (fail)
 rw [HW0.out]
 clear hN
 go_wp2_with fail
 refine kr.mono ?_
 clear kr
 rintro e w1 ⟨v',rfl,hv,hb1⟩
 obtain ⟨q,rfl,hA⟩:=dv_ans hv
 have HRx:Hid (Bx w1 (N+1+1) _ _):=HR.out.below hb1
 have hsz:N+3≤w1.heap.size:=by have:=hb1.size;have:=HS0.out;omega
 have HANS:Hid (Ans W0.heap.size w1 q (ofSD (St.bothD (sdM d) (sdM o)))):=hA
 have HBL:Hid (Below N W w1):=by rw [←HN.out];exact HB0.out.trans (hb1.mono HB0.out.size)
 have hs0:=HS0.out
 clear hA hv hb1
 go_wp2_with (with_reducible refine stD rfl (.tmp 4) (.tmp 7) rfl (N+1+1) q (by with_unfolding_all rfl) (by with_unfolding_all rfl) HRx.out rfl HANS.out.one.1 HANS.out.one.2 ?_)
 refine ⟨rfl,_,resD rfl _ (HRx.out.setRow _) HANS.out.one.1 (by with_unfolding_all rfl),q,rfl,(HANS.out.setRow (by omega) _).less (by omega),?_⟩
 exact below_row HBL.out (by omega) _
theorem narrower_s {X:Nat→Prop} {W:World} {c:List Value} {d:MD} (h:Dc X W c d) (hs:d.set=true) :
  Calls Tryz.prog 49 #[.agg c.toArray] W fun e w'=>e = .returned (.func (.func 73) #[.agg c.toArray] #[])∧Below W.heap.size W w':=by
 obtain ⟨b,ra,n0,rc,a1,n1,c1,a2,n2,c2,x,y,rfl,HE,H1,H2,H3⟩:=h.look
 clear h
 obtain rfl:b=true:=by rw [←HE.out.1,hs]
 clear H1 H2 H3 HE hs
 go_enter Tryz.func49,Tryz.ntmps49
 go_wp2
 go_ret
 exact ⟨rfl,(Below.refl _ W).alloc (Nat.le_refl _) _⟩
theorem same_s {X Y:Nat→Prop} {W:World} {c k:List Value} {d o:MD} (h:Dc X W c d) (h':Dc Y W k o) (hs:d.set=true) :
  Calls Tryz.prog 50 #[.agg c.toArray,.agg k.toArray] W fun e w'=>e = .returned (.bool (St.sameD (sdM d) (sdM o)))∧Below W.heap.size W w':=by
 obtain ⟨N,hN⟩:∃ N,W.heap.size=N:=⟨_,rfl⟩
 have h0:=h
 have h0':=h'
 obtain ⟨b,ra,n0,rc,a1,n1,c1,a2,n2,c2,x,y,rfl,HE,H1,H2,H3⟩:=h.look
 obtain rfl:b=true:=by rw [←HE.out.1,hs]
 obtain ⟨b',ra',n0',rc',a1',n1',c1',a2',n2',c2',x',y',rfl,HE',H1',H2',H3'⟩:=h'.look
 obtain ⟨W0,hW0⟩:∃ Q,(W.alloc (Obj.cells #[.bool true,.slice ra n0 rc,.slice a1 n1 c1,.slice a2 n2 c2,.int .i64 x,.int .i64 y] 37)).alloc (Obj.cells #[.bool b',.slice ra' n0' rc',.slice a1' n1' c1',.slice a2' n2' c2',.int .i64 x',.int .i64 y'] 37)=Q:=⟨_,rfl⟩
 have hb0:Below W.heap.size W W0:=by rw [←hW0];exact ((Below.refl _ W).alloc (Nat.le_refl _) _).alloc (by simp) _
 have HX:Hid (Bx W0 N #[.bool true,.slice ra n0 rc,.slice a1 n1 c1,.slice a2 n2 c2,.int .i64 x,.int .i64 y] 37):=by rw [←hW0];exact (Bx.new' hN _ _).alloc _
 have HY:Hid (Bx W0 (N+1) #[.bool b',.slice ra' n0' rc',.slice a1' n1' c1',.slice a2' n2' c2',.int .i64 x',.int .i64 y'] 37):=by rw [←hW0];exact Bx.new' (by simp [hN]) _ _
 have HB0:Hid (Below W.heap.size W W0):=hb0
 have kr:=St.same_dom _ _ (sdM d) (sdM o) W0 (h0.below hb0).di (h0'.below hb0).di
 have HW0:Hid _:=hW0
 clear h h0 hs HE H1 H2 H3 hW0 h' h0' HE' H1' H2' H3' hb0
 obtain ⟨z0,z1,z2,z3,z4,z5⟩:=HX.out.six
 obtain ⟨y0,y1,y2,y3,y4,y5⟩:=HY.out.six
 generalize St.sameD (sdM d) (sdM o)=q at *
 go_enter Tryz.func50,Tryz.ntmps50
 go_upto_region 1 with (fail)
 rw [HW0.out]
 clear hN
 go_wp2_with fail
 refine kr.mono ?_
 clear kr
 rintro e w1 ⟨rfl,hb1⟩
 go_wp2
 go_ret
 exact ⟨rfl,HB0.out.trans (hb1.mono HB0.out.size)⟩
theorem same_d {X Y:Nat→Prop} {W:World} {c k:List Value} {d o:MD} (h:Dc X W c d) (h':Dc Y W k o) (hk:d.set=o.set) (hf:Dm.FitsR d.r) (hf':Dm.FitsR o.r) :
  Calls Tryz.prog 50 #[.agg c.toArray,.agg k.toArray] W fun e w'=>e = .returned (.bool (sameA d o))∧Below W.heap.size W w':=by
 unfold sameA
 cases hs:d.set
 ·exact same_w h h' hs (by rw [←hk];exact hs) hf hf'
 ·exact same_s h h' hs
theorem run_app0r (w:World) (ty:TypeId) (g:Nat) (a:Option Addr) (c':Nat):(Builtin.append_ #[34,34] ty #[.slice (some ⟨g,0,none⟩) 0 0,.slice a 0 c']).run Tryz.prog w = .ok (.slice (some ⟨g,0,none⟩) 0 0) w:=by
 obtain ⟨i0,hi0,hz0,hz1,hz2⟩:=info_parts Dm.Tryz.info80
 have hf:(Builtin.firstCells i0.size 0 (.slice a 0 c')).run Tryz.prog w = .ok #[] w:=by cases a<;>simp [Builtin.firstCells,loadCells,loadCellsFrom]
 simp [Builtin.append_,run_underlying Tryz.underlying34,sizeOf,typeInfo,hi0,Builtin.lenOf,hf,storeCells]
theorem clone0r (a:Option Addr) (c:Nat) (W:World):Calls Tryz.prog 78 #[.slice a 0 c] W fun e w'=>∃ a' c',e = .returned (.slice a' 0 c')∧Below W.heap.size W w':=by
 have hnil:∀ (w:World) (a:Option Addr) (n c n' c':Nat),(binOp .eql 34 (.slice a n c) (.slice none n' c')).run Tryz.prog w = .ok (.bool a.isNone) w:=fun w a n c n' c'=>Lib.run_eql_slice_nil w _ _ a n c n' c' Tryz.underlying34
 have happ:=run_app0r
 cases a with
 | none =>
  go_enter Tryz.func78,Tryz.ntmps78
  go_wp2
  go_ret
  exact ⟨none,0,rfl,Below.refl _ _⟩
 | some ad =>
  go_enter Tryz.func78,Tryz.ntmps78
  go_wp2
  go_ret
  exact ⟨_,_,rfl,(Below.refl _ W).alloc (Nat.le_refl _) _⟩
theorem cloneR_d {X:Nat→Prop} {W:World} {p:Option Addr} {n k:Nat} {l:List Dm.Rg} (h:Rm X W (.slice p n k) l) (hl:l.length≤4096) :
  Calls Tryz.prog 78 #[.slice p n k] W fun e w'=>∃ a c,e = .returned (.slice a n c)∧Ru (fun b=>b<W.heap.size) w' (.slice a n c) l∧Below W.heap.size W w':=by
 have hn:l.length=n:=by obtain ⟨a,c,e,_⟩:=h;injection e with _ e _;exact e.symm
 rcases Nat.eq_zero_or_pos l.length with h0 | h0
 ·obtain rfl:n=0:=by omega
  refine (clone0r p k W).mono ?_
  rintro e w' ⟨a',c',rfl,hb⟩
  exact ⟨a',c',rfl,⟨a',c',by rw [h0],fun q=>by omega⟩,hb⟩
 ·refine (Dm.clone_any p n k l W h.sr h0 hl).mono ?_
  rintro e w' ⟨s,rfl,ho,hb⟩
  have hr:=ru_own (X:=fun b=>b<W.heap.size) ho (fun b q=>q)
  obtain ⟨a,c,rfl,hh⟩:=id hr
  rw [hn] at hr
  exact ⟨a,c,by rw [hn],hr,hb⟩
theorem cloneI_d {X:Nat→Prop} {W:World} {p:Option Addr} {n k:Nat} {l:List Int} (h:Nm X W (.slice p n k) l) (hl:l.length≤100000) :
  Calls Tryz.prog 79 #[.slice p n k] W fun e w'=>∃ a c,e = .returned (.slice a n c)∧Nu (fun b=>b<W.heap.size) w' (.slice a n c) l∧Below W.heap.size W w':=by
 have hn:l.length=n:=by obtain ⟨a,c,e,_⟩:=h;injection e with _ e _;exact e.symm
 refine (St.clone_any _ l W h.si hl).mono ?_
 rintro e w' ⟨s,rfl,ho,hb⟩
 have hr:=nu_own (X:=fun b=>b<W.heap.size) ho (fun b q=>q)
 obtain ⟨a,c,rfl,hh⟩:=id hr
 rw [hn] at hr
 exact ⟨a,c,by rw [hn],hr,hb⟩
theorem copy_u {X:Nat→Prop} {W:World} {c:List Value} {d:MD} (h:Dc X W c d) (hr:d.r.length≤4096) (hlo:d.lo.length≤100000) (hup:d.up.length≤100000) :
  Calls Tryz.prog 55 #[.agg c.toArray] W fun e w'=>∃ q:List Value,e = .returned (.agg q.toArray)∧(∀ Z:Nat→Prop,(∀ b,Z b→b<W.heap.size)→Du Z w' q d)∧Below W.heap.size W w':=by
 obtain ⟨b,ra,n0,rc,a1,n1,c1,a2,n2,c2,x,y,rfl,HE,H1,H2,H3⟩:=h.look
 obtain ⟨bw,hbw⟩:∃ q,W.heap.size=q:=⟨_,rfl⟩
 obtain ⟨W0,hW0⟩:∃ Q,(W.alloc (Obj.cells #[.bool b,.slice ra n0 rc,.slice a1 n1 c1,.slice a2 n2 c2,.int .i64 x,.int .i64 y] 37)).alloc (Obj.cells #[.bool false,.slice none 0 0,.slice none 0 0,.slice none 0 0,.int .i64 0,.int .i64 0] 37)=Q:=⟨_,rfl⟩
 have hb0:Below W.heap.size W W0:=by rw [←hW0];exact (((Below.refl _ W).alloc (Nat.le_refl _) _).alloc (by simp) _)
 have HBX:Hid (Bx W0 bw #[.bool b,.slice ra n0 rc,.slice a1 n1 c1,.slice a2 n2 c2,.int .i64 x,.int .i64 y] 37):=by rw [←hW0];exact (Bx.new' hbw _ _).alloc _
 have HRX:Hid (Bx W0 (bw+1) #[.bool false,.slice none 0 0,.slice none 0 0,.slice none 0 0,.int .i64 0,.int .i64 0] 37):=by rw [←hW0];exact Bx.new' (by simp [hbw]) _ _
 have KC:Hid (∀ X,Below W0.heap.size W0 X→Calls Tryz.prog 78 #[.slice ra n0 rc] X fun e w'=>∃ a c,e = .returned (.slice a n0 c)∧Ru (fun b=>b<X.heap.size) w' (.slice a n0 c) d.r∧Below X.heap.size X w'):=fun X hX=>cloneR_d ((H1.out.kept (Kept.of_below hb0)).kept (Kept.of_below hX)) hr
 have KL:Hid (∀ X,Below W0.heap.size W0 X→Calls Tryz.prog 79 #[.slice a1 n1 c1] X fun e w'=>∃ a c,e = .returned (.slice a n1 c)∧Nu (fun b=>b<X.heap.size) w' (.slice a n1 c) d.lo∧Below X.heap.size X w'):=fun X hX=>cloneI_d ((H2.out.kept (Kept.of_below hb0)).kept (Kept.of_below hX)) hlo
 have KU:Hid (∀ X,Below W0.heap.size W0 X→Calls Tryz.prog 79 #[.slice a2 n2 c2] X fun e w'=>∃ a c,e = .returned (.slice a n2 c)∧Nu (fun b=>b<X.heap.size) w' (.slice a n2 c) d.up∧Below X.heap.size X w'):=fun X hX=>cloneI_d ((H3.out.kept (Kept.of_below hb0)).kept (Kept.of_below hX)) hup
 have HB00:Hid (Below W.heap.size W W0):=hb0
 have HB0:Hid (Below W0.heap.size W0 W0.drew):=(Below.refl _ _).drew
 have HW0:Hid _:=hW0
 have HBW:Hid (W.heap.size=bw):=hbw
 have HBL:Hid (bw<W0.heap.size):=HBX.out.lt
 have HBL2:Hid (bw+1<W0.heap.size):=HRX.out.lt
 clear hW0 hbw hb0 h hr hlo hup H1 H2 H3
 go_enter Tryz.func55,Tryz.ntmps55
 go_upto_region 1 with (fail)
 rw [HW0.out,HBW.out]
 apply wp_ways6 (R:=fun pr kr p5 k5 p8 k8 w'=>∃ w3,Below W0.heap.size W0 w3∧Ru (fun b=>b<W0.heap.size) w3 (.slice pr n0 kr) d.r∧Nu (fun b=>b<W0.heap.size) w3 (.slice p5 n1 k5) d.lo∧Nu (fun b=>b<W0.heap.size) w3 (.slice p8 n2 k8) d.up∧w'=(((w3.setCell ⟨bw,1,none⟩ (.slice pr n0 kr)).setCell ⟨bw,2,none⟩ (.slice p5 n1 k5)).setCell ⟨bw,3,none⟩ (.slice p8 n2 k8)))
 case h =>
  have HB:=HB0
  refine wp_region_held_drew (S:=fun _:World=>True) (by kernel_rfl) trivial (fun hHeld=>?_)
  refine tkI 0 rfl hHeld ?_
  try simp only [Act.put,zS,eZ,eS]
  refine tkI 3 rfl hHeld ?_
  try simp only [Act.put,zS,eZ,eS]
  refine tkI 6 rfl hHeld ?_
  try simp only [Act.put,zS,eZ,eS]
  refine rd3 1 4 7 (fun K hK=>?_) (fun K hK=>?_) (fun K hK=>?_)
  focus
   obtain ⟨y0,y1,y2,y3,y4,y5⟩:=(HBX.out.below HB.out).six;go_simp;clear y0 y1 y2 y3 y4 y5;refine hK.out _ _ trivial (fun _=>?_);clear hK K;try simp only [Act.put,zS,eZ,eS]
   refine rd3 2 4 7 (fun K hK=>?_) (fun K hK=>?_) (fun K hK=>?_)
   focus
    go_simp;refine (KC.out _ HB.out).mono ?_;rintro e wn ⟨pr,kr,rfl,ho,hb⟩;(try replace HL:=hid (Nu.kept HL.out (Kept.of_below hb)));(try replace HU:=hid (Nu.kept HU.out (Kept.of_below hb)));have HR:Hid (Ru (fun b=>b<W0.heap.size) wn (.slice pr n0 kr) d.r):=ho.up (fun b q=>.inl (Nat.lt_of_lt_of_le q HB.out.size));replace HB:=hid (HB.out.trans (hb.mono HB.out.size));clear ho hb;refine hK.out _ _ trivial (fun _=>?_);clear hK K;try simp only [Act.put,zS,eZ,eS]
    refine rd2 4 7 (fun K hK=>?_) (fun K hK=>?_)
    focus
     obtain ⟨y0,y1,y2,y3,y4,y5⟩:=(HBX.out.below HB.out).six;go_simp;clear y0 y1 y2 y3 y4 y5;refine hK.out _ _ trivial (fun _=>?_);clear hK K;try simp only [Act.put,zS,eZ,eS]
     refine rd2 5 7 (fun K hK=>?_) (fun K hK=>?_)
     focus
      go_simp;refine (KL.out _ HB.out).mono ?_;rintro e wn ⟨p5,k5,rfl,ho,hb⟩;(try replace HR:=hid (Ru.kept HR.out (Kept.of_below hb)));(try replace HU:=hid (Nu.kept HU.out (Kept.of_below hb)));have HL:Hid (Nu (fun b=>b<W0.heap.size) wn (.slice p5 n1 k5) d.lo):=ho.up (fun b q=>.inl (Nat.lt_of_lt_of_le q HB.out.size));replace HB:=hid (HB.out.trans (hb.mono HB.out.size));clear ho hb;refine hK.out _ _ trivial (fun _=>?_);clear hK K;try simp only [Act.put,zS,eZ,eS]
      refine rd1 7 fun K hK=>?_
      obtain ⟨y0,y1,y2,y3,y4,y5⟩:=(HBX.out.below HB.out).six;go_simp;clear y0 y1 y2 y3 y4 y5;refine hK.out _ _ trivial (fun _=>?_);clear hK K;try simp only [Act.put,zS,eZ,eS]
      refine tkI 9 rfl hHeld ?_
      try simp only [Act.put,zS,eZ,eS]
      refine rd1 8 fun K hK=>?_
      go_simp;refine (KU.out _ HB.out).mono ?_;rintro e wn ⟨p8,k8,rfl,ho,hb⟩;(try replace HR:=hid (Ru.kept HR.out (Kept.of_below hb)));(try replace HL:=hid (Nu.kept HL.out (Kept.of_below hb)));have HU:Hid (Nu (fun b=>b<W0.heap.size) wn (.slice p8 n2 k8) d.up):=ho.up (fun b q=>.inl (Nat.lt_of_lt_of_le q HB.out.size));replace HB:=hid (HB.out.trans (hb.mono HB.out.size));clear ho hb;refine hK.out _ _ trivial (fun _=>?_);clear hK K;try simp only [Act.put,zS,eZ,eS]
     rotate_left 1
     focus
      obtain ⟨y0,y1,y2,y3,y4,y5⟩:=(HBX.out.below HB.out).six;go_simp;clear y0 y1 y2 y3 y4 y5;refine hK.out _ _ trivial (fun _=>?_);clear hK K;try simp only [Act.put,zS,eZ,eS]
      refine tkI 9 rfl hHeld ?_
      try simp only [Act.put,zS,eZ,eS]
      refine rd1 5 fun K hK=>?_
      go_simp;refine (KL.out _ HB.out).mono ?_;rintro e wn ⟨p5,k5,rfl,ho,hb⟩;(try replace HR:=hid (Ru.kept HR.out (Kept.of_below hb)));(try replace HU:=hid (Nu.kept HU.out (Kept.of_below hb)));have HL:Hid (Nu (fun b=>b<W0.heap.size) wn (.slice p5 n1 k5) d.lo):=ho.up (fun b q=>.inl (Nat.lt_of_lt_of_le q HB.out.size));replace HB:=hid (HB.out.trans (hb.mono HB.out.size));clear ho hb;refine hK.out _ _ trivial (fun _=>?_);clear hK K;try simp only [Act.put,zS,eZ,eS]
      refine rd1 8 fun K hK=>?_
      go_simp;refine (KU.out _ HB.out).mono ?_;rintro e wn ⟨p8,k8,rfl,ho,hb⟩;(try replace HR:=hid (Ru.kept HR.out (Kept.of_below hb)));(try replace HL:=hid (Nu.kept HL.out (Kept.of_below hb)));have HU:Hid (Nu (fun b=>b<W0.heap.size) wn (.slice p8 n2 k8) d.up):=ho.up (fun b q=>.inl (Nat.lt_of_lt_of_le q HB.out.size));replace HB:=hid (HB.out.trans (hb.mono HB.out.size));clear ho hb;refine hK.out _ _ trivial (fun _=>?_);clear hK K;try simp only [Act.put,zS,eZ,eS]
    rotate_left 2
    focus
     obtain ⟨y0,y1,y2,y3,y4,y5⟩:=(HBX.out.below HB.out).six;go_simp;clear y0 y1 y2 y3 y4 y5;refine hK.out _ _ trivial (fun _=>?_);clear hK K;try simp only [Act.put,zS,eZ,eS]
     refine rd1 4 fun K hK=>?_
     obtain ⟨y0,y1,y2,y3,y4,y5⟩:=(HBX.out.below HB.out).six;go_simp;clear y0 y1 y2 y3 y4 y5;refine hK.out _ _ trivial (fun _=>?_);clear hK K;try simp only [Act.put,zS,eZ,eS]
     refine tkI 9 rfl hHeld ?_
     try simp only [Act.put,zS,eZ,eS]
     refine rd1 5 fun K hK=>?_
     go_simp;refine (KL.out _ HB.out).mono ?_;rintro e wn ⟨p5,k5,rfl,ho,hb⟩;(try replace HR:=hid (Ru.kept HR.out (Kept.of_below hb)));(try replace HU:=hid (Nu.kept HU.out (Kept.of_below hb)));have HL:Hid (Nu (fun b=>b<W0.heap.size) wn (.slice p5 n1 k5) d.lo):=ho.up (fun b q=>.inl (Nat.lt_of_lt_of_le q HB.out.size));replace HB:=hid (HB.out.trans (hb.mono HB.out.size));clear ho hb;refine hK.out _ _ trivial (fun _=>?_);clear hK K;try simp only [Act.put,zS,eZ,eS]
     refine rd1 8 fun K hK=>?_
     go_simp;refine (KU.out _ HB.out).mono ?_;rintro e wn ⟨p8,k8,rfl,ho,hb⟩;(try replace HR:=hid (Ru.kept HR.out (Kept.of_below hb)));(try replace HL:=hid (Nu.kept HL.out (Kept.of_below hb)));have HU:Hid (Nu (fun b=>b<W0.heap.size) wn (.slice p8 n2 k8) d.up):=ho.up (fun b q=>.inl (Nat.lt_of_lt_of_le q HB.out.size));replace HB:=hid (HB.out.trans (hb.mono HB.out.size));clear ho hb;refine hK.out _ _ trivial (fun _=>?_);clear hK K;try simp only [Act.put,zS,eZ,eS]
   rotate_left 3
   focus
    obtain ⟨y0,y1,y2,y3,y4,y5⟩:=(HBX.out.below HB.out).six;go_simp;clear y0 y1 y2 y3 y4 y5;refine hK.out _ _ trivial (fun _=>?_);clear hK K;try simp only [Act.put,zS,eZ,eS]
    refine rd2 2 7 (fun K hK=>?_) (fun K hK=>?_)
    focus
     go_simp;refine (KC.out _ HB.out).mono ?_;rintro e wn ⟨pr,kr,rfl,ho,hb⟩;(try replace HL:=hid (Nu.kept HL.out (Kept.of_below hb)));(try replace HU:=hid (Nu.kept HU.out (Kept.of_below hb)));have HR:Hid (Ru (fun b=>b<W0.heap.size) wn (.slice pr n0 kr) d.r):=ho.up (fun b q=>.inl (Nat.lt_of_lt_of_le q HB.out.size));replace HB:=hid (HB.out.trans (hb.mono HB.out.size));clear ho hb;refine hK.out _ _ trivial (fun _=>?_);clear hK K;try simp only [Act.put,zS,eZ,eS]
     refine rd2 5 7 (fun K hK=>?_) (fun K hK=>?_)
     focus
      go_simp;refine (KL.out _ HB.out).mono ?_;rintro e wn ⟨p5,k5,rfl,ho,hb⟩;(try replace HR:=hid (Ru.kept HR.out (Kept.of_below hb)));(try replace HU:=hid (Nu.kept HU.out (Kept.of_below hb)));have HL:Hid (Nu (fun b=>b<W0.heap.size) wn (.slice p5 n1 k5) d.lo):=ho.up (fun b q=>.inl (Nat.lt_of_lt_of_le q HB.out.size));replace HB:=hid (HB.out.trans (hb.mono HB.out.size));clear ho hb;refine hK.out _ _ trivial (fun _=>?_);clear hK K;try simp only [Act.put,zS,eZ,eS]
      refine rd1 7 fun K hK=>?_
      obtain ⟨y0,y1,y2,y3,y4,y5⟩:=(HBX.out.below HB.out).six;go_simp;clear y0 y1 y2 y3 y4 y5;refine hK.out _ _ trivial (fun _=>?_);clear hK K;try simp only [Act.put,zS,eZ,eS]
      refine tkI 9 rfl hHeld ?_
      try simp only [Act.put,zS,eZ,eS]
      refine rd1 8 fun K hK=>?_
      go_simp;refine (KU.out _ HB.out).mono ?_;rintro e wn ⟨p8,k8,rfl,ho,hb⟩;(try replace HR:=hid (Ru.kept HR.out (Kept.of_below hb)));(try replace HL:=hid (Nu.kept HL.out (Kept.of_below hb)));have HU:Hid (Nu (fun b=>b<W0.heap.size) wn (.slice p8 n2 k8) d.up):=ho.up (fun b q=>.inl (Nat.lt_of_lt_of_le q HB.out.size));replace HB:=hid (HB.out.trans (hb.mono HB.out.size));clear ho hb;refine hK.out _ _ trivial (fun _=>?_);clear hK K;try simp only [Act.put,zS,eZ,eS]
     rotate_left 1
     focus
      obtain ⟨y0,y1,y2,y3,y4,y5⟩:=(HBX.out.below HB.out).six;go_simp;clear y0 y1 y2 y3 y4 y5;refine hK.out _ _ trivial (fun _=>?_);clear hK K;try simp only [Act.put,zS,eZ,eS]
      refine tkI 9 rfl hHeld ?_
      try simp only [Act.put,zS,eZ,eS]
      refine rd1 5 fun K hK=>?_
      go_simp;refine (KL.out _ HB.out).mono ?_;rintro e wn ⟨p5,k5,rfl,ho,hb⟩;(try replace HR:=hid (Ru.kept HR.out (Kept.of_below hb)));(try replace HU:=hid (Nu.kept HU.out (Kept.of_below hb)));have HL:Hid (Nu (fun b=>b<W0.heap.size) wn (.slice p5 n1 k5) d.lo):=ho.up (fun b q=>.inl (Nat.lt_of_lt_of_le q HB.out.size));replace HB:=hid (HB.out.trans (hb.mono HB.out.size));clear ho hb;refine hK.out _ _ trivial (fun _=>?_);clear hK K;try simp only [Act.put,zS,eZ,eS]
      refine rd1 8 fun K hK=>?_
      go_simp;refine (KU.out _ HB.out).mono ?_;rintro e wn ⟨p8,k8,rfl,ho,hb⟩;(try replace HR:=hid (Ru.kept HR.out (Kept.of_below hb)));(try replace HL:=hid (Nu.kept HL.out (Kept.of_below hb)));have HU:Hid (Nu (fun b=>b<W0.heap.size) wn (.slice p8 n2 k8) d.up):=ho.up (fun b q=>.inl (Nat.lt_of_lt_of_le q HB.out.size));replace HB:=hid (HB.out.trans (hb.mono HB.out.size));clear ho hb;refine hK.out _ _ trivial (fun _=>?_);clear hK K;try simp only [Act.put,zS,eZ,eS]
    rotate_left 2
    focus
     obtain ⟨y0,y1,y2,y3,y4,y5⟩:=(HBX.out.below HB.out).six;go_simp;clear y0 y1 y2 y3 y4 y5;refine hK.out _ _ trivial (fun _=>?_);clear hK K;try simp only [Act.put,zS,eZ,eS]
     refine rd1 2 fun K hK=>?_
     go_simp;refine (KC.out _ HB.out).mono ?_;rintro e wn ⟨pr,kr,rfl,ho,hb⟩;(try replace HL:=hid (Nu.kept HL.out (Kept.of_below hb)));(try replace HU:=hid (Nu.kept HU.out (Kept.of_below hb)));have HR:Hid (Ru (fun b=>b<W0.heap.size) wn (.slice pr n0 kr) d.r):=ho.up (fun b q=>.inl (Nat.lt_of_lt_of_le q HB.out.size));replace HB:=hid (HB.out.trans (hb.mono HB.out.size));clear ho hb;refine hK.out _ _ trivial (fun _=>?_);clear hK K;try simp only [Act.put,zS,eZ,eS]
     refine tkI 9 rfl hHeld ?_
     try simp only [Act.put,zS,eZ,eS]
     refine rd1 5 fun K hK=>?_
     go_simp;refine (KL.out _ HB.out).mono ?_;rintro e wn ⟨p5,k5,rfl,ho,hb⟩;(try replace HR:=hid (Ru.kept HR.out (Kept.of_below hb)));(try replace HU:=hid (Nu.kept HU.out (Kept.of_below hb)));have HL:Hid (Nu (fun b=>b<W0.heap.size) wn (.slice p5 n1 k5) d.lo):=ho.up (fun b q=>.inl (Nat.lt_of_lt_of_le q HB.out.size));replace HB:=hid (HB.out.trans (hb.mono HB.out.size));clear ho hb;refine hK.out _ _ trivial (fun _=>?_);clear hK K;try simp only [Act.put,zS,eZ,eS]
     refine rd1 8 fun K hK=>?_
     go_simp;refine (KU.out _ HB.out).mono ?_;rintro e wn ⟨p8,k8,rfl,ho,hb⟩;(try replace HR:=hid (Ru.kept HR.out (Kept.of_below hb)));(try replace HL:=hid (Nu.kept HL.out (Kept.of_below hb)));have HU:Hid (Nu (fun b=>b<W0.heap.size) wn (.slice p8 n2 k8) d.up):=ho.up (fun b q=>.inl (Nat.lt_of_lt_of_le q HB.out.size));replace HB:=hid (HB.out.trans (hb.mono HB.out.size));clear ho hb;refine hK.out _ _ trivial (fun _=>?_);clear hK K;try simp only [Act.put,zS,eZ,eS]
   rotate_left 3
   focus
    obtain ⟨y0,y1,y2,y3,y4,y5⟩:=(HBX.out.below HB.out).six;go_simp;clear y0 y1 y2 y3 y4 y5;refine hK.out _ _ trivial (fun _=>?_);clear hK K;try simp only [Act.put,zS,eZ,eS]
    refine rd2 2 4 (fun K hK=>?_) (fun K hK=>?_)
    focus
     go_simp;refine (KC.out _ HB.out).mono ?_;rintro e wn ⟨pr,kr,rfl,ho,hb⟩;(try replace HL:=hid (Nu.kept HL.out (Kept.of_below hb)));(try replace HU:=hid (Nu.kept HU.out (Kept.of_below hb)));have HR:Hid (Ru (fun b=>b<W0.heap.size) wn (.slice pr n0 kr) d.r):=ho.up (fun b q=>.inl (Nat.lt_of_lt_of_le q HB.out.size));replace HB:=hid (HB.out.trans (hb.mono HB.out.size));clear ho hb;refine hK.out _ _ trivial (fun _=>?_);clear hK K;try simp only [Act.put,zS,eZ,eS]
     refine rd1 4 fun K hK=>?_
     obtain ⟨y0,y1,y2,y3,y4,y5⟩:=(HBX.out.below HB.out).six;go_simp;clear y0 y1 y2 y3 y4 y5;refine hK.out _ _ trivial (fun _=>?_);clear hK K;try simp only [Act.put,zS,eZ,eS]
     refine tkI 9 rfl hHeld ?_
     try simp only [Act.put,zS,eZ,eS]
     refine rd1 5 fun K hK=>?_
     go_simp;refine (KL.out _ HB.out).mono ?_;rintro e wn ⟨p5,k5,rfl,ho,hb⟩;(try replace HR:=hid (Ru.kept HR.out (Kept.of_below hb)));(try replace HU:=hid (Nu.kept HU.out (Kept.of_below hb)));have HL:Hid (Nu (fun b=>b<W0.heap.size) wn (.slice p5 n1 k5) d.lo):=ho.up (fun b q=>.inl (Nat.lt_of_lt_of_le q HB.out.size));replace HB:=hid (HB.out.trans (hb.mono HB.out.size));clear ho hb;refine hK.out _ _ trivial (fun _=>?_);clear hK K;try simp only [Act.put,zS,eZ,eS]
     refine rd1 8 fun K hK=>?_
     go_simp;refine (KU.out _ HB.out).mono ?_;rintro e wn ⟨p8,k8,rfl,ho,hb⟩;(try replace HR:=hid (Ru.kept HR.out (Kept.of_below hb)));(try replace HL:=hid (Nu.kept HL.out (Kept.of_below hb)));have HU:Hid (Nu (fun b=>b<W0.heap.size) wn (.slice p8 n2 k8) d.up):=ho.up (fun b q=>.inl (Nat.lt_of_lt_of_le q HB.out.size));replace HB:=hid (HB.out.trans (hb.mono HB.out.size));clear ho hb;refine hK.out _ _ trivial (fun _=>?_);clear hK K;try simp only [Act.put,zS,eZ,eS]
    rotate_left 1
    focus
     obtain ⟨y0,y1,y2,y3,y4,y5⟩:=(HBX.out.below HB.out).six;go_simp;clear y0 y1 y2 y3 y4 y5;refine hK.out _ _ trivial (fun _=>?_);clear hK K;try simp only [Act.put,zS,eZ,eS]
     refine rd1 2 fun K hK=>?_
     go_simp;refine (KC.out _ HB.out).mono ?_;rintro e wn ⟨pr,kr,rfl,ho,hb⟩;(try replace HL:=hid (Nu.kept HL.out (Kept.of_below hb)));(try replace HU:=hid (Nu.kept HU.out (Kept.of_below hb)));have HR:Hid (Ru (fun b=>b<W0.heap.size) wn (.slice pr n0 kr) d.r):=ho.up (fun b q=>.inl (Nat.lt_of_lt_of_le q HB.out.size));replace HB:=hid (HB.out.trans (hb.mono HB.out.size));clear ho hb;refine hK.out _ _ trivial (fun _=>?_);clear hK K;try simp only [Act.put,zS,eZ,eS]
     refine tkI 9 rfl hHeld ?_
     try simp only [Act.put,zS,eZ,eS]
     refine rd1 5 fun K hK=>?_
     go_simp;refine (KL.out _ HB.out).mono ?_;rintro e wn ⟨p5,k5,rfl,ho,hb⟩;(try replace HR:=hid (Ru.kept HR.out (Kept.of_below hb)));(try replace HU:=hid (Nu.kept HU.out (Kept.of_below hb)));have HL:Hid (Nu (fun b=>b<W0.heap.size) wn (.slice p5 n1 k5) d.lo):=ho.up (fun b q=>.inl (Nat.lt_of_lt_of_le q HB.out.size));replace HB:=hid (HB.out.trans (hb.mono HB.out.size));clear ho hb;refine hK.out _ _ trivial (fun _=>?_);clear hK K;try simp only [Act.put,zS,eZ,eS]
     refine rd1 8 fun K hK=>?_
     go_simp;refine (KU.out _ HB.out).mono ?_;rintro e wn ⟨p8,k8,rfl,ho,hb⟩;(try replace HR:=hid (Ru.kept HR.out (Kept.of_below hb)));(try replace HL:=hid (Nu.kept HL.out (Kept.of_below hb)));have HU:Hid (Nu (fun b=>b<W0.heap.size) wn (.slice p8 n2 k8) d.up):=ho.up (fun b q=>.inl (Nat.lt_of_lt_of_le q HB.out.size));replace HB:=hid (HB.out.trans (hb.mono HB.out.size));clear ho hb;refine hK.out _ _ trivial (fun _=>?_);clear hK K;try simp only [Act.put,zS,eZ,eS]
  rotate_left 8
  focus
   obtain ⟨y0,y1,y2,y3,y4,y5⟩:=(HBX.out.below HB.out).six;go_simp;clear y0 y1 y2 y3 y4 y5;refine hK.out _ _ trivial (fun _=>?_);clear hK K;try simp only [Act.put,zS,eZ,eS]
   refine rd2 1 7 (fun K hK=>?_) (fun K hK=>?_)
   focus
    obtain ⟨y0,y1,y2,y3,y4,y5⟩:=(HBX.out.below HB.out).six;go_simp;clear y0 y1 y2 y3 y4 y5;refine hK.out _ _ trivial (fun _=>?_);clear hK K;try simp only [Act.put,zS,eZ,eS]
    refine rd2 2 7 (fun K hK=>?_) (fun K hK=>?_)
    focus
     go_simp;refine (KC.out _ HB.out).mono ?_;rintro e wn ⟨pr,kr,rfl,ho,hb⟩;(try replace HL:=hid (Nu.kept HL.out (Kept.of_below hb)));(try replace HU:=hid (Nu.kept HU.out (Kept.of_below hb)));have HR:Hid (Ru (fun b=>b<W0.heap.size) wn (.slice pr n0 kr) d.r):=ho.up (fun b q=>.inl (Nat.lt_of_lt_of_le q HB.out.size));replace HB:=hid (HB.out.trans (hb.mono HB.out.size));clear ho hb;refine hK.out _ _ trivial (fun _=>?_);clear hK K;try simp only [Act.put,zS,eZ,eS]
     refine rd2 5 7 (fun K hK=>?_) (fun K hK=>?_)
     focus
      go_simp;refine (KL.out _ HB.out).mono ?_;rintro e wn ⟨p5,k5,rfl,ho,hb⟩;(try replace HR:=hid (Ru.kept HR.out (Kept.of_below hb)));(try replace HU:=hid (Nu.kept HU.out (Kept.of_below hb)));have HL:Hid (Nu (fun b=>b<W0.heap.size) wn (.slice p5 n1 k5) d.lo):=ho.up (fun b q=>.inl (Nat.lt_of_lt_of_le q HB.out.size));replace HB:=hid (HB.out.trans (hb.mono HB.out.size));clear ho hb;refine hK.out _ _ trivial (fun _=>?_);clear hK K;try simp only [Act.put,zS,eZ,eS]
      refine rd1 7 fun K hK=>?_
      obtain ⟨y0,y1,y2,y3,y4,y5⟩:=(HBX.out.below HB.out).six;go_simp;clear y0 y1 y2 y3 y4 y5;refine hK.out _ _ trivial (fun _=>?_);clear hK K;try simp only [Act.put,zS,eZ,eS]
      refine tkI 9 rfl hHeld ?_
      try simp only [Act.put,zS,eZ,eS]
      refine rd1 8 fun K hK=>?_
      go_simp;refine (KU.out _ HB.out).mono ?_;rintro e wn ⟨p8,k8,rfl,ho,hb⟩;(try replace HR:=hid (Ru.kept HR.out (Kept.of_below hb)));(try replace HL:=hid (Nu.kept HL.out (Kept.of_below hb)));have HU:Hid (Nu (fun b=>b<W0.heap.size) wn (.slice p8 n2 k8) d.up):=ho.up (fun b q=>.inl (Nat.lt_of_lt_of_le q HB.out.size));replace HB:=hid (HB.out.trans (hb.mono HB.out.size));clear ho hb;refine hK.out _ _ trivial (fun _=>?_);clear hK K;try simp only [Act.put,zS,eZ,eS]
     rotate_left 1
     focus
      obtain ⟨y0,y1,y2,y3,y4,y5⟩:=(HBX.out.below HB.out).six;go_simp;clear y0 y1 y2 y3 y4 y5;refine hK.out _ _ trivial (fun _=>?_);clear hK K;try simp only [Act.put,zS,eZ,eS]
      refine tkI 9 rfl hHeld ?_
      try simp only [Act.put,zS,eZ,eS]
      refine rd1 5 fun K hK=>?_
      go_simp;refine (KL.out _ HB.out).mono ?_;rintro e wn ⟨p5,k5,rfl,ho,hb⟩;(try replace HR:=hid (Ru.kept HR.out (Kept.of_below hb)));(try replace HU:=hid (Nu.kept HU.out (Kept.of_below hb)));have HL:Hid (Nu (fun b=>b<W0.heap.size) wn (.slice p5 n1 k5) d.lo):=ho.up (fun b q=>.inl (Nat.lt_of_lt_of_le q HB.out.size));replace HB:=hid (HB.out.trans (hb.mono HB.out.size));clear ho hb;refine hK.out _ _ trivial (fun _=>?_);clear hK K;try simp only [Act.put,zS,eZ,eS]
      refine rd1 8 fun K hK=>?_
      go_simp;refine (KU.out _ HB.out).mono ?_;rintro e wn ⟨p8,k8,rfl,ho,hb⟩;(try replace HR:=hid (Ru.kept HR.out (Kept.of_below hb)));(try replace HL:=hid (Nu.kept HL.out (Kept.of_below hb)));have HU:Hid (Nu (fun b=>b<W0.heap.size) wn (.slice p8 n2 k8) d.up):=ho.up (fun b q=>.inl (Nat.lt_of_lt_of_le q HB.out.size));replace HB:=hid (HB.out.trans (hb.mono HB.out.size));clear ho hb;refine hK.out _ _ trivial (fun _=>?_);clear hK K;try simp only [Act.put,zS,eZ,eS]
    rotate_left 2
    focus
     obtain ⟨y0,y1,y2,y3,y4,y5⟩:=(HBX.out.below HB.out).six;go_simp;clear y0 y1 y2 y3 y4 y5;refine hK.out _ _ trivial (fun _=>?_);clear hK K;try simp only [Act.put,zS,eZ,eS]
     refine rd1 2 fun K hK=>?_
     go_simp;refine (KC.out _ HB.out).mono ?_;rintro e wn ⟨pr,kr,rfl,ho,hb⟩;(try replace HL:=hid (Nu.kept HL.out (Kept.of_below hb)));(try replace HU:=hid (Nu.kept HU.out (Kept.of_below hb)));have HR:Hid (Ru (fun b=>b<W0.heap.size) wn (.slice pr n0 kr) d.r):=ho.up (fun b q=>.inl (Nat.lt_of_lt_of_le q HB.out.size));replace HB:=hid (HB.out.trans (hb.mono HB.out.size));clear ho hb;refine hK.out _ _ trivial (fun _=>?_);clear hK K;try simp only [Act.put,zS,eZ,eS]
     refine tkI 9 rfl hHeld ?_
     try simp only [Act.put,zS,eZ,eS]
     refine rd1 5 fun K hK=>?_
     go_simp;refine (KL.out _ HB.out).mono ?_;rintro e wn ⟨p5,k5,rfl,ho,hb⟩;(try replace HR:=hid (Ru.kept HR.out (Kept.of_below hb)));(try replace HU:=hid (Nu.kept HU.out (Kept.of_below hb)));have HL:Hid (Nu (fun b=>b<W0.heap.size) wn (.slice p5 n1 k5) d.lo):=ho.up (fun b q=>.inl (Nat.lt_of_lt_of_le q HB.out.size));replace HB:=hid (HB.out.trans (hb.mono HB.out.size));clear ho hb;refine hK.out _ _ trivial (fun _=>?_);clear hK K;try simp only [Act.put,zS,eZ,eS]
     refine rd1 8 fun K hK=>?_
     go_simp;refine (KU.out _ HB.out).mono ?_;rintro e wn ⟨p8,k8,rfl,ho,hb⟩;(try replace HR:=hid (Ru.kept HR.out (Kept.of_below hb)));(try replace HL:=hid (Nu.kept HL.out (Kept.of_below hb)));have HU:Hid (Nu (fun b=>b<W0.heap.size) wn (.slice p8 n2 k8) d.up):=ho.up (fun b q=>.inl (Nat.lt_of_lt_of_le q HB.out.size));replace HB:=hid (HB.out.trans (hb.mono HB.out.size));clear ho hb;refine hK.out _ _ trivial (fun _=>?_);clear hK K;try simp only [Act.put,zS,eZ,eS]
   rotate_left 3
   focus
    obtain ⟨y0,y1,y2,y3,y4,y5⟩:=(HBX.out.below HB.out).six;go_simp;clear y0 y1 y2 y3 y4 y5;refine hK.out _ _ trivial (fun _=>?_);clear hK K;try simp only [Act.put,zS,eZ,eS]
    refine rd1 1 fun K hK=>?_
    obtain ⟨y0,y1,y2,y3,y4,y5⟩:=(HBX.out.below HB.out).six;go_simp;clear y0 y1 y2 y3 y4 y5;refine hK.out _ _ trivial (fun _=>?_);clear hK K;try simp only [Act.put,zS,eZ,eS]
    refine rd1 2 fun K hK=>?_
    go_simp;refine (KC.out _ HB.out).mono ?_;rintro e wn ⟨pr,kr,rfl,ho,hb⟩;(try replace HL:=hid (Nu.kept HL.out (Kept.of_below hb)));(try replace HU:=hid (Nu.kept HU.out (Kept.of_below hb)));have HR:Hid (Ru (fun b=>b<W0.heap.size) wn (.slice pr n0 kr) d.r):=ho.up (fun b q=>.inl (Nat.lt_of_lt_of_le q HB.out.size));replace HB:=hid (HB.out.trans (hb.mono HB.out.size));clear ho hb;refine hK.out _ _ trivial (fun _=>?_);clear hK K;try simp only [Act.put,zS,eZ,eS]
    refine tkI 9 rfl hHeld ?_
    try simp only [Act.put,zS,eZ,eS]
    refine rd1 5 fun K hK=>?_
    go_simp;refine (KL.out _ HB.out).mono ?_;rintro e wn ⟨p5,k5,rfl,ho,hb⟩;(try replace HR:=hid (Ru.kept HR.out (Kept.of_below hb)));(try replace HU:=hid (Nu.kept HU.out (Kept.of_below hb)));have HL:Hid (Nu (fun b=>b<W0.heap.size) wn (.slice p5 n1 k5) d.lo):=ho.up (fun b q=>.inl (Nat.lt_of_lt_of_le q HB.out.size));replace HB:=hid (HB.out.trans (hb.mono HB.out.size));clear ho hb;refine hK.out _ _ trivial (fun _=>?_);clear hK K;try simp only [Act.put,zS,eZ,eS]
    refine rd1 8 fun K hK=>?_
    go_simp;refine (KU.out _ HB.out).mono ?_;rintro e wn ⟨p8,k8,rfl,ho,hb⟩;(try replace HR:=hid (Ru.kept HR.out (Kept.of_below hb)));(try replace HL:=hid (Nu.kept HL.out (Kept.of_below hb)));have HU:Hid (Nu (fun b=>b<W0.heap.size) wn (.slice p8 n2 k8) d.up):=ho.up (fun b q=>.inl (Nat.lt_of_lt_of_le q HB.out.size));replace HB:=hid (HB.out.trans (hb.mono HB.out.size));clear ho hb;refine hK.out _ _ trivial (fun _=>?_);clear hK K;try simp only [Act.put,zS,eZ,eS]
  rotate_left 4
  focus
   obtain ⟨y0,y1,y2,y3,y4,y5⟩:=(HBX.out.below HB.out).six;go_simp;clear y0 y1 y2 y3 y4 y5;refine hK.out _ _ trivial (fun _=>?_);clear hK K;try simp only [Act.put,zS,eZ,eS]
   refine rd2 1 4 (fun K hK=>?_) (fun K hK=>?_)
   focus
    obtain ⟨y0,y1,y2,y3,y4,y5⟩:=(HBX.out.below HB.out).six;go_simp;clear y0 y1 y2 y3 y4 y5;refine hK.out _ _ trivial (fun _=>?_);clear hK K;try simp only [Act.put,zS,eZ,eS]
    refine rd2 2 4 (fun K hK=>?_) (fun K hK=>?_)
    focus
     go_simp;refine (KC.out _ HB.out).mono ?_;rintro e wn ⟨pr,kr,rfl,ho,hb⟩;(try replace HL:=hid (Nu.kept HL.out (Kept.of_below hb)));(try replace HU:=hid (Nu.kept HU.out (Kept.of_below hb)));have HR:Hid (Ru (fun b=>b<W0.heap.size) wn (.slice pr n0 kr) d.r):=ho.up (fun b q=>.inl (Nat.lt_of_lt_of_le q HB.out.size));replace HB:=hid (HB.out.trans (hb.mono HB.out.size));clear ho hb;refine hK.out _ _ trivial (fun _=>?_);clear hK K;try simp only [Act.put,zS,eZ,eS]
     refine rd1 4 fun K hK=>?_
     obtain ⟨y0,y1,y2,y3,y4,y5⟩:=(HBX.out.below HB.out).six;go_simp;clear y0 y1 y2 y3 y4 y5;refine hK.out _ _ trivial (fun _=>?_);clear hK K;try simp only [Act.put,zS,eZ,eS]
     refine tkI 9 rfl hHeld ?_
     try simp only [Act.put,zS,eZ,eS]
     refine rd1 5 fun K hK=>?_
     go_simp;refine (KL.out _ HB.out).mono ?_;rintro e wn ⟨p5,k5,rfl,ho,hb⟩;(try replace HR:=hid (Ru.kept HR.out (Kept.of_below hb)));(try replace HU:=hid (Nu.kept HU.out (Kept.of_below hb)));have HL:Hid (Nu (fun b=>b<W0.heap.size) wn (.slice p5 n1 k5) d.lo):=ho.up (fun b q=>.inl (Nat.lt_of_lt_of_le q HB.out.size));replace HB:=hid (HB.out.trans (hb.mono HB.out.size));clear ho hb;refine hK.out _ _ trivial (fun _=>?_);clear hK K;try simp only [Act.put,zS,eZ,eS]
     refine rd1 8 fun K hK=>?_
     go_simp;refine (KU.out _ HB.out).mono ?_;rintro e wn ⟨p8,k8,rfl,ho,hb⟩;(try replace HR:=hid (Ru.kept HR.out (Kept.of_below hb)));(try replace HL:=hid (Nu.kept HL.out (Kept.of_below hb)));have HU:Hid (Nu (fun b=>b<W0.heap.size) wn (.slice p8 n2 k8) d.up):=ho.up (fun b q=>.inl (Nat.lt_of_lt_of_le q HB.out.size));replace HB:=hid (HB.out.trans (hb.mono HB.out.size));clear ho hb;refine hK.out _ _ trivial (fun _=>?_);clear hK K;try simp only [Act.put,zS,eZ,eS]
    rotate_left 1
    focus
     obtain ⟨y0,y1,y2,y3,y4,y5⟩:=(HBX.out.below HB.out).six;go_simp;clear y0 y1 y2 y3 y4 y5;refine hK.out _ _ trivial (fun _=>?_);clear hK K;try simp only [Act.put,zS,eZ,eS]
     refine rd1 2 fun K hK=>?_
     go_simp;refine (KC.out _ HB.out).mono ?_;rintro e wn ⟨pr,kr,rfl,ho,hb⟩;(try replace HL:=hid (Nu.kept HL.out (Kept.of_below hb)));(try replace HU:=hid (Nu.kept HU.out (Kept.of_below hb)));have HR:Hid (Ru (fun b=>b<W0.heap.size) wn (.slice pr n0 kr) d.r):=ho.up (fun b q=>.inl (Nat.lt_of_lt_of_le q HB.out.size));replace HB:=hid (HB.out.trans (hb.mono HB.out.size));clear ho hb;refine hK.out _ _ trivial (fun _=>?_);clear hK K;try simp only [Act.put,zS,eZ,eS]
     refine tkI 9 rfl hHeld ?_
     try simp only [Act.put,zS,eZ,eS]
     refine rd1 5 fun K hK=>?_
     go_simp;refine (KL.out _ HB.out).mono ?_;rintro e wn ⟨p5,k5,rfl,ho,hb⟩;(try replace HR:=hid (Ru.kept HR.out (Kept.of_below hb)));(try replace HU:=hid (Nu.kept HU.out (Kept.of_below hb)));have HL:Hid (Nu (fun b=>b<W0.heap.size) wn (.slice p5 n1 k5) d.lo):=ho.up (fun b q=>.inl (Nat.lt_of_lt_of_le q HB.out.size));replace HB:=hid (HB.out.trans (hb.mono HB.out.size));clear ho hb;refine hK.out _ _ trivial (fun _=>?_);clear hK K;try simp only [Act.put,zS,eZ,eS]
     refine rd1 8 fun K hK=>?_
     go_simp;refine (KU.out _ HB.out).mono ?_;rintro e wn ⟨p8,k8,rfl,ho,hb⟩;(try replace HR:=hid (Ru.kept HR.out (Kept.of_below hb)));(try replace HL:=hid (Nu.kept HL.out (Kept.of_below hb)));have HU:Hid (Nu (fun b=>b<W0.heap.size) wn (.slice p8 n2 k8) d.up):=ho.up (fun b q=>.inl (Nat.lt_of_lt_of_le q HB.out.size));replace HB:=hid (HB.out.trans (hb.mono HB.out.size));clear ho hb;refine hK.out _ _ trivial (fun _=>?_);clear hK K;try simp only [Act.put,zS,eZ,eS]
   rotate_left 2
   focus
    obtain ⟨y0,y1,y2,y3,y4,y5⟩:=(HBX.out.below HB.out).six;go_simp;clear y0 y1 y2 y3 y4 y5;refine hK.out _ _ trivial (fun _=>?_);clear hK K;try simp only [Act.put,zS,eZ,eS]
    refine rd1 1 fun K hK=>?_
    obtain ⟨y0,y1,y2,y3,y4,y5⟩:=(HBX.out.below HB.out).six;go_simp;clear y0 y1 y2 y3 y4 y5;refine hK.out _ _ trivial (fun _=>?_);clear hK K;try simp only [Act.put,zS,eZ,eS]
    refine rd1 2 fun K hK=>?_
    go_simp;refine (KC.out _ HB.out).mono ?_;rintro e wn ⟨pr,kr,rfl,ho,hb⟩;(try replace HL:=hid (Nu.kept HL.out (Kept.of_below hb)));(try replace HU:=hid (Nu.kept HU.out (Kept.of_below hb)));have HR:Hid (Ru (fun b=>b<W0.heap.size) wn (.slice pr n0 kr) d.r):=ho.up (fun b q=>.inl (Nat.lt_of_lt_of_le q HB.out.size));replace HB:=hid (HB.out.trans (hb.mono HB.out.size));clear ho hb;refine hK.out _ _ trivial (fun _=>?_);clear hK K;try simp only [Act.put,zS,eZ,eS]
    refine tkI 9 rfl hHeld ?_
    try simp only [Act.put,zS,eZ,eS]
    refine rd1 5 fun K hK=>?_
    go_simp;refine (KL.out _ HB.out).mono ?_;rintro e wn ⟨p5,k5,rfl,ho,hb⟩;(try replace HR:=hid (Ru.kept HR.out (Kept.of_below hb)));(try replace HU:=hid (Nu.kept HU.out (Kept.of_below hb)));have HL:Hid (Nu (fun b=>b<W0.heap.size) wn (.slice p5 n1 k5) d.lo):=ho.up (fun b q=>.inl (Nat.lt_of_lt_of_le q HB.out.size));replace HB:=hid (HB.out.trans (hb.mono HB.out.size));clear ho hb;refine hK.out _ _ trivial (fun _=>?_);clear hK K;try simp only [Act.put,zS,eZ,eS]
    refine rd1 8 fun K hK=>?_
    go_simp;refine (KU.out _ HB.out).mono ?_;rintro e wn ⟨p8,k8,rfl,ho,hb⟩;(try replace HR:=hid (Ru.kept HR.out (Kept.of_below hb)));(try replace HL:=hid (Nu.kept HL.out (Kept.of_below hb)));have HU:Hid (Nu (fun b=>b<W0.heap.size) wn (.slice p8 n2 k8) d.up):=ho.up (fun b q=>.inl (Nat.lt_of_lt_of_le q HB.out.size));replace HB:=hid (HB.out.trans (hb.mono HB.out.size));clear ho hb;refine hK.out _ _ trivial (fun _=>?_);clear hK K;try simp only [Act.put,zS,eZ,eS]
  all_goals
   refine rdy 10 rfl fun K hK=>?_
   have hx1:=HBX.out.below HB.out
   obtain ⟨y0,y1,y2,y3,y4,y5⟩:=hx1.six;have yf:=hx1.fr;go_simp;clear y0 y1 y2 y3 y4 y5 yf
   have HX1:Hid (Bx (wn.setCell ⟨bw,1,none⟩ (.slice pr n0 kr)) bw #[.bool b,.slice pr n0 kr,.slice a1 n1 c1,.slice a2 n2 c2,.int .i64 x,.int .i64 y] 37):=⟨heap_setCell_in hx1.h (by simp)⟩
   clear hx1
   refine hK.out _ _ trivial (fun _=>?_)
   clear hK K
   try simp only [Act.put,zS,eZ,eS]
   refine tkI 11 rfl hHeld ?_
   try simp only [Act.put,zS,eZ,eS]
   refine rdy 12 rfl fun K hK=>?_
   have hx1:=HX1.out
   obtain ⟨y0,y1,y2,y3,y4,y5⟩:=hx1.six;have yf:=hx1.fr;go_simp;clear y0 y1 y2 y3 y4 y5 yf
   have HX2:Hid (Bx ((wn.setCell ⟨bw,1,none⟩ (.slice pr n0 kr)).setCell ⟨bw,2,none⟩ (.slice p5 n1 k5)) bw #[.bool b,.slice pr n0 kr,.slice p5 n1 k5,.slice a2 n2 c2,.int .i64 x,.int .i64 y] 37):=⟨heap_setCell_in HX1.out.h (by simp)⟩
   clear hx1
   refine hK.out _ _ trivial (fun _=>?_)
   clear hK K
   try simp only [Act.put,zS,eZ,eS]
   refine tkI 13 rfl hHeld ?_
   try simp only [Act.put,zS,eZ,eS]
   refine rdy 14 rfl fun K hK=>?_
   have hx1:=HX2.out
   obtain ⟨y0,y1,y2,y3,y4,y5⟩:=hx1.six;have yf:=hx1.fr;go_simp;clear y0 y1 y2 y3 y4 y5 yf
   refine hK.out _ _ trivial (fun _=>?_)
   clear hK K
   try simp only [Act.put,zS,eZ,eS]
   refine wpAnyH_done (by kernel_rfl) ?_ _
   exact ⟨pr,kr,p5,k5,p8,k8,rfl,_,HB.out,HR.out,HL.out,HU.out,rfl⟩
 case hK =>
  rintro pr kr p5 k5 p8 k8 _ ⟨w3,hb3,hr3,hl3,hu3,rfl⟩
  have HB3:Hid (Below W0.heap.size W0 w3):=hb3
  have HR3:Hid (Ru (fun b=>b<W0.heap.size) w3 (.slice pr n0 kr) d.r):=hr3
  have HL3:Hid (Nu (fun b=>b<W0.heap.size) w3 (.slice p5 n1 k5) d.lo):=hl3
  have HU3:Hid (Nu (fun b=>b<W0.heap.size) w3 (.slice p8 n2 k8) d.up):=hu3
  have hx1:=(HBX.out.below HB3.out)
  have HX1:Hid (Bx (w3.setCell ⟨bw,1,none⟩ (.slice pr n0 kr)) bw #[.bool b,.slice pr n0 kr,.slice a1 n1 c1,.slice a2 n2 c2,.int .i64 x,.int .i64 y] 37):=⟨heap_setCell_in hx1.h (by simp)⟩
  have HX2:Hid (Bx ((w3.setCell ⟨bw,1,none⟩ (.slice pr n0 kr)).setCell ⟨bw,2,none⟩ (.slice p5 n1 k5)) bw #[.bool b,.slice pr n0 kr,.slice p5 n1 k5,.slice a2 n2 c2,.int .i64 x,.int .i64 y] 37):=⟨heap_setCell_in HX1.out.h (by simp)⟩
  have HX3:Hid (Bx (((w3.setCell ⟨bw,1,none⟩ (.slice pr n0 kr)).setCell ⟨bw,2,none⟩ (.slice p5 n1 k5)).setCell ⟨bw,3,none⟩ (.slice p8 n2 k8)) bw #[.bool b,.slice pr n0 kr,.slice p5 n1 k5,.slice p8 n2 k8,.int .i64 x,.int .i64 y] 37):=⟨heap_setCell_in HX2.out.h (by simp)⟩
  clear hb3 hr3 hl3 hu3 hx1
  have HRZ:Hid (Bx (((w3.setCell ⟨bw,1,none⟩ (.slice pr n0 kr)).setCell ⟨bw,2,none⟩ (.slice p5 n1 k5)).setCell ⟨bw,3,none⟩ (.slice p8 n2 k8)) (bw+1) #[.bool false,.slice none 0 0,.slice none 0 0,.slice none 0 0,.int .i64 0,.int .i64 0] 37):=(((HRX.out.below HB3.out).setc (by omega) _ _).setc (by omega) _ _).setc (by omega) _ _
  have HBZ:Hid (Below W.heap.size W (((w3.setCell ⟨bw,1,none⟩ (.slice pr n0 kr)).setCell ⟨bw,2,none⟩ (.slice p5 n1 k5)).setCell ⟨bw,3,none⟩ (.slice p8 n2 k8))):=(((HB00.out.trans (HB3.out.mono HB00.out.size)).setCell (by have:=HBW.out;show W.heap.size≤bw;omega) _).setCell (by have:=HBW.out;show W.heap.size≤bw;omega) _).setCell (by have:=HBW.out;show W.heap.size≤bw;omega) _
  have HOZ:Hid (Ru (fun b=>b<W0.heap.size) (((w3.setCell ⟨bw,1,none⟩ (.slice pr n0 kr)).setCell ⟨bw,2,none⟩ (.slice p5 n1 k5)).setCell ⟨bw,3,none⟩ (.slice p8 n2 k8)) (.slice pr n0 kr) d.r):=((HR3.out.kept ((Kept.one (a:=W) rfl).mono (fun b e=>by rw [e];exact HBL.out))).kept ((Kept.one (a:=W) rfl).mono (fun b e=>by rw [e];exact HBL.out))).kept ((Kept.one (a:=W) rfl).mono (fun b e=>by rw [e];exact HBL.out))
  have HLZ:Hid (Nu (fun b=>b<W0.heap.size) (((w3.setCell ⟨bw,1,none⟩ (.slice pr n0 kr)).setCell ⟨bw,2,none⟩ (.slice p5 n1 k5)).setCell ⟨bw,3,none⟩ (.slice p8 n2 k8)) (.slice p5 n1 k5) d.lo):=((HL3.out.kept ((Kept.one (a:=W) rfl).mono (fun b e=>by rw [e];exact HBL.out))).kept ((Kept.one (a:=W) rfl).mono (fun b e=>by rw [e];exact HBL.out))).kept ((Kept.one (a:=W) rfl).mono (fun b e=>by rw [e];exact HBL.out))
  have HUZ:Hid (Nu (fun b=>b<W0.heap.size) (((w3.setCell ⟨bw,1,none⟩ (.slice pr n0 kr)).setCell ⟨bw,2,none⟩ (.slice p5 n1 k5)).setCell ⟨bw,3,none⟩ (.slice p8 n2 k8)) (.slice p8 n2 k8) d.up):=((HU3.out.kept ((Kept.one (a:=W) rfl).mono (fun b e=>by rw [e];exact HBL.out))).kept ((Kept.one (a:=W) rfl).mono (fun b e=>by rw [e];exact HBL.out))).kept ((Kept.one (a:=W) rfl).mono (fun b e=>by rw [e];exact HBL.out))
  clear HB3 HR3 HL3 HU3 HX1 HX2 KC KL KU HB0
  generalize (((w3.setCell ⟨bw,1,none⟩ (.slice pr n0 kr)).setCell ⟨bw,2,none⟩ (.slice p5 n1 k5)).setCell ⟨bw,3,none⟩ (.slice p8 n2 k8))=wz at *
  obtain ⟨y0,y1,y2,y3,y4,y5⟩:=HX3.out.six
  go_wp2_with (with_reducible refine stD rfl (.tmp 2) (.tmp 15) rfl (bw+1) [.bool b,.slice pr n0 kr,.slice p5 n1 k5,.slice p8 n2 k8,.int .i64 x,.int .i64 y] (by with_unfolding_all rfl) (by with_unfolding_all rfl) HRZ.out rfl rfl (six_one _ _ _ _ _ _ _ _ _ _ _ _) ?_)
  refine ⟨rfl,_,resD rfl _ (HRZ.out.setRow _) rfl (by with_unfolding_all rfl),[.bool b,.slice pr n0 kr,.slice p5 n1 k5,.slice p8 n2 k8,.int .i64 x,.int .i64 y],rfl,fun Z hZ=>?_,below_row HBZ.out (by have:=HBW.out;omega) _⟩
  have hrr:Ru Z (wz.setRow (bw+1) #[.bool b,.slice pr n0 kr,.slice p5 n1 k5,.slice p8 n2 k8,.int .i64 x,.int .i64 y]) (.slice pr n0 kr) d.r:=(HOZ.out.kept (w':=wz.setRow (bw+1) #[.bool b,.slice pr n0 kr,.slice p5 n1 k5,.slice p8 n2 k8,.int .i64 x,.int .i64 y]) ⟨rfl,rfl,rfl,by simp [World.setRow],fun b _ q=>setRow_other _ _ b _ (fun e=>q (by rw [e];exact HBL2.out))⟩).up (fun b hb=>.inl (by have:=hZ b hb;have:=HB00.out.size;show b<W0.heap.size;omega))
  have hll:Nu Z (wz.setRow (bw+1) #[.bool b,.slice pr n0 kr,.slice p5 n1 k5,.slice p8 n2 k8,.int .i64 x,.int .i64 y]) (.slice p5 n1 k5) d.lo:=(HLZ.out.kept (w':=wz.setRow (bw+1) #[.bool b,.slice pr n0 kr,.slice p5 n1 k5,.slice p8 n2 k8,.int .i64 x,.int .i64 y]) ⟨rfl,rfl,rfl,by simp [World.setRow],fun b _ q=>setRow_other _ _ b _ (fun e=>q (by rw [e];exact HBL2.out))⟩).up (fun b hb=>.inl (by have:=hZ b hb;have:=HB00.out.size;show b<W0.heap.size;omega))
  have huu:Nu Z (wz.setRow (bw+1) #[.bool b,.slice pr n0 kr,.slice p5 n1 k5,.slice p8 n2 k8,.int .i64 x,.int .i64 y]) (.slice p8 n2 k8) d.up:=(HUZ.out.kept (w':=wz.setRow (bw+1) #[.bool b,.slice pr n0 kr,.slice p5 n1 k5,.slice p8 n2 k8,.int .i64 x,.int .i64 y]) ⟨rfl,rfl,rfl,by simp [World.setRow],fun b _ q=>setRow_other _ _ b _ (fun e=>q (by rw [e];exact HBL2.out))⟩).up (fun b hb=>.inl (by have:=hZ b hb;have:=HB00.out.size;show b<W0.heap.size;omega))
  obtain ⟨rfl,rfl,rfl,rfl,rfl,rfl⟩:=HE.out
  exact ⟨pr,kr,p5,k5,p8,k8,rfl,hrr,hll,huu⟩
theorem copy_d {X:Nat→Prop} {W:World} {c:List Value} {d:MD} (h:Dc X W c d) (hr:d.r.length≤4096) (hlo:d.lo.length≤100000) (hup:d.up.length≤100000) :
  Calls Tryz.prog 55 #[.agg c.toArray] W fun e w'=>∃ q:List Value,e = .returned (.agg q.toArray)∧(∀ Z:Nat→Prop,(∀ b,Z b→b<W.heap.size)→Dc Z w' q d)∧Below W.heap.size W w' :=
 (copy_u h hr hlo hup).mono fun e w' ⟨q,h1,h2,h3⟩=>⟨q,h1,fun Z hZ=>(h2 Z hZ).dc,h3⟩
end Go.Proofs.YtghnfnieppfhgaaGreat
