/- What is proved here: Narrow of the reference store. -/
import Derived.Test.YtghnfnieppfhgaaGreatAa
import Derived.Test.YtghnfnieppfhgaaGreatPbj
import Derived.Deep.CutRange
set_option linter.unusedVariables false
set_option linter.unusedSimpArgs false
set_option maxRecDepth 100000
set_option maxHeartbeats 4000000
namespace Go.Proofs.YtghnfnieppfhgaaGreat
open Go.RowKit Go.Shelf
theorem rb_both (a b:MD):rbM a b=bothA a b:=by
 unfold rbM bothA
 rw [St.both_same]
 rfl
open Classical in
noncomputable def rnar (D : List MD) (E : List (Int × Int)) (v : Int) (d : MD) : (Int × Int) × List MD × List (Int × Int) :=
 if v<0 then ((0,1),D,E) else
 match D[v.toNat]? with
 | none=>((0,1),D,E)
 | some o=>if rightM d=false∨d.set≠o.set then ((0,20),D,E) else if D.any reM=true then ((0,6),D,E) else if o=rbM o d then ((0,0),D,E) else if reM (rbM o d)=true then ((2,0),D.set v.toNat (rbM o d),E) else ((1,0),D.set v.toNat (rbM o d),tellE E v (whyM o (rbM o d)))
theorem rnarrow_arg {A X:Nat→Prop} {W:World} {r:Nat} {D:List MD} {O:List (List MD)} {E:List (Int × Int)} {rl:Rl} {c:List Value} {d:MD} (h:Rs A W r D O E rl) (hc:Dc X W c d) (hf:Dm.FitsR d.r) (hn:D.length≤1000) {v:Int} (hv:v<0∨(D.length:Int)≤v) :
  Calls Tryz.prog 42 #[ptr r,.int .i64 v,.agg c.toArray] W fun e w'=>e = .returned (.tuple #[.int .i64 (rnar D E v d).1.1,.int .i64 (rnar D E v d).1.2])∧∃ rl',Rs A w' r (rnar D E v d).2.1 O (rnar D E v d).2.2 rl'∧Up (RX r rl) (RX r rl') W∧Kept (RX r rl) W w':=by
 have HA:Hid (rnar D E v d=((0,1),D,E)):=by
  unfold Hid rnar
  by_cases h0:v<0
  ·rw [if_pos h0]
  ·rw [if_neg h0,List.getElem?_eq_none (by omega)]
 rw [HA.out]
 obtain ⟨n,m,q,da,dc,oa,oc,ea,ec,os,rfl,HL⟩:=h.look
 obtain ⟨b,ra,n0,rc,a1,n1,c1,a2,n2,c2,x,y,rfl,HE,_,_,_⟩:=hc.look
 obtain ⟨N,hN⟩:∃ q,W.heap.size=q:=⟨_,rfl⟩
 obtain ⟨W0,hW0⟩:∃ q,W.alloc (Obj.cells #[.bool b,.slice ra n0 rc,.slice a1 n1 c1,.slice a2 n2 c2,.int .i64 x,.int .i64 y] 37)=q:=⟨_,rfl⟩
 have hb0:Below W.heap.size W W0:=by rw [←hW0];exact (Below.refl _ W).alloc (Nat.le_refl _) _
 have HX:Hid (Bx W0 N #[.bool b,.slice ra n0 rc,.slice a1 n1 c1,.slice a2 n2 c2,.int .i64 x,.int .i64 y] 37):=by rw [←hW0];exact Bx.new' hN _ _
 have HB0:Hid (Below W.heap.size W W0):=hb0
 have HR:Hid (Rs A W r D O E ⟨.slice da n dc,.slice oa m oc,.slice ea q ec,os⟩):=h
 have HW0:Hid _:=hW0
 have HN:Hid _:=hN
 have HDC:Hid (Dc X W [.bool b,.slice ra n0 rc,.slice a1 n1 c1,.slice a2 n2 c2,.int .i64 x,.int .i64 y] d):=hc
 have HFT:Hid (Dm.FitsR d.r):=hf
 have HDL:Hid (D.length=n):=HL.out.1
 have hn':(n:Int)≤1000:=by have:=HDL.out;omega
 obtain ⟨z0,z1,z2,zf⟩:=(h.below hb0).cells
 simp only at z0 z1 z2
 have HEND:Hid (Rs A W0 r D O E ⟨.slice da n dc,.slice oa m oc,.slice ea q ec,os⟩∧Up (RX r ⟨.slice da n dc,.slice oa m oc,.slice ea q ec,os⟩) (RX r ⟨.slice da n dc,.slice oa m oc,.slice ea q ec,os⟩) W∧Kept (RX r ⟨.slice da n dc,.slice oa m oc,.slice ea q ec,os⟩) W W0):=⟨h.below hb0,Up.refl _ _,Kept.of_below hb0⟩
 rw [HDL.out] at hv
 clear h hc hf hn hW0 hN hb0 zf HL HA
 go_enter Tryz.func42,Tryz.ntmps42
 go_upto_region 1 with (fail)
 (try rw [HW0.out]);(try rw [HN.out])
 by_cases h0:v<0
 ·go_wp2
  go_ret2
  exact ⟨rfl,_,HEND.out⟩
 ·have h1:(n:Int)≤v:=by omega
  go_wp2
  go_ret2
  exact ⟨rfl,_,HEND.out⟩
theorem Dw.at {Z:Nat→Prop} {w:World} {s:Value} {L:List MD} (h:Dw Z w s L) {v:Nat} {d:MD} (hd:L[v]? = some d):∃ g cap c,s = .slice (some ⟨g,0,none⟩) L.length cap∧g<w.heap.size∧L.length≤cap∧cap≤9223372036854775807∧w.rangeAt g (v*6) c∧w.there g (v*6) 6∧Dc Z w c d:=by
 obtain ⟨cs,hr,hdr⟩:=h
 have hv:v<cs.length:=by rw [hdr.1];exact (List.getElem?_eq_some_iff.1 hd).1
 obtain ⟨g,cap,e1,e2,e3,e4,e5,e6⟩:=hr.at (List.getElem?_eq_getElem hv)
 unfold maxLen at e4
 rw [hdr.1] at e1 e3
 exact ⟨g,cap,_,e1,e2,e3,by omega,e5,e6,hdr.2 v _ d (List.getElem?_eq_getElem hv) hd⟩
theorem rnarrow_dom {A X:Nat→Prop} {W:World} {r:Nat} {D:List MD} {O:List (List MD)} {E:List (Int × Int)} {rl:Rl} {c:List Value} {d:MD} (h:Rs A W r D O E rl) (hc:Dc X W c d) (hf:Dm.FitsR d.r) (hn:D.length≤1000) {v:Nat} {o:MD} (hv:D[v]? = some o) (hbad:rightM d=false∨d.set≠o.set) :
  Calls Tryz.prog 42 #[ptr r,.int .i64 (v:Int),.agg c.toArray] W fun e w'=>e = .returned (.tuple #[.int .i64 (rnar D E (v:Int) d).1.1,.int .i64 (rnar D E (v:Int) d).1.2])∧∃ rl',Rs A w' r (rnar D E (v:Int) d).2.1 O (rnar D E (v:Int) d).2.2 rl'∧Up (RX r rl) (RX r rl') W∧Kept (RX r rl) W w':=by
 have HA:Hid (rnar D E (v:Int) d=((0,20),D,E)):=by
  unfold Hid rnar
  rw [if_neg (by omega),show ((v:Int)).toNat=v by omega,hv]
  simp only [if_pos hbad]
 rw [HA.out]
 obtain ⟨n,m,q,da,dc,oa,oc,ea,ec,os,rfl,HL⟩:=h.look
 obtain ⟨b,ra,n0,rc,a1,n1,c1,a2,n2,c2,x,y,rfl,HE,_,_,_⟩:=hc.look
 obtain ⟨N,hN⟩:∃ q,W.heap.size=q:=⟨_,rfl⟩
 obtain ⟨W0,hW0⟩:∃ q,W.alloc (Obj.cells #[.bool b,.slice ra n0 rc,.slice a1 n1 c1,.slice a2 n2 c2,.int .i64 x,.int .i64 y] 37)=q:=⟨_,rfl⟩
 have hb0:Below W.heap.size W W0:=by rw [←hW0];exact (Below.refl _ W).alloc (Nat.le_refl _) _
 have HX:Hid (Bx W0 N #[.bool b,.slice ra n0 rc,.slice a1 n1 c1,.slice a2 n2 c2,.int .i64 x,.int .i64 y] 37):=by rw [←hW0];exact Bx.new' hN _ _
 have HB0:Hid (Below W.heap.size W W0):=hb0
 have HR:Hid (Rs A W r D O E ⟨.slice da n dc,.slice oa m oc,.slice ea q ec,os⟩):=h
 have HW0:Hid _:=hW0
 have HN:Hid _:=hN
 have HDC:Hid (Dc X W [.bool b,.slice ra n0 rc,.slice a1 n1 c1,.slice a2 n2 c2,.int .i64 x,.int .i64 y] d):=hc
 have HFT:Hid (Dm.FitsR d.r):=hf
 have HDL:Hid (D.length=n):=HL.out.1
 have hn':(n:Int)≤1000:=by have:=HDL.out;omega
 obtain ⟨z0,z1,z2,zf⟩:=(h.below hb0).cells
 simp only at z0 z1 z2
 obtain ⟨g,cap,cs,e1,hgl,hcap,hcm,hrg,hth,hdo⟩:=h.d.at hv
 simp only at e1
 injection e1 with e1 e2 e3
 subst e1 e3
 obtain ⟨bo,ro,no,rco,ao1,no1,co1,ao2,no2,co2,xo,yo,rfl,HEo,_,_,_⟩:=hdo.look
 have HRG:Hid (W.rangeAt g (v*6) [.bool bo,.slice ro no rco,.slice ao1 no1 co1,.slice ao2 no2 co2,.int .i64 xo,.int .i64 yo]):=hrg
 have HDO:Hid (Dc (fun b=>RX r ⟨.slice (some ⟨g,0,none⟩) n dc,.slice oa m oc,.slice ea q ec,os⟩ b∨A b) W [.bool bo,.slice ro no rco,.slice ao1 no1 co1,.slice ao2 no2 co2,.int .i64 xo,.int .i64 yo] o):=hdo
 have HGL:Hid (g<W.heap.size):=hgl
 have HTH:Hid (W.there g (v*6) 6):=hth
 have HVV:Hid (D[v]? = some o):=hv
 have hvn:v<n:=by have:=(List.getElem?_eq_some_iff.1 hv).1;have:=HDL.out;omega
 have hvn':(v:Int)<(n:Int):=by omega
 have HCV:Hid (∀ w,Below W0.heap.size W0 w→w.cell? ⟨r,0,none⟩=some (.slice (some ⟨g,0,none⟩) n dc)∧w.cell? ⟨g,v*6,none⟩=some (.bool bo)):=fun w hw=>⟨(HR.out.below (hb0.trans (hw.mono hb0.size))).cells.1,((hb0.trans (hw.mono hb0.size)).cell (p:=⟨g,v*6,none⟩) hgl).trans (by simpa using hrg 0 _ rfl)⟩
 have KR:Hid (∀ w,Below W0.heap.size W0 w→Calls Tryz.prog 23 #[.agg #[.bool b,.slice ra n0 rc,.slice a1 n1 c1,.slice a2 n2 c2,.int .i64 x,.int .i64 y]] w fun e w'=>e = .returned (.bool (rightM d))∧Below w.heap.size w w'):=fun w hw=>rright_d (hc.below (hb0.trans (hw.mono hb0.size))) hf
 have HP0:Hid (Below W0.heap.size W0 W0.drew):=(Below.refl _ _).drew
 have hbb0:rightM d=true→¬b=bo:=fun hr e=>hbad.elim (fun q=>by rw [hr] at q;cases q) (fun q=>q (by rw [HE.out.1,HEo.out.1];exact e))
 clear h hc hf hn hW0 hN hb0 zf HL HA hbad hrg hdo hth hv hgl hcap hcm e2
 go_enter Tryz.func42,Tryz.ntmps42
 go_upto_region 1 with (fail)
 (try rw [HW0.out]);(try rw [HN.out])
 go_upto_region 3 with (fail)
 clear z0 z1 z2
 cases hrr:rightM d
 ·rw [hrr] at KR
  refine wp_region_held_drew (S:=fun X:World=>Below W0.heap.size W0 X) (by kernel_rfl) (HP0.out) (fun hHeld=>?_)
  refine tkH 0 _ (v:=?_) hHeld ?_ ?_;rotate_left
  ·intro w hSw;obtain ⟨y0,y1,y2,y3,y4,y5⟩:=(HX.out.below hSw).six;go_simp<;>with_reducible rfl
  try simp only [Act.put,zS,eZ,eS]
  refine rdy 1 rfl fun K hK=>?_
  go_simp
  refine (KR.out _ HP0.out).mono ?_
  rintro e w1 ⟨rfl,hb1⟩
  have HP1:Hid (Below W0.heap.size W0 w1):=HP0.out.trans (hb1.mono HP0.out.size)
  clear hb1
  clear hHeld;refine hK.out _ _ (HP1.out) fun hHeld=>?_
  clear hK K
  try simp only [Act.put,zS,eZ,eS]
  refine tkI 2 rfl hHeld ?_
  try simp only [Act.put,zS,eZ,eS]
  refine tkI 3 rfl hHeld ?_
  try simp only [Act.put,zS,eZ,eS]
  refine tkU 4 rfl hHeld ?_
  try simp only [Act.put,zS,eZ,eS]
  refine tkU 5 rfl hHeld ?_
  try simp only [Act.put,zS,eZ,eS]
  refine tkU 6 rfl hHeld ?_
  try simp only [Act.put,zS,eZ,eS]
  refine tkU 7 rfl hHeld ?_
  try simp only [Act.put,zS,eZ,eS]
  refine tkU 8 rfl hHeld ?_
  try simp only [Act.put,zS,eZ,eS]
  refine tkU 9 rfl hHeld ?_
  try simp only [Act.put,zS,eZ,eS]
  refine tkU 10 rfl hHeld ?_
  try simp only [Act.put,zS,eZ,eS]
  refine tkU 11 rfl hHeld ?_
  try simp only [Act.put,zS,eZ,eS]
  refine tkU 12 rfl hHeld ?_
  try simp only [Act.put,zS,eZ,eS]
  refine tkU 13 rfl hHeld ?_
  try simp only [Act.put,zS,eZ,eS]
  refine tkU 14 rfl hHeld ?_
  try simp only [Act.put,zS,eZ,eS]
  refine tkH 15 _ (v:=.bool true) hHeld ?_ ?_
  skip
  ·intro w hSw;go_simp<;>first | done | with_reducible rfl | simp
  try simp only [Act.put,zS,eZ,eS]
  refine wpAnyH_done (by kernel_rfl) ?_ _
  go_wp2
  go_ret2
  exact ⟨rfl,_,HR.out.below (HB0.out.trans (HP1.out.mono HB0.out.size)),Up.refl _ _,Kept.of_below (HB0.out.trans (HP1.out.mono HB0.out.size))⟩
 ·rw [hrr] at KR
  have hbb:¬b=bo:=hbb0 hrr
  refine wp_region_held_drew (S:=fun X:World=>Below W0.heap.size W0 X) (by kernel_rfl) (HP0.out) (fun hHeld=>?_)
  refine tkH 0 _ (v:=?_) hHeld ?_ ?_;rotate_left
  ·intro w hSw;obtain ⟨y0,y1,y2,y3,y4,y5⟩:=(HX.out.below hSw).six;go_simp<;>with_reducible rfl
  try simp only [Act.put,zS,eZ,eS]
  refine rdy 1 rfl fun K hK=>?_
  go_simp
  refine (KR.out _ HP0.out).mono ?_
  rintro e w1 ⟨rfl,hb1⟩
  have HP1:Hid (Below W0.heap.size W0 w1):=HP0.out.trans (hb1.mono HP0.out.size)
  clear hb1
  clear hHeld;refine hK.out _ _ (HP1.out) fun hHeld=>?_
  clear hK K
  try simp only [Act.put,zS,eZ,eS]
  refine tkI 2 rfl hHeld ?_
  try simp only [Act.put,zS,eZ,eS]
  refine tkI 3 rfl hHeld ?_
  try simp only [Act.put,zS,eZ,eS]
  refine tkI 4 rfl hHeld ?_
  try simp only [Act.put,zS,eZ,eS]
  refine tkH 5 _ (v:=?_) hHeld ?_ ?_;rotate_left
  ·intro w hSw;obtain ⟨y0,y1,y2,y3,y4,y5⟩:=(HX.out.below hSw).six;go_simp<;>with_reducible rfl
  try simp only [Act.put,zS,eZ,eS]
  refine tkI 6 rfl hHeld ?_
  try simp only [Act.put,zS,eZ,eS]
  refine tkI 7 rfl hHeld ?_
  try simp only [Act.put,zS,eZ,eS]
  refine tkI 8 rfl hHeld ?_
  try simp only [Act.put,zS,eZ,eS]
  refine tkH 9 _ (v:=?_) hHeld ?_ ?_;rotate_left
  ·intro w hSw;obtain ⟨y9,y0⟩:=HCV.out _ hSw;go_simp<;>with_reducible rfl
  try simp only [Act.put,zS,eZ,eS]
  refine tkI 10 rfl hHeld ?_
  try simp only [Act.put,zS,eZ,eS]
  refine tkI 11 rfl hHeld ?_
  try simp only [Act.put,zS,eZ,eS]
  refine tkI 12 rfl hHeld ?_
  try simp only [Act.put,zS,eZ,eS]
  refine tkH 13 _ (v:=?_) hHeld ?_ ?_;rotate_left
  ·intro w hSw;obtain ⟨y9,y0⟩:=HCV.out _ hSw;go_simp<;>with_reducible rfl
  try simp only [Act.put,zS,eZ,eS]
  refine tkH 14 _ (v:=.bool true) hHeld ?_ ?_
  skip
  ·intro w hSw;go_simp<;>first | done | with_reducible rfl | simp [hbb] | (simp at hbb;simp [hbb])
  try simp only [Act.put,zS,eZ,eS]
  refine tkH 15 _ (v:=.bool true) hHeld ?_ ?_
  skip
  ·intro w hSw;go_simp<;>first | done | with_reducible rfl | simp
  try simp only [Act.put,zS,eZ,eS]
  refine wpAnyH_done (by kernel_rfl) ?_ _
  go_wp2
  go_ret2
  exact ⟨rfl,_,HR.out.below (HB0.out.trans (HP1.out.mono HB0.out.size)),Up.refl _ _,Kept.of_below (HB0.out.trans (HP1.out.mono HB0.out.size))⟩
theorem rnarrow_state {A X:Nat→Prop} {W:World} {r:Nat} {D:List MD} {O:List (List MD)} {E:List (Int × Int)} {rl:Rl} {c:List Value} {d:MD} (h:Rs A W r D O E rl) (hc:Dc X W c d) (hf:Dm.FitsR d.r) (hn:D.length≤1000) {v:Nat} {o:MD} (hv:D[v]? = some o) (hrr:rightM d=true) (hset:d.set=o.set) (hfail:D.any reM=true) :
  Calls Tryz.prog 42 #[ptr r,.int .i64 (v:Int),.agg c.toArray] W fun e w'=>e = .returned (.tuple #[.int .i64 (rnar D E (v:Int) d).1.1,.int .i64 (rnar D E (v:Int) d).1.2])∧∃ rl',Rs A w' r (rnar D E (v:Int) d).2.1 O (rnar D E (v:Int) d).2.2 rl'∧Up (RX r rl) (RX r rl') W∧Kept (RX r rl) W w':=by
 have HA:Hid (rnar D E (v:Int) d=((0,6),D,E)):=by
  unfold Hid rnar
  rw [if_neg (by omega),show ((v:Int)).toNat=v by omega,hv]
  simp only [if_neg (show ¬(rightM d=false∨d.set≠o.set) by rw [hrr];simp [hset]),if_pos hfail]
 rw [HA.out]
 clear HA
 obtain ⟨n,m,q,da,dc,oa,oc,ea,ec,os,rfl,HL⟩:=h.look
 obtain ⟨b,ra,n0,rc,a1,n1,c1,a2,n2,c2,x,y,rfl,HE,_,_,_⟩:=hc.look
 obtain ⟨N,hN⟩:∃ q,W.heap.size=q:=⟨_,rfl⟩
 obtain ⟨W0,hW0⟩:∃ q,W.alloc (Obj.cells #[.bool b,.slice ra n0 rc,.slice a1 n1 c1,.slice a2 n2 c2,.int .i64 x,.int .i64 y] 37)=q:=⟨_,rfl⟩
 have hb0:Below W.heap.size W W0:=by rw [←hW0];exact (Below.refl _ W).alloc (Nat.le_refl _) _
 have HX:Hid (Bx W0 N #[.bool b,.slice ra n0 rc,.slice a1 n1 c1,.slice a2 n2 c2,.int .i64 x,.int .i64 y] 37):=by rw [←hW0];exact Bx.new' hN _ _
 have HB0:Hid (Below W.heap.size W W0):=hb0
 have HR:Hid (Rs A W r D O E ⟨.slice da n dc,.slice oa m oc,.slice ea q ec,os⟩):=h
 have HW0:Hid _:=hW0
 have HN:Hid _:=hN
 have HDC:Hid (Dc X W [.bool b,.slice ra n0 rc,.slice a1 n1 c1,.slice a2 n2 c2,.int .i64 x,.int .i64 y] d):=hc
 have HFT:Hid (Dm.FitsR d.r):=hf
 have HDL:Hid (D.length=n):=HL.out.1
 have hn':(n:Int)≤1000:=by have:=HDL.out;omega
 obtain ⟨z0,z1,z2,zf⟩:=(h.below hb0).cells
 simp only at z0 z1 z2
 obtain ⟨g,cap,cs,e1,hgl,hcap,hcm,hrg,hth,hdo⟩:=h.d.at hv
 simp only at e1
 injection e1 with e1 e2 e3
 subst e1 e3
 obtain ⟨bo,ro,no,rco,ao1,no1,co1,ao2,no2,co2,xo,yo,rfl,HEo,_,_,_⟩:=hdo.look
 have HRG:Hid (W.rangeAt g (v*6) [.bool bo,.slice ro no rco,.slice ao1 no1 co1,.slice ao2 no2 co2,.int .i64 xo,.int .i64 yo]):=hrg
 have HDO:Hid (Dc (fun b=>RX r ⟨.slice (some ⟨g,0,none⟩) n dc,.slice oa m oc,.slice ea q ec,os⟩ b∨A b) W [.bool bo,.slice ro no rco,.slice ao1 no1 co1,.slice ao2 no2 co2,.int .i64 xo,.int .i64 yo] o):=hdo
 have HGL:Hid (g<W.heap.size):=hgl
 have HTH:Hid (W.there g (v*6) 6):=hth
 have HVV:Hid (D[v]? = some o):=hv
 have hvn:v<n:=by have:=(List.getElem?_eq_some_iff.1 hv).1;have:=HDL.out;omega
 have hvn':(v:Int)<(n:Int):=by omega
 have HCV:Hid (∀ w,Below W0.heap.size W0 w→w.cell? ⟨r,0,none⟩=some (.slice (some ⟨g,0,none⟩) n dc)∧w.cell? ⟨g,v*6,none⟩=some (.bool bo)):=fun w hw=>⟨(HR.out.below (hb0.trans (hw.mono hb0.size))).cells.1,((hb0.trans (hw.mono hb0.size)).cell (p:=⟨g,v*6,none⟩) hgl).trans (by simpa using hrg 0 _ rfl)⟩
 have KR:Hid (∀ w,Below W0.heap.size W0 w→Calls Tryz.prog 23 #[.agg #[.bool b,.slice ra n0 rc,.slice a1 n1 c1,.slice a2 n2 c2,.int .i64 x,.int .i64 y]] w fun e w'=>e = .returned (.bool (rightM d))∧Below w.heap.size w w'):=fun w hw=>rright_d (hc.below (hb0.trans (hw.mono hb0.size))) hf
 have HP0:Hid (Below W0.heap.size W0 W0.drew):=(Below.refl _ _).drew
 have hbb:bo=b:=by rw [←HE.out.1,←HEo.out.1];exact hset.symm
 have HNN:Hid (D.length≤1000):=hn
 have HFA:Hid (D.any reM=true):=hfail
 have KR:Hid (∀ w,Below W0.heap.size W0 w→Calls Tryz.prog 23 #[.agg #[.bool b,.slice ra n0 rc,.slice a1 n1 c1,.slice a2 n2 c2,.int .i64 x,.int .i64 y]] w fun e w'=>e = .returned (.bool true)∧Below w.heap.size w w'):=by rw [←hrr];exact KR
 subst hbb
 clear h hc hf hn hW0 hN hb0 zf HL hrg hdo hth hv hgl hcap hcm e2 hrr hset hfail
 go_enter Tryz.func42,Tryz.ntmps42
 go_upto_region 1 with (fail)
 (try rw [HW0.out]);(try rw [HN.out])
 go_upto_region 3 with (fail)
 clear z0 z1 z2
 refine wp_region_held_drew (S:=fun X:World=>Below W0.heap.size W0 X) (by kernel_rfl) (HP0.out) (fun hHeld=>?_)
 refine tkH 0 _ (v:=?_) hHeld ?_ ?_;rotate_left
 ·intro w hSw;obtain ⟨y0,y1,y2,y3,y4,y5⟩:=(HX.out.below hSw).six;go_simp<;>with_reducible rfl
 try simp only [Act.put,zS,eZ,eS]
 refine rdy 1 rfl fun K hK=>?_
 go_simp
 refine (KR.out _ HP0.out).mono ?_
 rintro e w1 ⟨rfl,hb1⟩
 have HP1:Hid (Below W0.heap.size W0 w1):=HP0.out.trans (hb1.mono HP0.out.size)
 clear hb1
 clear hHeld;refine hK.out _ _ (HP1.out) fun hHeld=>?_
 clear hK K
 try simp only [Act.put,zS,eZ,eS]
 refine tkI 2 rfl hHeld ?_
 try simp only [Act.put,zS,eZ,eS]
 refine tkI 3 rfl hHeld ?_
 try simp only [Act.put,zS,eZ,eS]
 refine tkI 4 rfl hHeld ?_
 try simp only [Act.put,zS,eZ,eS]
 refine tkH 5 _ (v:=?_) hHeld ?_ ?_;rotate_left
 ·intro w hSw;obtain ⟨y0,y1,y2,y3,y4,y5⟩:=(HX.out.below hSw).six;go_simp<;>with_reducible rfl
 try simp only [Act.put,zS,eZ,eS]
 refine tkI 6 rfl hHeld ?_
 try simp only [Act.put,zS,eZ,eS]
 refine tkI 7 rfl hHeld ?_
 try simp only [Act.put,zS,eZ,eS]
 refine tkI 8 rfl hHeld ?_
 try simp only [Act.put,zS,eZ,eS]
 refine tkH 9 _ (v:=?_) hHeld ?_ ?_;rotate_left
 ·intro w hSw;obtain ⟨y9,y0⟩:=HCV.out _ hSw;go_simp<;>with_reducible rfl
 try simp only [Act.put,zS,eZ,eS]
 refine tkI 10 rfl hHeld ?_
 try simp only [Act.put,zS,eZ,eS]
 refine tkI 11 rfl hHeld ?_
 try simp only [Act.put,zS,eZ,eS]
 refine tkI 12 rfl hHeld ?_
 try simp only [Act.put,zS,eZ,eS]
 refine tkH 13 _ (v:=?_) hHeld ?_ ?_;rotate_left
 ·intro w hSw;obtain ⟨y9,y0⟩:=HCV.out _ hSw;go_simp<;>with_reducible rfl
 try simp only [Act.put,zS,eZ,eS]
 refine tkH 14 _ (v:=.bool false) hHeld ?_ ?_
 skip
 ·intro w hSw;go_simp<;>first | done | with_reducible rfl | simp
 try simp only [Act.put,zS,eZ,eS]
 refine tkH 15 _ (v:=.bool false) hHeld ?_ ?_
 skip
 ·intro w hSw;go_simp<;>first | done | with_reducible rfl | simp
 try simp only [Act.put,zS,eZ,eS]
 refine wpAnyH_done (by kernel_rfl) ?_ _
 have kf:=rfailed_any (HR.out.below (HB0.out.trans (HP1.out.mono HB0.out.size))) HNN.out
 rw [HFA.out] at kf
 go_wp2_with fail
 refine kf.mono ?_
 clear kf
 rintro e w2 ⟨rfl,hb2⟩
 have HP2:Hid (Below W0.heap.size W0 w2):=HP1.out.trans (hb2.mono HP1.out.size)
 clear hb2
 go_wp2
 go_ret2
 exact ⟨rfl,_,HR.out.below (HB0.out.trans (HP2.out.mono HB0.out.size)),Up.refl _ _,Kept.of_below (HB0.out.trans (HP2.out.mono HB0.out.size))⟩
theorem rnarrow_same {A X:Nat→Prop} {W:World} {r:Nat} {D:List MD} {O:List (List MD)} {E:List (Int × Int)} {rl:Rl} {c:List Value} {d:MD} (h:Rs A W r D O E rl) (hc:Dc X W c d) (hf:Dm.FitsR d.r) (hn:D.length≤1000) {v:Nat} {o:MD} (hv:D[v]? = some o) (hrr:rightM d=true) (hset:d.set=o.set) (hfail:D.any reM=false) (hH:Held o) (heq:o=rbM o d) :
  Calls Tryz.prog 42 #[ptr r,.int .i64 (v:Int),.agg c.toArray] W fun e w'=>e = .returned (.tuple #[.int .i64 (rnar D E (v:Int) d).1.1,.int .i64 (rnar D E (v:Int) d).1.2])∧∃ rl',Rs A w' r (rnar D E (v:Int) d).2.1 O (rnar D E (v:Int) d).2.2 rl'∧Up (RX r rl) (RX r rl') W∧Kept (RX r rl) W w':=by
 have HA:Hid (rnar D E (v:Int) d=((0,0),D,E)):=by
  unfold Hid rnar
  rw [if_neg (by omega),show ((v:Int)).toNat=v by omega,hv]
  simp only [if_neg (show ¬(rightM d=false∨d.set≠o.set) by rw [hrr];simp [hset]),if_neg (show ¬D.any reM=true by rw [hfail];decide),if_pos heq]
 rw [HA.out]
 clear HA
 have HSZ:Hid (SzD o):=⟨by have:=hH.lo;omega,by have:=hH.up;omega,by have:=hH.n;omega⟩
 have HEQ:Hid (o=rbM o d):=heq
 clear heq
 obtain ⟨n,m,q,da,dc,oa,oc,ea,ec,os,rfl,HL⟩:=h.look
 obtain ⟨b,ra,n0,rc,a1,n1,c1,a2,n2,c2,x,y,rfl,HE,_,_,_⟩:=hc.look
 obtain ⟨N,hN⟩:∃ q,W.heap.size=q:=⟨_,rfl⟩
 obtain ⟨W0,hW0⟩:∃ q,W.alloc (Obj.cells #[.bool b,.slice ra n0 rc,.slice a1 n1 c1,.slice a2 n2 c2,.int .i64 x,.int .i64 y] 37)=q:=⟨_,rfl⟩
 have hb0:Below W.heap.size W W0:=by rw [←hW0];exact (Below.refl _ W).alloc (Nat.le_refl _) _
 have HX:Hid (Bx W0 N #[.bool b,.slice ra n0 rc,.slice a1 n1 c1,.slice a2 n2 c2,.int .i64 x,.int .i64 y] 37):=by rw [←hW0];exact Bx.new' hN _ _
 have HB0:Hid (Below W.heap.size W W0):=hb0
 have HR:Hid (Rs A W r D O E ⟨.slice da n dc,.slice oa m oc,.slice ea q ec,os⟩):=h
 have HW0:Hid _:=hW0
 have HN:Hid _:=hN
 have HDC:Hid (Dc X W [.bool b,.slice ra n0 rc,.slice a1 n1 c1,.slice a2 n2 c2,.int .i64 x,.int .i64 y] d):=hc
 have HFT:Hid (Dm.FitsR d.r):=hf
 have HDL:Hid (D.length=n):=HL.out.1
 have hn':(n:Int)≤1000:=by have:=HDL.out;omega
 obtain ⟨z0,z1,z2,zf⟩:=(h.below hb0).cells
 simp only at z0 z1 z2
 obtain ⟨g,cap,cs,e1,hgl,hcap,hcm,hrg,hth,hdo⟩:=h.d.at hv
 simp only at e1
 injection e1 with e1 e2 e3
 subst e1 e3
 obtain ⟨bo,ro,no,rco,ao1,no1,co1,ao2,no2,co2,xo,yo,rfl,HEo,_,_,_⟩:=hdo.look
 have HRG:Hid (W.rangeAt g (v*6) [.bool bo,.slice ro no rco,.slice ao1 no1 co1,.slice ao2 no2 co2,.int .i64 xo,.int .i64 yo]):=hrg
 have HDO:Hid (Dc (fun b=>RX r ⟨.slice (some ⟨g,0,none⟩) n dc,.slice oa m oc,.slice ea q ec,os⟩ b∨A b) W [.bool bo,.slice ro no rco,.slice ao1 no1 co1,.slice ao2 no2 co2,.int .i64 xo,.int .i64 yo] o):=hdo
 have HGL:Hid (g<W.heap.size):=hgl
 have HTH:Hid (W.there g (v*6) 6):=hth
 have HVV:Hid (D[v]? = some o):=hv
 have hvn:v<n:=by have:=(List.getElem?_eq_some_iff.1 hv).1;have:=HDL.out;omega
 have hvn':(v:Int)<(n:Int):=by omega
 have HCV:Hid (∀ w,Below W0.heap.size W0 w→w.cell? ⟨r,0,none⟩=some (.slice (some ⟨g,0,none⟩) n dc)∧w.cell? ⟨g,v*6,none⟩=some (.bool bo)):=fun w hw=>⟨(HR.out.below (hb0.trans (hw.mono hb0.size))).cells.1,((hb0.trans (hw.mono hb0.size)).cell (p:=⟨g,v*6,none⟩) hgl).trans (by simpa using hrg 0 _ rfl)⟩
 have KR:Hid (∀ w,Below W0.heap.size W0 w→Calls Tryz.prog 23 #[.agg #[.bool b,.slice ra n0 rc,.slice a1 n1 c1,.slice a2 n2 c2,.int .i64 x,.int .i64 y]] w fun e w'=>e = .returned (.bool (rightM d))∧Below w.heap.size w w'):=fun w hw=>rright_d (hc.below (hb0.trans (hw.mono hb0.size))) hf
 have HP0:Hid (Below W0.heap.size W0 W0.drew):=(Below.refl _ _).drew
 have hbb:bo=b:=by rw [←HE.out.1,←HEo.out.1];exact hset.symm
 have HNN:Hid (D.length≤1000):=hn
 have HFA:Hid (D.any reM=false):=hfail
 have KR:Hid (∀ w,Below W0.heap.size W0 w→Calls Tryz.prog 23 #[.agg #[.bool b,.slice ra n0 rc,.slice a1 n1 c1,.slice a2 n2 c2,.int .i64 x,.int .i64 y]] w fun e w'=>e = .returned (.bool true)∧Below w.heap.size w w'):=by rw [←hrr];exact KR
 subst hbb
 clear h hc hf hn hW0 hN hb0 zf HL hrg hdo hth hv hgl hcap hcm e2 hrr hset hfail
 go_enter Tryz.func42,Tryz.ntmps42
 go_upto_region 1 with (fail)
 (try rw [HW0.out]);(try rw [HN.out])
 go_upto_region 3 with (fail)
 clear z0 z1 z2
 refine wp_region_held_drew (S:=fun X:World=>Below W0.heap.size W0 X) (by kernel_rfl) (HP0.out) (fun hHeld=>?_)
 refine tkH 0 _ (v:=?_) hHeld ?_ ?_;rotate_left
 ·intro w hSw;obtain ⟨y0,y1,y2,y3,y4,y5⟩:=(HX.out.below hSw).six;go_simp<;>with_reducible rfl
 try simp only [Act.put,zS,eZ,eS]
 refine rdy 1 rfl fun K hK=>?_
 go_simp
 refine (KR.out _ HP0.out).mono ?_
 rintro e w1 ⟨rfl,hb1⟩
 have HP1:Hid (Below W0.heap.size W0 w1):=HP0.out.trans (hb1.mono HP0.out.size)
 clear hb1
 clear hHeld;refine hK.out _ _ (HP1.out) fun hHeld=>?_
 clear hK K
 try simp only [Act.put,zS,eZ,eS]
 refine tkI 2 rfl hHeld ?_
 try simp only [Act.put,zS,eZ,eS]
 refine tkI 3 rfl hHeld ?_
 try simp only [Act.put,zS,eZ,eS]
 refine tkI 4 rfl hHeld ?_
 try simp only [Act.put,zS,eZ,eS]
 refine tkH 5 _ (v:=?_) hHeld ?_ ?_;rotate_left
 ·intro w hSw;obtain ⟨y0,y1,y2,y3,y4,y5⟩:=(HX.out.below hSw).six;go_simp<;>with_reducible rfl
 try simp only [Act.put,zS,eZ,eS]
 refine tkI 6 rfl hHeld ?_
 try simp only [Act.put,zS,eZ,eS]
 refine tkI 7 rfl hHeld ?_
 try simp only [Act.put,zS,eZ,eS]
 refine tkI 8 rfl hHeld ?_
 try simp only [Act.put,zS,eZ,eS]
 refine tkH 9 _ (v:=?_) hHeld ?_ ?_;rotate_left
 ·intro w hSw;obtain ⟨y9,y0⟩:=HCV.out _ hSw;go_simp<;>with_reducible rfl
 try simp only [Act.put,zS,eZ,eS]
 refine tkI 10 rfl hHeld ?_
 try simp only [Act.put,zS,eZ,eS]
 refine tkI 11 rfl hHeld ?_
 try simp only [Act.put,zS,eZ,eS]
 refine tkI 12 rfl hHeld ?_
 try simp only [Act.put,zS,eZ,eS]
 refine tkH 13 _ (v:=?_) hHeld ?_ ?_;rotate_left
 ·intro w hSw;obtain ⟨y9,y0⟩:=HCV.out _ hSw;go_simp<;>with_reducible rfl
 try simp only [Act.put,zS,eZ,eS]
 refine tkH 14 _ (v:=.bool false) hHeld ?_ ?_
 skip
 ·intro w hSw;go_simp<;>first | done | with_reducible rfl | simp
 try simp only [Act.put,zS,eZ,eS]
 refine tkH 15 _ (v:=.bool false) hHeld ?_ ?_
 skip
 ·intro w hSw;go_simp<;>first | done | with_reducible rfl | simp
 try simp only [Act.put,zS,eZ,eS]
 refine wpAnyH_done (by kernel_rfl) ?_ _
 have kf:=rfailed_any (HR.out.below (HB0.out.trans (HP1.out.mono HB0.out.size))) HNN.out
 rw [HFA.out] at kf
 go_wp2_with fail
 refine kf.mono ?_
 clear kf
 rintro e w2 ⟨rfl,hb2⟩
 have HP2:Hid (Below W0.heap.size W0 w2):=HP1.out.trans (hb2.mono HP1.out.size)
 clear hb2
 have HBW2:Hid (Below W.heap.size W w2):=HB0.out.trans (HP2.out.mono HB0.out.size)
 obtain ⟨z0,_,_,_⟩:=(HR.out.below HBW2.out).cells
 simp only at z0
 obtain ⟨u0,u1,u2,u3,u4,u5⟩:=rng6 (fun j u hu=>(HBW2.out.cell (p:=⟨g,v*6+j,none⟩) HGL.out).trans (HRG.out j u hu))
 obtain ⟨b2,hb2⟩:∃ q,w2.heap.size=q:=⟨_,rfl⟩
 obtain ⟨w3,hw3⟩:∃ q,w2.alloc (Obj.cells #[.bool false,.slice none 0 0,.slice none 0 0,.slice none 0 0,.int .i64 0,.int .i64 0] 37)=q:=⟨_,rfl⟩
 have hl3:Below w2.heap.size w2 w3:=by rw [←hw3];exact (Below.refl _ _).alloc (Nat.le_refl _) _
 have HB3:Hid (Bx w3 b2 #[.bool false,.slice none 0 0,.slice none 0 0,.slice none 0 0,.int .i64 0,.int .i64 0] 37):=by rw [←hw3];exact Bx.new' hb2 _ _
 obtain ⟨w4,hw4⟩:∃ q,w3.setRow b2 #[.bool bo,.slice ro no rco,.slice ao1 no1 co1,.slice ao2 no2 co2,.int .i64 xo,.int .i64 yo]=q:=⟨_,rfl⟩
 have HP4:Hid (Below W0.heap.size W0 w4):=by rw [←hw4];exact below_setRow (HP2.out.trans (hl3.mono HP2.out.size)) (by rw [←hb2];exact HP2.out.size) _
 have HB4:Hid (Bx w4 b2 #[.bool bo,.slice ro no rco,.slice ao1 no1 co1,.slice ao2 no2 co2,.int .i64 xo,.int .i64 yo] 37):=by rw [←hw4];exact HB3.out.setRow _
 have HW3:Hid _:=hw3
 have HW4:Hid _:=hw4
 have HI2:Hid _:=hb2
 have HG2:Hid (W.heap.size≤b2):=by rw [Hid,←hb2];exact HBW2.out.size
 clear hw3 hw4 hb2 hl3
 go_upto_region 8 with ((try rw [HW3.out]);(try rw [HI2.out]);with_reducible refine stD rfl (.tmp 8) (.tmp 45) rfl b2 [.bool bo,.slice ro no rco,.slice ao1 no1 co1,.slice ao2 no2 co2,.int .i64 xo,.int .i64 yo] (by with_unfolding_all rfl) (by with_unfolding_all rfl) HB3.out rfl rfl (six_one _ _ _ _ _ _ _ _ _ _ _ _) ?_;rw [HW4.out])
 clear z0 u0 u1 u2 u3 u4 u5 HB3 HW3 HW4 HI2
 have HBW4:Hid (Below W.heap.size W w4):=HB0.out.trans (HP4.out.mono HB0.out.size)
 obtain ⟨z0,z1,z2,z3,z4,z5⟩:=HB4.out.six
 obtain ⟨u0,u1,u2,u3,u4,u5⟩:=(HX.out.below HP4.out).six
 have kb:=rbothr_d (HDO.out.below HBW4.out) (HDC.out.below HBW4.out)
 go_wp2_with fail
 refine kb.mono ?_
 clear kb z0 z1 z2 z3 z4 z5 u0 u1 u2 u3 u4 u5
 rintro e w5 ⟨qq,rfl,hq,hb5⟩
 obtain ⟨q0,q1,q2,q3,q4,q5,rfl⟩:=list6 hq.one.1
 obtain ⟨b5,hb6⟩:∃ q,w5.heap.size=q:=⟨_,rfl⟩
 obtain ⟨w6,hw6⟩:∃ q,w5.alloc (Obj.cells #[.bool false,.slice none 0 0,.slice none 0 0,.slice none 0 0,.int .i64 0,.int .i64 0] 37)=q:=⟨_,rfl⟩
 have hl6:Below w5.heap.size w5 w6:=by rw [←hw6];exact (Below.refl _ _).alloc (Nat.le_refl _) _
 have HB6:Hid (Bx w6 b5 #[.bool false,.slice none 0 0,.slice none 0 0,.slice none 0 0,.int .i64 0,.int .i64 0] 37):=by rw [←hw6];exact Bx.new' hb6 _ _
 obtain ⟨w7,hw7⟩:∃ q,w6.setRow b5 #[q0,q1,q2,q3,q4,q5]=q:=⟨_,rfl⟩
 have h57:Below w5.heap.size w5 w7:=by rw [←hw7];exact below_setRow hl6 (by rw [←hb6];exact Nat.le_refl _) _
 have HB47:Hid (Below w4.heap.size w4 w7):=hb5.trans (h57.mono hb5.size)
 have HBI:Hid (Bx w7 b5 #[q0,q1,q2,q3,q4,q5] 37):=by rw [←hw7];exact HB6.out.setRow _
 have HB47x:=hid (HB4.out.below HB47.out)
 have HAN:Hid (Ans w4.heap.size w7 [q0,q1,q2,q3,q4,q5] (rbM o d)):=hq.below h57
 have HON:Hid (∀ v∈[q0,q1,q2,q3,q4,q5],v.oneCell'=true):=hq.one.2
 have HBW7:Hid (Below W.heap.size W w7):=HBW4.out.trans (HB47.out.mono HBW4.out.size)
 have HW6:Hid _:=hw6
 have HW7:Hid _:=hw7
 have HI5:Hid _:=hb6
 have HG5:Hid (W.heap.size≤b5):=by rw [Hid,←hb6];exact Nat.le_trans HBW4.out.size hb5.size
 clear hw6 hw7 hb6 hl6 h57 hb5 hq
 go_upto_region 9 with ((try rw [HW6.out]);(try rw [HI5.out]);with_reducible refine stD rfl (.tmp 9) (.tmp 48) rfl b5 [q0,q1,q2,q3,q4,q5] (by with_unfolding_all rfl) (by with_unfolding_all rfl) HB6.out rfl rfl HON.out ?_;rw [HW7.out])
 clear HB6 HW6 HW7 HI5 HB4 HP4
 obtain ⟨z0,z1,z2,z3,z4,z5⟩:=HB47x.out.six
 obtain ⟨u0,u1,u2,u3,u4,u5⟩:=HBI.out.six
 have ko:=@one_any (fun b=>RX r ⟨.slice (some ⟨g,0,none⟩) n dc,.slice oa m oc,.slice ea q ec,os⟩ b∨A b) (fun _=>False) w7 [.bool bo,.slice ro no rco,.slice ao1 no1 co1,.slice ao2 no2 co2,.int .i64 xo,.int .i64 yo] [q0,q1,q2,q3,q4,q5] o (rbM o d) (Classical.propDecidable _) (HDO.out.below HBW7.out) (HAN.out.dc _ (fun _ q=>q.elim)) HSZ.out
 go_wp2_with fail
 refine ko.mono ?_
 clear ko z0 z1 z2 z3 z4 z5 u0 u1 u2 u3 u4 u5
 rintro e w8 ⟨rfl,hb8⟩
 have HBW8:Hid (Below W.heap.size W w8):=HBW7.out.trans (hb8.mono HBW7.out.size)
 have HBI8:=hid (HBI.out.below hb8)
 have HBO8:=hid (HB47x.out.below hb8)
 have HAN8:=hid (HAN.out.below hb8)
 clear hb8 HBI HB47x HAN HB47
 rw [@decide_eq_true _ (Classical.propDecidable _) HEQ.out]
 go_wp2
 go_ret2
 exact ⟨rfl,_,HR.out.below HBW8.out,Up.refl _ _,Kept.of_below HBW8.out⟩
theorem there_below {W w:World} {g o k:Nat} (h:W.there g o k) (hb:Below W.heap.size W w) (hg:g<W.heap.size):w.there g o k:=fun j hj=>by
 have h1:=h j hj
 have hbk:=hb.block g hg
 rw [hb.cell (p:=⟨g,o+j,none⟩) hg]
 exact ⟨h1.1,by have:=h1.2;simp only [World.frozen?] at this ⊢;rw [hbk];exact this⟩
theorem rnarrow_fail {A X:Nat→Prop} {W:World} {r:Nat} {D:List MD} {O:List (List MD)} {E:List (Int × Int)} {rl:Rl} {c:List Value} {d:MD} (h:Rs A W r D O E rl) (hc:Dc X W c d) (hf:Dm.FitsR d.r) (hn:D.length≤1000) {v:Nat} {o:MD} (hv:D[v]? = some o) (hrr:rightM d=true) (hset:d.set=o.set) (hfail:D.any reM=false) (hH:Held o) (hne:o≠rbM o d) (hre:reM (rbM o d)=true) :
  Calls Tryz.prog 42 #[ptr r,.int .i64 (v:Int),.agg c.toArray] W fun e w'=>e = .returned (.tuple #[.int .i64 (rnar D E (v:Int) d).1.1,.int .i64 (rnar D E (v:Int) d).1.2])∧∃ rl',Rs A w' r (rnar D E (v:Int) d).2.1 O (rnar D E (v:Int) d).2.2 rl'∧Up (RX r rl) (RX r rl') W∧Kept (RX r rl) W w':=by
 have HA:Hid (rnar D E (v:Int) d=((2,0),D.set v (rbM o d),E)):=by
  unfold Hid rnar
  rw [if_neg (by omega),show ((v:Int)).toNat=v by omega,hv]
  simp only [if_neg (show ¬(rightM d=false∨d.set≠o.set) by rw [hrr];simp [hset]),if_neg (show ¬D.any reM=true by rw [hfail];decide),if_neg hne,if_pos hre]
 rw [HA.out]
 clear HA
 have HSZ:Hid (SzD o):=⟨by have:=hH.lo;omega,by have:=hH.up;omega,by have:=hH.n;omega⟩
 have HEQ:Hid (¬o=rbM o d):=hne
 have HRE:Hid (reM (rbM o d)=true):=hre
 clear hne hre hH
 obtain ⟨n,m,q,da,dc,oa,oc,ea,ec,os,rfl,HL⟩:=h.look
 obtain ⟨b,ra,n0,rc,a1,n1,c1,a2,n2,c2,x,y,rfl,HE,_,_,_⟩:=hc.look
 obtain ⟨N,hN⟩:∃ q,W.heap.size=q:=⟨_,rfl⟩
 obtain ⟨W0,hW0⟩:∃ q,W.alloc (Obj.cells #[.bool b,.slice ra n0 rc,.slice a1 n1 c1,.slice a2 n2 c2,.int .i64 x,.int .i64 y] 37)=q:=⟨_,rfl⟩
 have hb0:Below W.heap.size W W0:=by rw [←hW0];exact (Below.refl _ W).alloc (Nat.le_refl _) _
 have HX:Hid (Bx W0 N #[.bool b,.slice ra n0 rc,.slice a1 n1 c1,.slice a2 n2 c2,.int .i64 x,.int .i64 y] 37):=by rw [←hW0];exact Bx.new' hN _ _
 have HB0:Hid (Below W.heap.size W W0):=hb0
 have HR:Hid (Rs A W r D O E ⟨.slice da n dc,.slice oa m oc,.slice ea q ec,os⟩):=h
 have HW0:Hid _:=hW0
 have HN:Hid _:=hN
 have HDC:Hid (Dc X W [.bool b,.slice ra n0 rc,.slice a1 n1 c1,.slice a2 n2 c2,.int .i64 x,.int .i64 y] d):=hc
 have HFT:Hid (Dm.FitsR d.r):=hf
 have HDL:Hid (D.length=n):=HL.out.1
 have hn':(n:Int)≤1000:=by have:=HDL.out;omega
 obtain ⟨z0,z1,z2,zf⟩:=(h.below hb0).cells
 simp only at z0 z1 z2
 obtain ⟨g,cap,cs,e1,hgl,hcap,hcm,hrg,hth,hdo⟩:=h.d.at hv
 simp only at e1
 injection e1 with e1 e2 e3
 subst e1 e3
 obtain ⟨bo,ro,no,rco,ao1,no1,co1,ao2,no2,co2,xo,yo,rfl,HEo,_,_,_⟩:=hdo.look
 have HRG:Hid (W.rangeAt g (v*6) [.bool bo,.slice ro no rco,.slice ao1 no1 co1,.slice ao2 no2 co2,.int .i64 xo,.int .i64 yo]):=hrg
 have HDO:Hid (Dc (fun b=>RX r ⟨.slice (some ⟨g,0,none⟩) n dc,.slice oa m oc,.slice ea q ec,os⟩ b∨A b) W [.bool bo,.slice ro no rco,.slice ao1 no1 co1,.slice ao2 no2 co2,.int .i64 xo,.int .i64 yo] o):=hdo
 have HGL:Hid (g<W.heap.size):=hgl
 have HTH:Hid (W.there g (v*6) 6):=hth
 have HVV:Hid (D[v]? = some o):=hv
 have hvn:v<n:=by have:=(List.getElem?_eq_some_iff.1 hv).1;have:=HDL.out;omega
 have hvn':(v:Int)<(n:Int):=by omega
 have HCV:Hid (∀ w,Below W0.heap.size W0 w→w.cell? ⟨r,0,none⟩=some (.slice (some ⟨g,0,none⟩) n dc)∧w.cell? ⟨g,v*6,none⟩=some (.bool bo)):=fun w hw=>⟨(HR.out.below (hb0.trans (hw.mono hb0.size))).cells.1,((hb0.trans (hw.mono hb0.size)).cell (p:=⟨g,v*6,none⟩) hgl).trans (by simpa using hrg 0 _ rfl)⟩
 have KR:Hid (∀ w,Below W0.heap.size W0 w→Calls Tryz.prog 23 #[.agg #[.bool b,.slice ra n0 rc,.slice a1 n1 c1,.slice a2 n2 c2,.int .i64 x,.int .i64 y]] w fun e w'=>e = .returned (.bool (rightM d))∧Below w.heap.size w w'):=fun w hw=>rright_d (hc.below (hb0.trans (hw.mono hb0.size))) hf
 have HP0:Hid (Below W0.heap.size W0 W0.drew):=(Below.refl _ _).drew
 have hbb:bo=b:=by rw [←HE.out.1,←HEo.out.1];exact hset.symm
 have HNN:Hid (D.length≤1000):=hn
 have HFA:Hid (D.any reM=false):=hfail
 have KR:Hid (∀ w,Below W0.heap.size W0 w→Calls Tryz.prog 23 #[.agg #[.bool b,.slice ra n0 rc,.slice a1 n1 c1,.slice a2 n2 c2,.int .i64 x,.int .i64 y]] w fun e w'=>e = .returned (.bool true)∧Below w.heap.size w w'):=by rw [←hrr];exact KR
 subst hbb
 clear h hc hf hn hW0 hN hb0 zf HL hrg hdo hth hv hgl hcap hcm e2 hrr hset hfail
 go_enter Tryz.func42,Tryz.ntmps42
 go_upto_region 1 with (fail)
 (try rw [HW0.out]);(try rw [HN.out])
 go_upto_region 3 with (fail)
 clear z0 z1 z2
 refine wp_region_held_drew (S:=fun X:World=>Below W0.heap.size W0 X) (by kernel_rfl) (HP0.out) (fun hHeld=>?_)
 refine tkH 0 _ (v:=?_) hHeld ?_ ?_;rotate_left
 ·intro w hSw;obtain ⟨y0,y1,y2,y3,y4,y5⟩:=(HX.out.below hSw).six;go_simp<;>with_reducible rfl
 try simp only [Act.put,zS,eZ,eS]
 refine rdy 1 rfl fun K hK=>?_
 go_simp
 refine (KR.out _ HP0.out).mono ?_
 rintro e w1 ⟨rfl,hb1⟩
 have HP1:Hid (Below W0.heap.size W0 w1):=HP0.out.trans (hb1.mono HP0.out.size)
 clear hb1
 clear hHeld;refine hK.out _ _ (HP1.out) fun hHeld=>?_
 clear hK K
 try simp only [Act.put,zS,eZ,eS]
 refine tkI 2 rfl hHeld ?_
 try simp only [Act.put,zS,eZ,eS]
 refine tkI 3 rfl hHeld ?_
 try simp only [Act.put,zS,eZ,eS]
 refine tkI 4 rfl hHeld ?_
 try simp only [Act.put,zS,eZ,eS]
 refine tkH 5 _ (v:=?_) hHeld ?_ ?_;rotate_left
 ·intro w hSw;obtain ⟨y0,y1,y2,y3,y4,y5⟩:=(HX.out.below hSw).six;go_simp<;>with_reducible rfl
 try simp only [Act.put,zS,eZ,eS]
 refine tkI 6 rfl hHeld ?_
 try simp only [Act.put,zS,eZ,eS]
 refine tkI 7 rfl hHeld ?_
 try simp only [Act.put,zS,eZ,eS]
 refine tkI 8 rfl hHeld ?_
 try simp only [Act.put,zS,eZ,eS]
 refine tkH 9 _ (v:=?_) hHeld ?_ ?_;rotate_left
 ·intro w hSw;obtain ⟨y9,y0⟩:=HCV.out _ hSw;go_simp<;>with_reducible rfl
 try simp only [Act.put,zS,eZ,eS]
 refine tkI 10 rfl hHeld ?_
 try simp only [Act.put,zS,eZ,eS]
 refine tkI 11 rfl hHeld ?_
 try simp only [Act.put,zS,eZ,eS]
 refine tkI 12 rfl hHeld ?_
 try simp only [Act.put,zS,eZ,eS]
 refine tkH 13 _ (v:=?_) hHeld ?_ ?_;rotate_left
 ·intro w hSw;obtain ⟨y9,y0⟩:=HCV.out _ hSw;go_simp<;>with_reducible rfl
 try simp only [Act.put,zS,eZ,eS]
 refine tkH 14 _ (v:=.bool false) hHeld ?_ ?_
 skip
 ·intro w hSw;go_simp<;>first | done | with_reducible rfl | simp
 try simp only [Act.put,zS,eZ,eS]
 refine tkH 15 _ (v:=.bool false) hHeld ?_ ?_
 skip
 ·intro w hSw;go_simp<;>first | done | with_reducible rfl | simp
 try simp only [Act.put,zS,eZ,eS]
 refine wpAnyH_done (by kernel_rfl) ?_ _
 have kf:=rfailed_any (HR.out.below (HB0.out.trans (HP1.out.mono HB0.out.size))) HNN.out
 rw [HFA.out] at kf
 go_wp2_with fail
 refine kf.mono ?_
 clear kf
 rintro e w2 ⟨rfl,hb2⟩
 have HP2:Hid (Below W0.heap.size W0 w2):=HP1.out.trans (hb2.mono HP1.out.size)
 clear hb2
 have HBW2:Hid (Below W.heap.size W w2):=HB0.out.trans (HP2.out.mono HB0.out.size)
 obtain ⟨z0,_,_,_⟩:=(HR.out.below HBW2.out).cells
 simp only at z0
 obtain ⟨u0,u1,u2,u3,u4,u5⟩:=rng6 (fun j u hu=>(HBW2.out.cell (p:=⟨g,v*6+j,none⟩) HGL.out).trans (HRG.out j u hu))
 obtain ⟨b2,hb2⟩:∃ q,w2.heap.size=q:=⟨_,rfl⟩
 obtain ⟨w3,hw3⟩:∃ q,w2.alloc (Obj.cells #[.bool false,.slice none 0 0,.slice none 0 0,.slice none 0 0,.int .i64 0,.int .i64 0] 37)=q:=⟨_,rfl⟩
 have hl3:Below w2.heap.size w2 w3:=by rw [←hw3];exact (Below.refl _ _).alloc (Nat.le_refl _) _
 have HB3:Hid (Bx w3 b2 #[.bool false,.slice none 0 0,.slice none 0 0,.slice none 0 0,.int .i64 0,.int .i64 0] 37):=by rw [←hw3];exact Bx.new' hb2 _ _
 obtain ⟨w4,hw4⟩:∃ q,w3.setRow b2 #[.bool bo,.slice ro no rco,.slice ao1 no1 co1,.slice ao2 no2 co2,.int .i64 xo,.int .i64 yo]=q:=⟨_,rfl⟩
 have HP4:Hid (Below W0.heap.size W0 w4):=by rw [←hw4];exact below_setRow (HP2.out.trans (hl3.mono HP2.out.size)) (by rw [←hb2];exact HP2.out.size) _
 have HB4:Hid (Bx w4 b2 #[.bool bo,.slice ro no rco,.slice ao1 no1 co1,.slice ao2 no2 co2,.int .i64 xo,.int .i64 yo] 37):=by rw [←hw4];exact HB3.out.setRow _
 have HW3:Hid _:=hw3
 have HW4:Hid _:=hw4
 have HI2:Hid _:=hb2
 have HG2:Hid (W.heap.size≤b2):=by rw [Hid,←hb2];exact HBW2.out.size
 clear hw3 hw4 hb2 hl3
 go_upto_region 8 with ((try rw [HW3.out]);(try rw [HI2.out]);with_reducible refine stD rfl (.tmp 8) (.tmp 45) rfl b2 [.bool bo,.slice ro no rco,.slice ao1 no1 co1,.slice ao2 no2 co2,.int .i64 xo,.int .i64 yo] (by with_unfolding_all rfl) (by with_unfolding_all rfl) HB3.out rfl rfl (six_one _ _ _ _ _ _ _ _ _ _ _ _) ?_;rw [HW4.out])
 clear z0 u0 u1 u2 u3 u4 u5 HB3 HW3 HW4 HI2
 have HBW4:Hid (Below W.heap.size W w4):=HB0.out.trans (HP4.out.mono HB0.out.size)
 obtain ⟨z0,z1,z2,z3,z4,z5⟩:=HB4.out.six
 obtain ⟨u0,u1,u2,u3,u4,u5⟩:=(HX.out.below HP4.out).six
 have kb:=rbothr_d (HDO.out.below HBW4.out) (HDC.out.below HBW4.out)
 go_wp2_with fail
 refine kb.mono ?_
 clear kb z0 z1 z2 z3 z4 z5 u0 u1 u2 u3 u4 u5
 rintro e w5 ⟨qq,rfl,hq,hb5⟩
 obtain ⟨q0,q1,q2,q3,q4,q5,rfl⟩:=list6 hq.one.1
 obtain ⟨b5,hb6⟩:∃ q,w5.heap.size=q:=⟨_,rfl⟩
 obtain ⟨w6,hw6⟩:∃ q,w5.alloc (Obj.cells #[.bool false,.slice none 0 0,.slice none 0 0,.slice none 0 0,.int .i64 0,.int .i64 0] 37)=q:=⟨_,rfl⟩
 have hl6:Below w5.heap.size w5 w6:=by rw [←hw6];exact (Below.refl _ _).alloc (Nat.le_refl _) _
 have HB6:Hid (Bx w6 b5 #[.bool false,.slice none 0 0,.slice none 0 0,.slice none 0 0,.int .i64 0,.int .i64 0] 37):=by rw [←hw6];exact Bx.new' hb6 _ _
 obtain ⟨w7,hw7⟩:∃ q,w6.setRow b5 #[q0,q1,q2,q3,q4,q5]=q:=⟨_,rfl⟩
 have h57:Below w5.heap.size w5 w7:=by rw [←hw7];exact below_setRow hl6 (by rw [←hb6];exact Nat.le_refl _) _
 have HB47:Hid (Below w4.heap.size w4 w7):=hb5.trans (h57.mono hb5.size)
 have HBI:Hid (Bx w7 b5 #[q0,q1,q2,q3,q4,q5] 37):=by rw [←hw7];exact HB6.out.setRow _
 have HB47x:=hid (HB4.out.below HB47.out)
 have HAN:Hid (Ans w4.heap.size w7 [q0,q1,q2,q3,q4,q5] (rbM o d)):=hq.below h57
 have HON:Hid (∀ v∈[q0,q1,q2,q3,q4,q5],v.oneCell'=true):=hq.one.2
 have HBW7:Hid (Below W.heap.size W w7):=HBW4.out.trans (HB47.out.mono HBW4.out.size)
 have HW6:Hid _:=hw6
 have HW7:Hid _:=hw7
 have HI5:Hid _:=hb6
 have HG5:Hid (W.heap.size≤b5):=by rw [Hid,←hb6];exact Nat.le_trans HBW4.out.size hb5.size
 clear hw6 hw7 hb6 hl6 h57 hb5 hq
 go_upto_region 9 with ((try rw [HW6.out]);(try rw [HI5.out]);with_reducible refine stD rfl (.tmp 9) (.tmp 48) rfl b5 [q0,q1,q2,q3,q4,q5] (by with_unfolding_all rfl) (by with_unfolding_all rfl) HB6.out rfl rfl HON.out ?_;rw [HW7.out])
 clear HB6 HW6 HW7 HI5 HB4 HP4
 obtain ⟨z0,z1,z2,z3,z4,z5⟩:=HB47x.out.six
 obtain ⟨u0,u1,u2,u3,u4,u5⟩:=HBI.out.six
 have ko:=@one_any (fun b=>RX r ⟨.slice (some ⟨g,0,none⟩) n dc,.slice oa m oc,.slice ea q ec,os⟩ b∨A b) (fun _=>False) w7 [.bool bo,.slice ro no rco,.slice ao1 no1 co1,.slice ao2 no2 co2,.int .i64 xo,.int .i64 yo] [q0,q1,q2,q3,q4,q5] o (rbM o d) (Classical.propDecidable _) (HDO.out.below HBW7.out) (HAN.out.dc _ (fun _ q=>q.elim)) HSZ.out
 go_wp2_with fail
 refine ko.mono ?_
 clear ko z0 z1 z2 z3 z4 z5 u0 u1 u2 u3 u4 u5
 rintro e w8 ⟨rfl,hb8⟩
 have HBW8:Hid (Below W.heap.size W w8):=HBW7.out.trans (hb8.mono HBW7.out.size)
 have HBI8:=hid (HBI.out.below hb8)
 have HBO8:=hid (HB47x.out.below hb8)
 have HAN8:=hid (HAN.out.below hb8)
 clear hb8 HBI HB47x HAN HB47
 rw [@decide_eq_false _ (Classical.propDecidable _) HEQ.out]
 have HP8:Hid (Below w8.heap.size w8 w8.drew):=(Below.refl _ _).drew
 have HBW9:Hid (Below W.heap.size W w8.drew):=HBW8.out.trans (HP8.out.mono HBW8.out.size)
 have HT8:Hid (w8.drew.there g (v*6) 6):=there_below HTH.out HBW9.out HGL.out
 have HS8:Hid (w8.cell? ⟨r,0,none⟩=some (.slice (some ⟨g,0,none⟩) n dc)):=(HR.out.below HBW8.out).cells.1
 obtain ⟨w9,hw9⟩:∃ q,w8.drew.setCells g (v*6) [q0,q1,q2,q3,q4,q5]=q:=⟨_,rfl⟩
 have HR9:Hid (Rs A w9 r (D.set v (rbM o d)) O E ⟨.slice (some ⟨g,0,none⟩) n dc,.slice oa m oc,.slice ea q ec,os⟩∧Kept (RX r ⟨.slice (some ⟨g,0,none⟩) n dc,.slice oa m oc,.slice ea q ec,os⟩) W w9):=by
  rw [←hw9]
  exact HR.out.setD (i:=v) (g:=g) (n:=n) (cap:=dc) HBW9.out (by have:=HDL.out;omega) rfl (fun Z hZ=>(HAN8.out.dc Z (fun b hb=>Nat.lt_of_lt_of_le (hZ b hb) HBW4.out.size)).below HP8.out)
 have hk9:Kept (fun b=>b=g) w8.drew w9:=by rw [←hw9];exact Kept.many rfl
 have HBI9:Hid (Bx w9 b5 #[q0,q1,q2,q3,q4,q5] 37):=by rw [←hw9];exact (HBI8.out.below HP8.out).setcs (by have:=HG5.out;have:=HGL.out;omega) _ _
 have HBO9:Hid (Bx w9 b2 #[.bool bo,.slice ro no rco,.slice ao1 no1 co1,.slice ao2 no2 co2,.int .i64 xo,.int .i64 yo] 37):=by rw [←hw9];exact (HBO8.out.below HP8.out).setcs (by have:=HG2.out;have:=HGL.out;omega) _ _
 have HIS9:Hid (Dc (fun b=>b=g) w9 [q0,q1,q2,q3,q4,q5] (rbM o d)):=((HAN8.out.dc (fun b=>b=g) (fun b hb=>by rw [hb];exact Nat.lt_of_lt_of_le HGL.out HBW4.out.size)).below HP8.out).kept hk9
 have HOD9:Hid (Dc (fun b=>RX r ⟨.slice (some ⟨g,0,none⟩) n dc,.slice oa m oc,.slice ea q ec,os⟩ b∨A b) w9 [.bool bo,.slice ro no rco,.slice ao1 no1 co1,.slice ao2 no2 co2,.int .i64 xo,.int .i64 yo] o):=HDO.out.kept (HR9.out.2.mono fun b q=>.inl q)
 have HS9:Hid (w9.cell? ⟨r,0,none⟩=some (.slice (some ⟨g,0,none⟩) n dc)):=HR9.out.1.cells.1
 have HW9:Hid _:=hw9
 clear hw9 hk9 HAN8
 go_upto_region 11 with (fail)
 refine wp_region_held_drew (S:=fun X:World=>X.cell? ⟨r,0,none⟩=some (.slice (some ⟨g,0,none⟩) n dc)∧Bx X b5 #[q0,q1,q2,q3,q4,q5] 37) (by kernel_rfl) (⟨HS8.out,HBI8.out.below HP8.out⟩) (fun hHeld=>?_)
 refine tkI 0 rfl hHeld ?_
 try simp only [Act.put,zS,eZ,eS]
 refine tkI 1 rfl hHeld ?_
 try simp only [Act.put,zS,eZ,eS]
 refine tkI 2 rfl hHeld ?_
 try simp only [Act.put,zS,eZ,eS]
 refine tkH 3 _ (v:=?_) hHeld ?_ ?_;rotate_left
 ·intro w hSw;obtain ⟨y0,hbx⟩:=hSw;go_simp<;>with_reducible rfl
 try simp only [Act.put,zS,eZ,eS]
 refine tkI 4 rfl hHeld ?_
 try simp only [Act.put,zS,eZ,eS]
 refine tkH 5 _ (v:=?_) hHeld ?_ ?_;rotate_left
 ·intro w hSw;obtain ⟨y9,hbx⟩:=hSw;obtain ⟨y0,y1,y2,y3,y4,y5⟩:=hbx.six;go_simp<;>with_reducible rfl
 try simp only [Act.put,zS,eZ,eS]
 refine tkI 6 rfl hHeld ?_
 try simp only [Act.put,zS,eZ,eS]
 refine rdy 7 rfl fun K hK=>?_
 refine stepM rfl 37 (.tmp 58) (.tmp 57) rfl g (v*6) [q0,q1,q2,q3,q4,q5] (by with_unfolding_all rfl) (by with_unfolding_all rfl) HT8.out Tryz.sizeDom HON.out ?_
 rw [HW9.out]
 clear hHeld;refine hK.out _ _ (⟨HS9.out,HBI9.out⟩) fun hHeld=>?_
 clear hK K
 try simp only [Act.put,zS,eZ,eS]
 refine wpAnyH_done (by kernel_rfl) ?_ _
 clear hHeld
 clear HBI8 HBO8 HT8 HW9
 obtain ⟨u0,u1,u2,u3,u4,u5⟩:=HBI9.out.six
 have ke:=rempty_d HIS9.out
 rw [HRE.out] at ke
 go_wp2_with fail
 refine ke.mono ?_
 clear ke u0 u1 u2 u3 u4 u5
 rintro e w10 ⟨rfl,hb10⟩
 have HR10:=hid (HR9.out.1.below hb10)
 have HK10:Hid (Kept (RX r ⟨.slice (some ⟨g,0,none⟩) n dc,.slice oa m oc,.slice ea q ec,os⟩) W w10):=HR9.out.2.then_below hb10
 go_wp2
 go_ret2
 exact ⟨rfl,_,HR10.out,Up.refl _ _,HK10.out⟩
theorem rnarrow_less {A X:Nat→Prop} {W:World} {r:Nat} {D:List MD} {O:List (List MD)} {E:List (Int × Int)} {rl:Rl} {c:List Value} {d:MD} (h:Rs A W r D O E rl) (hc:Dc X W c d) (hf:Dm.FitsR d.r) (hn:D.length≤1000) {v:Nat} {o:MD} (hv:D[v]? = some o) (hrr:rightM d=true) (hset:d.set=o.set) (hfail:D.any reM=false) (hH:Held o) (hne:o≠rbM o d) (hre:reM (rbM o d)=false) (hI:Held (rbM o d)) (hel:E.length≤1000) :
  Calls Tryz.prog 42 #[ptr r,.int .i64 (v:Int),.agg c.toArray] W fun e w'=>e = .returned (.tuple #[.int .i64 (rnar D E (v:Int) d).1.1,.int .i64 (rnar D E (v:Int) d).1.2])∧∃ rl',Rs A w' r (rnar D E (v:Int) d).2.1 O (rnar D E (v:Int) d).2.2 rl'∧Up (RX r rl) (RX r rl') W∧Kept (RX r rl) W w':=by
 have HA:Hid (rnar D E (v:Int) d=((1,0),D.set v (rbM o d),tellE E (v:Int) (whyM o (rbM o d)))):=by
  unfold Hid rnar
  rw [if_neg (by omega),show ((v:Int)).toNat=v by omega,hv]
  simp only [if_neg (show ¬(rightM d=false∨d.set≠o.set) by rw [hrr];simp [hset]),if_neg (show ¬D.any reM=true by rw [hfail];decide),if_neg hne,if_neg (show ¬reM (rbM o d)=true by rw [hre];decide)]
 rw [HA.out]
 clear HA
 have HSZ:Hid (SzD o):=⟨by have:=hH.lo;omega,by have:=hH.up;omega,by have:=hH.n;omega⟩
 have HEQ:Hid (¬o=rbM o d):=hne
 have HRE:Hid (reM (rbM o d)=false):=hre
 have HFI:Hid (Dm.FitsR (rbM o d).r):=hI.f
 have HLO:Hid (o.r.length≤100000):=by rw [Hid];have:=hH.n;omega
 have HLI:Hid ((rbM o d).r.length≤100000):=by rw [Hid];have:=hI.n;omega
 have HEL:Hid (E.length≤1000):=hel
 have HPO:Hid ((rbM o d).set=false→0<o.r.length∧0<(rbM o d).r.length):=fun hs=>by
  have hso:o.set=false:=by rw [rb_both,bothA_set] at hs;exact hs
  have h1:reM o=false:=by
   cases q:reM o
   ·rfl
   ·rw [List.any_eq_true.2 ⟨o,List.mem_of_getElem? hv,q⟩] at hfail;cases hfail
  unfold reM at h1 hre
  rw [if_neg (by rw [hso];decide)] at h1
  rw [if_neg (by rw [hs];decide)] at hre
  simp at h1 hre
  exact ⟨List.length_pos_iff.2 h1,List.length_pos_iff.2 hre⟩
 clear hI hel
 clear hne hre hH
 obtain ⟨n,m,q,da,dc,oa,oc,ea,ec,os,rfl,HL⟩:=h.look
 obtain ⟨b,ra,n0,rc,a1,n1,c1,a2,n2,c2,x,y,rfl,HE,_,_,_⟩:=hc.look
 obtain ⟨N,hN⟩:∃ q,W.heap.size=q:=⟨_,rfl⟩
 obtain ⟨W0,hW0⟩:∃ q,W.alloc (Obj.cells #[.bool b,.slice ra n0 rc,.slice a1 n1 c1,.slice a2 n2 c2,.int .i64 x,.int .i64 y] 37)=q:=⟨_,rfl⟩
 have hb0:Below W.heap.size W W0:=by rw [←hW0];exact (Below.refl _ W).alloc (Nat.le_refl _) _
 have HX:Hid (Bx W0 N #[.bool b,.slice ra n0 rc,.slice a1 n1 c1,.slice a2 n2 c2,.int .i64 x,.int .i64 y] 37):=by rw [←hW0];exact Bx.new' hN _ _
 have HB0:Hid (Below W.heap.size W W0):=hb0
 have HR:Hid (Rs A W r D O E ⟨.slice da n dc,.slice oa m oc,.slice ea q ec,os⟩):=h
 have HW0:Hid _:=hW0
 have HN:Hid _:=hN
 have HDC:Hid (Dc X W [.bool b,.slice ra n0 rc,.slice a1 n1 c1,.slice a2 n2 c2,.int .i64 x,.int .i64 y] d):=hc
 have HFT:Hid (Dm.FitsR d.r):=hf
 have HDL:Hid (D.length=n):=HL.out.1
 have hn':(n:Int)≤1000:=by have:=HDL.out;omega
 obtain ⟨z0,z1,z2,zf⟩:=(h.below hb0).cells
 simp only at z0 z1 z2
 obtain ⟨g,cap,cs,e1,hgl,hcap,hcm,hrg,hth,hdo⟩:=h.d.at hv
 simp only at e1
 injection e1 with e1 e2 e3
 subst e1 e3
 obtain ⟨bo,ro,no,rco,ao1,no1,co1,ao2,no2,co2,xo,yo,rfl,HEo,_,_,_⟩:=hdo.look
 have HRG:Hid (W.rangeAt g (v*6) [.bool bo,.slice ro no rco,.slice ao1 no1 co1,.slice ao2 no2 co2,.int .i64 xo,.int .i64 yo]):=hrg
 have HDO:Hid (Dc (fun b=>RX r ⟨.slice (some ⟨g,0,none⟩) n dc,.slice oa m oc,.slice ea q ec,os⟩ b∨A b) W [.bool bo,.slice ro no rco,.slice ao1 no1 co1,.slice ao2 no2 co2,.int .i64 xo,.int .i64 yo] o):=hdo
 have HGL:Hid (g<W.heap.size):=hgl
 have HTH:Hid (W.there g (v*6) 6):=hth
 have HVV:Hid (D[v]? = some o):=hv
 have hvn:v<n:=by have:=(List.getElem?_eq_some_iff.1 hv).1;have:=HDL.out;omega
 have hvn':(v:Int)<(n:Int):=by omega
 have HCV:Hid (∀ w,Below W0.heap.size W0 w→w.cell? ⟨r,0,none⟩=some (.slice (some ⟨g,0,none⟩) n dc)∧w.cell? ⟨g,v*6,none⟩=some (.bool bo)):=fun w hw=>⟨(HR.out.below (hb0.trans (hw.mono hb0.size))).cells.1,((hb0.trans (hw.mono hb0.size)).cell (p:=⟨g,v*6,none⟩) hgl).trans (by simpa using hrg 0 _ rfl)⟩
 have KR:Hid (∀ w,Below W0.heap.size W0 w→Calls Tryz.prog 23 #[.agg #[.bool b,.slice ra n0 rc,.slice a1 n1 c1,.slice a2 n2 c2,.int .i64 x,.int .i64 y]] w fun e w'=>e = .returned (.bool (rightM d))∧Below w.heap.size w w'):=fun w hw=>rright_d (hc.below (hb0.trans (hw.mono hb0.size))) hf
 have HP0:Hid (Below W0.heap.size W0 W0.drew):=(Below.refl _ _).drew
 have hbb:bo=b:=by rw [←HE.out.1,←HEo.out.1];exact hset.symm
 have HNN:Hid (D.length≤1000):=hn
 have HFA:Hid (D.any reM=false):=hfail
 have KR:Hid (∀ w,Below W0.heap.size W0 w→Calls Tryz.prog 23 #[.agg #[.bool b,.slice ra n0 rc,.slice a1 n1 c1,.slice a2 n2 c2,.int .i64 x,.int .i64 y]] w fun e w'=>e = .returned (.bool true)∧Below w.heap.size w w'):=by rw [←hrr];exact KR
 subst hbb
 clear h hc hf hn hW0 hN hb0 zf HL hrg hdo hth hv hgl hcap hcm e2 hrr hset hfail
 go_enter Tryz.func42,Tryz.ntmps42
 go_upto_region 1 with (fail)
 (try rw [HW0.out]);(try rw [HN.out])
 go_upto_region 3 with (fail)
 clear z0 z1 z2
 refine wp_region_held_drew (S:=fun X:World=>Below W0.heap.size W0 X) (by kernel_rfl) (HP0.out) (fun hHeld=>?_)
 refine tkH 0 _ (v:=?_) hHeld ?_ ?_;rotate_left
 ·intro w hSw;obtain ⟨y0,y1,y2,y3,y4,y5⟩:=(HX.out.below hSw).six;go_simp<;>with_reducible rfl
 try simp only [Act.put,zS,eZ,eS]
 refine rdy 1 rfl fun K hK=>?_
 go_simp
 refine (KR.out _ HP0.out).mono ?_
 rintro e w1 ⟨rfl,hb1⟩
 have HP1:Hid (Below W0.heap.size W0 w1):=HP0.out.trans (hb1.mono HP0.out.size)
 clear hb1
 clear hHeld;refine hK.out _ _ (HP1.out) fun hHeld=>?_
 clear hK K
 try simp only [Act.put,zS,eZ,eS]
 refine tkI 2 rfl hHeld ?_
 try simp only [Act.put,zS,eZ,eS]
 refine tkI 3 rfl hHeld ?_
 try simp only [Act.put,zS,eZ,eS]
 refine tkI 4 rfl hHeld ?_
 try simp only [Act.put,zS,eZ,eS]
 refine tkH 5 _ (v:=?_) hHeld ?_ ?_;rotate_left
 ·intro w hSw;obtain ⟨y0,y1,y2,y3,y4,y5⟩:=(HX.out.below hSw).six;go_simp<;>with_reducible rfl
 try simp only [Act.put,zS,eZ,eS]
 refine tkI 6 rfl hHeld ?_
 try simp only [Act.put,zS,eZ,eS]
 refine tkI 7 rfl hHeld ?_
 try simp only [Act.put,zS,eZ,eS]
 refine tkI 8 rfl hHeld ?_
 try simp only [Act.put,zS,eZ,eS]
 refine tkH 9 _ (v:=?_) hHeld ?_ ?_;rotate_left
 ·intro w hSw;obtain ⟨y9,y0⟩:=HCV.out _ hSw;go_simp<;>with_reducible rfl
 try simp only [Act.put,zS,eZ,eS]
 refine tkI 10 rfl hHeld ?_
 try simp only [Act.put,zS,eZ,eS]
 refine tkI 11 rfl hHeld ?_
 try simp only [Act.put,zS,eZ,eS]
 refine tkI 12 rfl hHeld ?_
 try simp only [Act.put,zS,eZ,eS]
 refine tkH 13 _ (v:=?_) hHeld ?_ ?_;rotate_left
 ·intro w hSw;obtain ⟨y9,y0⟩:=HCV.out _ hSw;go_simp<;>with_reducible rfl
 try simp only [Act.put,zS,eZ,eS]
 refine tkH 14 _ (v:=.bool false) hHeld ?_ ?_
 skip
 ·intro w hSw;go_simp<;>first | done | with_reducible rfl | simp
 try simp only [Act.put,zS,eZ,eS]
 refine tkH 15 _ (v:=.bool false) hHeld ?_ ?_
 skip
 ·intro w hSw;go_simp<;>first | done | with_reducible rfl | simp
 try simp only [Act.put,zS,eZ,eS]
 refine wpAnyH_done (by kernel_rfl) ?_ _
 have kf:=rfailed_any (HR.out.below (HB0.out.trans (HP1.out.mono HB0.out.size))) HNN.out
 rw [HFA.out] at kf
 go_wp2_with fail
 refine kf.mono ?_
 clear kf
 rintro e w2 ⟨rfl,hb2⟩
 have HP2:Hid (Below W0.heap.size W0 w2):=HP1.out.trans (hb2.mono HP1.out.size)
 clear hb2
 have HBW2:Hid (Below W.heap.size W w2):=HB0.out.trans (HP2.out.mono HB0.out.size)
 obtain ⟨z0,_,_,_⟩:=(HR.out.below HBW2.out).cells
 simp only at z0
 obtain ⟨u0,u1,u2,u3,u4,u5⟩:=rng6 (fun j u hu=>(HBW2.out.cell (p:=⟨g,v*6+j,none⟩) HGL.out).trans (HRG.out j u hu))
 obtain ⟨b2,hb2⟩:∃ q,w2.heap.size=q:=⟨_,rfl⟩
 obtain ⟨w3,hw3⟩:∃ q,w2.alloc (Obj.cells #[.bool false,.slice none 0 0,.slice none 0 0,.slice none 0 0,.int .i64 0,.int .i64 0] 37)=q:=⟨_,rfl⟩
 have hl3:Below w2.heap.size w2 w3:=by rw [←hw3];exact (Below.refl _ _).alloc (Nat.le_refl _) _
 have HB3:Hid (Bx w3 b2 #[.bool false,.slice none 0 0,.slice none 0 0,.slice none 0 0,.int .i64 0,.int .i64 0] 37):=by rw [←hw3];exact Bx.new' hb2 _ _
 obtain ⟨w4,hw4⟩:∃ q,w3.setRow b2 #[.bool bo,.slice ro no rco,.slice ao1 no1 co1,.slice ao2 no2 co2,.int .i64 xo,.int .i64 yo]=q:=⟨_,rfl⟩
 have HP4:Hid (Below W0.heap.size W0 w4):=by rw [←hw4];exact below_setRow (HP2.out.trans (hl3.mono HP2.out.size)) (by rw [←hb2];exact HP2.out.size) _
 have HB4:Hid (Bx w4 b2 #[.bool bo,.slice ro no rco,.slice ao1 no1 co1,.slice ao2 no2 co2,.int .i64 xo,.int .i64 yo] 37):=by rw [←hw4];exact HB3.out.setRow _
 have HW3:Hid _:=hw3
 have HW4:Hid _:=hw4
 have HI2:Hid _:=hb2
 have HG2:Hid (W.heap.size≤b2):=by rw [Hid,←hb2];exact HBW2.out.size
 clear hw3 hw4 hb2 hl3
 go_upto_region 8 with ((try rw [HW3.out]);(try rw [HI2.out]);with_reducible refine stD rfl (.tmp 8) (.tmp 45) rfl b2 [.bool bo,.slice ro no rco,.slice ao1 no1 co1,.slice ao2 no2 co2,.int .i64 xo,.int .i64 yo] (by with_unfolding_all rfl) (by with_unfolding_all rfl) HB3.out rfl rfl (six_one _ _ _ _ _ _ _ _ _ _ _ _) ?_;rw [HW4.out])
 clear z0 u0 u1 u2 u3 u4 u5 HB3 HW3 HW4 HI2
 have HBW4:Hid (Below W.heap.size W w4):=HB0.out.trans (HP4.out.mono HB0.out.size)
 obtain ⟨z0,z1,z2,z3,z4,z5⟩:=HB4.out.six
 obtain ⟨u0,u1,u2,u3,u4,u5⟩:=(HX.out.below HP4.out).six
 have kb:=rbothr_d (HDO.out.below HBW4.out) (HDC.out.below HBW4.out)
 go_wp2_with fail
 refine kb.mono ?_
 clear kb z0 z1 z2 z3 z4 z5 u0 u1 u2 u3 u4 u5
 rintro e w5 ⟨qq,rfl,hq,hb5⟩
 obtain ⟨q0,q1,q2,q3,q4,q5,rfl⟩:=list6 hq.one.1
 obtain ⟨b5,hb6⟩:∃ q,w5.heap.size=q:=⟨_,rfl⟩
 obtain ⟨w6,hw6⟩:∃ q,w5.alloc (Obj.cells #[.bool false,.slice none 0 0,.slice none 0 0,.slice none 0 0,.int .i64 0,.int .i64 0] 37)=q:=⟨_,rfl⟩
 have hl6:Below w5.heap.size w5 w6:=by rw [←hw6];exact (Below.refl _ _).alloc (Nat.le_refl _) _
 have HB6:Hid (Bx w6 b5 #[.bool false,.slice none 0 0,.slice none 0 0,.slice none 0 0,.int .i64 0,.int .i64 0] 37):=by rw [←hw6];exact Bx.new' hb6 _ _
 obtain ⟨w7,hw7⟩:∃ q,w6.setRow b5 #[q0,q1,q2,q3,q4,q5]=q:=⟨_,rfl⟩
 have h57:Below w5.heap.size w5 w7:=by rw [←hw7];exact below_setRow hl6 (by rw [←hb6];exact Nat.le_refl _) _
 have HB47:Hid (Below w4.heap.size w4 w7):=hb5.trans (h57.mono hb5.size)
 have HBI:Hid (Bx w7 b5 #[q0,q1,q2,q3,q4,q5] 37):=by rw [←hw7];exact HB6.out.setRow _
 have HB47x:=hid (HB4.out.below HB47.out)
 have HAN:Hid (Ans w4.heap.size w7 [q0,q1,q2,q3,q4,q5] (rbM o d)):=hq.below h57
 have HON:Hid (∀ v∈[q0,q1,q2,q3,q4,q5],v.oneCell'=true):=hq.one.2
 have HBW7:Hid (Below W.heap.size W w7):=HBW4.out.trans (HB47.out.mono HBW4.out.size)
 have HW6:Hid _:=hw6
 have HW7:Hid _:=hw7
 have HI5:Hid _:=hb6
 have HG5:Hid (W.heap.size≤b5):=by rw [Hid,←hb6];exact Nat.le_trans HBW4.out.size hb5.size
 clear hw6 hw7 hb6 hl6 h57 hb5 hq
 go_upto_region 9 with ((try rw [HW6.out]);(try rw [HI5.out]);with_reducible refine stD rfl (.tmp 9) (.tmp 48) rfl b5 [q0,q1,q2,q3,q4,q5] (by with_unfolding_all rfl) (by with_unfolding_all rfl) HB6.out rfl rfl HON.out ?_;rw [HW7.out])
 clear HB6 HW6 HW7 HI5 HB4 HP4
 obtain ⟨z0,z1,z2,z3,z4,z5⟩:=HB47x.out.six
 obtain ⟨u0,u1,u2,u3,u4,u5⟩:=HBI.out.six
 have ko:=@one_any (fun b=>RX r ⟨.slice (some ⟨g,0,none⟩) n dc,.slice oa m oc,.slice ea q ec,os⟩ b∨A b) (fun _=>False) w7 [.bool bo,.slice ro no rco,.slice ao1 no1 co1,.slice ao2 no2 co2,.int .i64 xo,.int .i64 yo] [q0,q1,q2,q3,q4,q5] o (rbM o d) (Classical.propDecidable _) (HDO.out.below HBW7.out) (HAN.out.dc _ (fun _ q=>q.elim)) HSZ.out
 go_wp2_with fail
 refine ko.mono ?_
 clear ko z0 z1 z2 z3 z4 z5 u0 u1 u2 u3 u4 u5
 rintro e w8 ⟨rfl,hb8⟩
 have HBW8:Hid (Below W.heap.size W w8):=HBW7.out.trans (hb8.mono HBW7.out.size)
 have HBI8:=hid (HBI.out.below hb8)
 have HBO8:=hid (HB47x.out.below hb8)
 have HAN8:=hid (HAN.out.below hb8)
 clear hb8 HBI HB47x HAN HB47
 rw [@decide_eq_false _ (Classical.propDecidable _) HEQ.out]
 have HP8:Hid (Below w8.heap.size w8 w8.drew):=(Below.refl _ _).drew
 have HBW9:Hid (Below W.heap.size W w8.drew):=HBW8.out.trans (HP8.out.mono HBW8.out.size)
 have HT8:Hid (w8.drew.there g (v*6) 6):=there_below HTH.out HBW9.out HGL.out
 have HS8:Hid (w8.cell? ⟨r,0,none⟩=some (.slice (some ⟨g,0,none⟩) n dc)):=(HR.out.below HBW8.out).cells.1
 obtain ⟨w9,hw9⟩:∃ q,w8.drew.setCells g (v*6) [q0,q1,q2,q3,q4,q5]=q:=⟨_,rfl⟩
 have HR9:Hid (Rs A w9 r (D.set v (rbM o d)) O E ⟨.slice (some ⟨g,0,none⟩) n dc,.slice oa m oc,.slice ea q ec,os⟩∧Kept (RX r ⟨.slice (some ⟨g,0,none⟩) n dc,.slice oa m oc,.slice ea q ec,os⟩) W w9):=by
  rw [←hw9]
  exact HR.out.setD (i:=v) (g:=g) (n:=n) (cap:=dc) HBW9.out (by have:=HDL.out;omega) rfl (fun Z hZ=>(HAN8.out.dc Z (fun b hb=>Nat.lt_of_lt_of_le (hZ b hb) HBW4.out.size)).below HP8.out)
 have hk9:Kept (fun b=>b=g) w8.drew w9:=by rw [←hw9];exact Kept.many rfl
 have HBI9:Hid (Bx w9 b5 #[q0,q1,q2,q3,q4,q5] 37):=by rw [←hw9];exact (HBI8.out.below HP8.out).setcs (by have:=HG5.out;have:=HGL.out;omega) _ _
 have HBO9:Hid (Bx w9 b2 #[.bool bo,.slice ro no rco,.slice ao1 no1 co1,.slice ao2 no2 co2,.int .i64 xo,.int .i64 yo] 37):=by rw [←hw9];exact (HBO8.out.below HP8.out).setcs (by have:=HG2.out;have:=HGL.out;omega) _ _
 have HIS9:Hid (Dc (fun b=>b=g) w9 [q0,q1,q2,q3,q4,q5] (rbM o d)):=((HAN8.out.dc (fun b=>b=g) (fun b hb=>by rw [hb];exact Nat.lt_of_lt_of_le HGL.out HBW4.out.size)).below HP8.out).kept hk9
 have HOD9:Hid (Dc (fun b=>RX r ⟨.slice (some ⟨g,0,none⟩) n dc,.slice oa m oc,.slice ea q ec,os⟩ b∨A b) w9 [.bool bo,.slice ro no rco,.slice ao1 no1 co1,.slice ao2 no2 co2,.int .i64 xo,.int .i64 yo] o):=HDO.out.kept (HR9.out.2.mono fun b q=>.inl q)
 have HS9:Hid (w9.cell? ⟨r,0,none⟩=some (.slice (some ⟨g,0,none⟩) n dc)):=HR9.out.1.cells.1
 have HW9:Hid _:=hw9
 clear hw9 hk9 HAN8
 go_upto_region 11 with (fail)
 refine wp_region_held_drew (S:=fun X:World=>X.cell? ⟨r,0,none⟩=some (.slice (some ⟨g,0,none⟩) n dc)∧Bx X b5 #[q0,q1,q2,q3,q4,q5] 37) (by kernel_rfl) (⟨HS8.out,HBI8.out.below HP8.out⟩) (fun hHeld=>?_)
 refine tkI 0 rfl hHeld ?_
 try simp only [Act.put,zS,eZ,eS]
 refine tkI 1 rfl hHeld ?_
 try simp only [Act.put,zS,eZ,eS]
 refine tkI 2 rfl hHeld ?_
 try simp only [Act.put,zS,eZ,eS]
 refine tkH 3 _ (v:=?_) hHeld ?_ ?_;rotate_left
 ·intro w hSw;obtain ⟨y0,hbx⟩:=hSw;go_simp<;>with_reducible rfl
 try simp only [Act.put,zS,eZ,eS]
 refine tkI 4 rfl hHeld ?_
 try simp only [Act.put,zS,eZ,eS]
 refine tkH 5 _ (v:=?_) hHeld ?_ ?_;rotate_left
 ·intro w hSw;obtain ⟨y9,hbx⟩:=hSw;obtain ⟨y0,y1,y2,y3,y4,y5⟩:=hbx.six;go_simp<;>with_reducible rfl
 try simp only [Act.put,zS,eZ,eS]
 refine tkI 6 rfl hHeld ?_
 try simp only [Act.put,zS,eZ,eS]
 refine rdy 7 rfl fun K hK=>?_
 refine stepM rfl 37 (.tmp 58) (.tmp 57) rfl g (v*6) [q0,q1,q2,q3,q4,q5] (by with_unfolding_all rfl) (by with_unfolding_all rfl) HT8.out Tryz.sizeDom HON.out ?_
 rw [HW9.out]
 clear hHeld;refine hK.out _ _ (⟨HS9.out,HBI9.out⟩) fun hHeld=>?_
 clear hK K
 try simp only [Act.put,zS,eZ,eS]
 refine wpAnyH_done (by kernel_rfl) ?_ _
 clear hHeld
 clear HBI8 HBO8 HT8 HW9
 obtain ⟨u0,u1,u2,u3,u4,u5⟩:=HBI9.out.six
 have ke:=rempty_d HIS9.out
 rw [HRE.out] at ke
 go_wp2_with fail
 refine ke.mono ?_
 clear ke u0 u1 u2 u3 u4 u5
 rintro e w10 ⟨rfl,hb10⟩
 have HR10:=hid (HR9.out.1.below hb10)
 have HK10:Hid (Kept (RX r ⟨.slice (some ⟨g,0,none⟩) n dc,.slice oa m oc,.slice ea q ec,os⟩) W w10):=HR9.out.2.then_below hb10
 obtain ⟨u0,u1,u2,u3,u4,u5⟩:=(HBI9.out.below hb10).six
 obtain ⟨z0,z1,z2,z3,z4,z5⟩:=(HBO9.out.below hb10).six
 have kw:=rwhy_d (HOD9.out.below hb10) (HIS9.out.below hb10) HFI.out HPO.out HLO.out HLI.out
 clear hb10
 go_wp2_with fail
 refine kw.mono ?_
 clear kw u0 u1 u2 u3 u4 u5 z0 z1 z2 z3 z4 z5
 rintro e w11 ⟨rfl,hb11⟩
 have HR11:=hid (HR10.out.below hb11)
 have HK11:=hid (HK10.out.then_below hb11)
 clear hb11
 go_wp2_with fail
 refine (rtell_any HR11.out HEL.out _ _).mono ?_
 rintro e w12 ⟨rfl,rl',hr12,hu12,hk12⟩
 have HE12:Hid (Rs A w12 r (D.set v (rbM o d)) O (tellE E (v:Int) (whyM o (rbM o d))) rl'∧Up (RX r ⟨.slice (some ⟨g,0,none⟩) n dc,.slice oa m oc,.slice ea q ec,os⟩) (RX r rl') W∧Kept (RX r ⟨.slice (some ⟨g,0,none⟩) n dc,.slice oa m oc,.slice ea q ec,os⟩) W w12):=⟨hr12,fun b q=>(hu12 b q).imp id (fun q=>Nat.le_trans HK11.out.size q),HK11.out.trans hk12 (Up.refl _ _)⟩
 clear hr12 hu12 hk12
 go_wp2
 go_ret2
 exact ⟨rfl,_,HE12.out⟩
theorem rnarrow_any {A X:Nat→Prop} {W:World} {r:Nat} {D:List MD} {O:List (List MD)} {E:List (Int × Int)} {rl:Rl} {c:List Value} {d:MD} (h:Rs A W r D O E rl) (hc:Dc X W c d) (hf:Dm.FitsR d.r) (hn:D.length≤1000) (v:Int) (hH:∀ o∈D,Held o) (hel:E.length≤1000) :
  Calls Tryz.prog 42 #[ptr r,.int .i64 v,.agg c.toArray] W fun e w'=>e = .returned (.tuple #[.int .i64 (rnar D E v d).1.1,.int .i64 (rnar D E v d).1.2])∧∃ rl',Rs A w' r (rnar D E v d).2.1 O (rnar D E v d).2.2 rl'∧Up (RX r rl) (RX r rl') W∧Kept (RX r rl) W w':=by
 by_cases hv:v<0∨(D.length:Int)≤v
 ·exact rnarrow_arg h hc hf hn hv
 ·obtain ⟨k,rfl⟩:∃ k:Nat,v=(k:Int):=⟨v.toNat,by omega⟩
  obtain ⟨o,ho⟩:∃ o,D[k]? = some o:=⟨_,List.getElem?_eq_getElem (by omega)⟩
  have hHo:=hH o (List.mem_of_getElem? ho)
  by_cases hb:rightM d=false∨d.set≠o.set
  ·exact rnarrow_dom h hc hf hn ho hb
  ·have hr:rightM d=true:=by cases q:rightM d;exact absurd (.inl q) hb;rfl
   have hs:d.set=o.set:=Classical.byContradiction fun q=>hb (.inr q)
   cases hfl:D.any reM
   ·by_cases he:o=rbM o d
    ·exact rnarrow_same h hc hf hn ho hr hs hfl hHo he
    ·cases hre:reM (rbM o d)
     ·exact rnarrow_less h hc hf hn ho hr hs hfl hHo he hre (by rw [rb_both];exact both_held hHo.r) hel
     ·exact rnarrow_fail h hc hf hn ho hr hs hfl hHo he hre
   ·exact rnarrow_state h hc hf hn ho hr hs hfl
end Go.Proofs.YtghnfnieppfhgaaGreat
