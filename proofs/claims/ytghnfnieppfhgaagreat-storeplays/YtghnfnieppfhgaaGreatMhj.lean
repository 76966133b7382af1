/- What is proved here: store.New of any domains. What is proved here: Copy, New and Narrow of domains of whole numbers, from what holds of any domain. What is proved here: Get. -/
import Derived.Test.YtghnfnieppfhgaaGreatAa
import Derived.Test.YtghnfnieppfhgaaGreatMbj
import Derived.Test.YtghnfnieppfhgaaGreatKlj
import Derived.Test.YtghnfnieppfhgaaGreatMaj
set_option linter.unusedVariables false
set_option linter.unusedSimpArgs false
set_option maxRecDepth 100000
set_option maxHeartbeats 4000000
namespace Go.Proofs.YtghnfnieppfhgaaGreat
open Go.RowKit Go.Shelf
def newA (l:List MD):StM:=⟨l.map (fun d=>bothA d d),(l.map (fun d=>emptI (emptyA d))).sum,List.replicate l.length 0,List.replicate l.length 0,[],[]⟩
theorem sum_01A:∀ (l:List MD),0≤(l.map (fun d=>emptI (emptyA d))).sum∧(l.map (fun d=>emptI (emptyA d))).sum≤l.length
 | []=>by simp
 | d :: l=>by
  have h1:=sum_01A l
  have h2:=emptI_01 (emptyA d)
  simp only [List.map_cons,List.sum_cons,List.length_cons]
  omega
theorem new_gen [Gh] {W:World} {s:Value} {l:List MD} (h:Ld W s l) (hG:∀ b,Gh.Y b→b<W.heap.size∧W.heap[b]? = Gh.H b) (hl:l.length≤1000) (hok:∀ d∈l,Dm.FitsR d.r) :
  Calls Tryz.prog 8 #[s] W fun e w'=>((∃ p sl,e = .returned (.tuple #[ptr p,.int .i64 0])∧Sto w' p (newA l) sl∧(∀ b,OX p sl b→W.heap.size≤b)∧Below W.heap.size W w')∧∀ d∈l,rightM d=true)∨((e = .returned (.tuple #[.pointer none,.int .i64 20])∧Below W.heap.size W w')∧∃ d∈l,rightM d=false):=by
 obtain ⟨a,cap,rfl,hcells⟩:=h
 obtain ⟨n,hnl⟩:∃ n,l.length=n:=⟨_,rfl⟩
 have HNL:Hid (l.length=n):=hnl
 have HHG:Hid (∀ b,Gh.Y b→b<W.heap.size∧W.heap[b]? = Gh.H b):=hG
 clear hG
 rw [hnl] at hcells hl ⊢
 clear hnl
 have hn:n≤1000:=hl
 have hn':(n:Int)≤1000:=by omega
 have hmk:∀ w,(Instr.makeSlice 63 (.int .i64 (n:Int)) (.int .i64 (n:Int))).run Tryz.prog w = .ok (.slice (some ⟨w.heap.size,0,none⟩) n n) (w.alloc (.cells (madeCells #[.int .i64 0] n) 3)):=fun w=>run_make_row' 63 3 (.int .i64 0) 8 Tryz.underlying63 Tryz.infoInt rfl .i64 .i64 n (by omega) (by omega) w
 obtain ⟨CC,hCC⟩:∃ q,madeCells #[Value.int .i64 0] n=q:=⟨_,rfl⟩
 have HCC:Hid (madeCells #[Value.int .i64 0] n=CC):=hCC
 simp only [hCC] at hmk
 clear hCC
 have HB0:Hid (Below W.heap.size W W.drew):=(Below.refl _ _).drew
 go_enter Tryz.func8,Tryz.ntmps8
 go_upto_region 3 with (fail)
 apply wp_ways3 (R:=fun gi gw p w'=>Mk w' p gi gw n [] 0 (.slice none 0 0)∧W.heap.size≤gi∧W.heap.size≤gw∧W.heap.size≤p∧Below W.heap.size W w')
 case h =>
  refine wp_region_held_drew (S:=fun _:World=>True) (by kernel_rfl) (trivial) (fun hHeld=>?_)
  refine tkI 0 rfl hHeld ?_
  try simp only [Act.put,zS,eZ,eS]
  refine tkI 1 rfl hHeld ?_
  try simp only [Act.put,zS,eZ,eS]
  refine tkI 3 rfl hHeld ?_
  try simp only [Act.put,zS,eZ,eS]
  refine tkI 4 rfl hHeld ?_
  try simp only [Act.put,zS,eZ,eS]
  refine wpAnyH_ready (rs:=[2,5]) (by kernel_rfl) (by simp) ?_
  refine AllReadyH.cons rfl (fun K hK=>?_) ?_
  ·go_simp
   refine (newTrail_any n hn _).mono ?_
   rintro e v1 ⟨gi,rfl,hgi,hri,hb⟩
   have HB1:=hid (HB0.out.trans (hb.mono HB0.out.size))
   have HRI1:Hid (Rw v1 3 (.slice (some ⟨gi,0,none⟩) n n) 1 (ivs (List.replicate n 0))):=hri
   have HGI:=hid (Nat.le_trans HB0.out.size hgi)
   clear hb hri hgi
   clear hHeld;refine hK.out _ _ (trivial) fun hHeld=>?_
   clear hK K
   try simp only [Act.put,zS,eZ,eS]
   refine rdy 5 rfl fun K hK=>?_
   obtain ⟨gw,hgw⟩:∃ q,v1.heap.size=q:=⟨_,rfl⟩
   go_simp
   (try rw [hgw])
   obtain ⟨v2,hv2⟩:∃ q,v1.alloc (Obj.cells CC 3)=q:=⟨_,rfl⟩
   (try rw [hv2])
   (try rw [show (v1.alloc (Obj.cells CC 3)).drew=v2 from hv2])
   have HB2:Hid (Below W.heap.size W v2):=by rw [←hv2];exact HB1.out.alloc HB1.out.size _
   have HRW2:Hid (Rw v2 3 (.slice (some ⟨gw,0,none⟩) n n) 1 (ivs (List.replicate n 0))):=by rw [←hv2,←HCC.out];exact rw_made v1 n hn hgw
   have HGW:Hid (W.heap.size≤gw):=by rw [Hid,←hgw];exact HB1.out.size
   have HRI2:Hid (Rw v2 3 (.slice (some ⟨gi,0,none⟩) n n) 1 (ivs (List.replicate n 0))):=by rw [←hv2];exact HRI1.out.keep fun g hg=>Below.heap_alloc _ _ _ (HRI1.out.lt hg)
   have HNE:Hid (gw≠gi):=by have:=HRI1.out.lt (g:=gi) rfl;rw [Hid];omega
   clear hv2 hgw
   clear hHeld;refine hK.out _ _ (trivial) fun hHeld=>?_
   clear hK K
   try simp only [Act.put,zS,eZ,eS]
   refine tkI 6 rfl hHeld ?_
   try simp only [Act.put,zS,eZ,eS]
   refine rdy 7 rfl fun K hK=>?_
   obtain ⟨p,hp⟩:∃ q,v2.heap.size=q:=⟨_,rfl⟩
   go_simp
   (try rw [hp])
   obtain ⟨v3,hv3⟩:∃ q,v2.alloc (Obj.cells #[.slice none 0 0,.slice none 0 0,.slice (some ⟨gi,0,none⟩) n n,.slice none 0 0,.int .i64 0,.slice (some ⟨gw,0,none⟩) n n] 68)=q:=⟨_,rfl⟩
   rw [hv3]
   have HMK:Hid (Mk v3 p gi gw n [] 0 (.slice none 0 0)∧W.heap.size≤gi∧W.heap.size≤gw∧W.heap.size≤p∧Below W.heap.size W v3):=by
    rw [←hv3]
    exact ⟨⟨(Bx.new' hp _ _).h,⟨[],⟨(fun c hc=>by simp at hc),World.ownsRow_nil _ _ _ _⟩,rfl,(fun i c d h1 _=>by simp at h1)⟩,HRW2.out.keep fun g hg=>Below.heap_alloc _ _ _ (HRW2.out.lt hg),HRI2.out.keep fun g hg=>Below.heap_alloc _ _ _ (HRI2.out.lt hg),HNE.out,(fun b q=>⟨Nat.lt_of_lt_of_le (HHG.out b q).1 (HB2.out.alloc HB2.out.size _).size,((HB2.out.alloc HB2.out.size _).block b (HHG.out b q).1).trans (HHG.out b q).2⟩),fun b q hy=>by
     have hh:=(HHG.out b hy).1
     have h0:=HB2.out.size
     have h1:=HGI.out
     have h2:=HGW.out
     rcases q with q | q | q | q | q | q
     ·omega
     ·cases q
     ·cases q
     ·injection q with q;have q2:gi=b:=q;omega
     ·cases q
     ·injection q with q;have q2:gw=b:=q;omega⟩,HGI.out,HGW.out,by rw [←hp];exact HB2.out.size,HB2.out.alloc HB2.out.size _⟩
   clear hv3 hp
   clear hHeld;refine hK.out _ _ (trivial) fun hHeld=>?_
   clear hK K
   try simp only [Act.put,zS,eZ,eS]
   refine tkI 8 rfl hHeld ?_
   try simp only [Act.put,zS,eZ,eS]
   refine wpAnyH_done (by kernel_rfl) ?_ _
   exact ⟨gi,gw,p,rfl,HMK.out⟩
  refine AllReadyH.cons rfl (fun K hK=>?_) ?_
  ·obtain ⟨gw,hgw⟩:∃ q,W.heap.size=q:=⟨_,rfl⟩
   go_simp
   (try rw [hgw])
   obtain ⟨v1,hv1⟩:∃ q,W.drew.alloc (Obj.cells CC 3)=q:=⟨_,rfl⟩
   (try rw [hv1])
   (try rw [show (W.alloc (Obj.cells CC 3)).drew=v1 from hv1])
   have HB1:Hid (Below W.heap.size W v1):=by rw [←hv1];exact HB0.out.alloc HB0.out.size _
   have HRW1:Hid (Rw v1 3 (.slice (some ⟨gw,0,none⟩) n n) 1 (ivs (List.replicate n 0))):=by rw [←hv1,←HCC.out];exact rw_made W.drew n hn hgw
   have HGW:Hid (W.heap.size≤gw):=by rw [Hid,←hgw];exact HB0.out.size
   clear hv1 hgw
   clear hHeld;refine hK.out _ _ (trivial) fun hHeld=>?_
   clear hK K
   try simp only [Act.put,zS,eZ,eS]
   refine rdy 2 rfl fun K hK=>?_
   go_simp
   refine (newTrail_any n hn _).mono ?_
   rintro e v2 ⟨gi,rfl,hgi,hri,hb⟩
   have HB2:=hid (HB1.out.trans (hb.mono HB1.out.size))
   have HRI2:Hid (Rw v2 3 (.slice (some ⟨gi,0,none⟩) n n) 1 (ivs (List.replicate n 0))):=hri
   have HGI:=hid (Nat.le_trans HB1.out.size hgi)
   have HRW2:Hid (Rw v2 3 (.slice (some ⟨gw,0,none⟩) n n) 1 (ivs (List.replicate n 0))):=HRW1.out.keep fun g hg=>hb.block g (HRW1.out.lt hg)
   have HNE:Hid (gw≠gi):=by have:=HRW1.out.lt (g:=gw) rfl;have:=hgi;rw [Hid];omega
   clear hb hri hgi
   clear hHeld;refine hK.out _ _ (trivial) fun hHeld=>?_
   clear hK K
   try simp only [Act.put,zS,eZ,eS]
   refine tkI 6 rfl hHeld ?_
   try simp only [Act.put,zS,eZ,eS]
   refine rdy 7 rfl fun K hK=>?_
   obtain ⟨p,hp⟩:∃ q,v2.heap.size=q:=⟨_,rfl⟩
   go_simp
   (try rw [hp])
   obtain ⟨v3,hv3⟩:∃ q,v2.alloc (Obj.cells #[.slice none 0 0,.slice none 0 0,.slice (some ⟨gi,0,none⟩) n n,.slice none 0 0,.int .i64 0,.slice (some ⟨gw,0,none⟩) n n] 68)=q:=⟨_,rfl⟩
   rw [hv3]
   have HMK:Hid (Mk v3 p gi gw n [] 0 (.slice none 0 0)∧W.heap.size≤gi∧W.heap.size≤gw∧W.heap.size≤p∧Below W.heap.size W v3):=by
    rw [←hv3]
    exact ⟨⟨(Bx.new' hp _ _).h,⟨[],⟨(fun c hc=>by simp at hc),World.ownsRow_nil _ _ _ _⟩,rfl,(fun i c d h1 _=>by simp at h1)⟩,HRW2.out.keep fun g hg=>Below.heap_alloc _ _ _ (HRW2.out.lt hg),HRI2.out.keep fun g hg=>Below.heap_alloc _ _ _ (HRI2.out.lt hg),HNE.out,(fun b q=>⟨Nat.lt_of_lt_of_le (HHG.out b q).1 (HB2.out.alloc HB2.out.size _).size,((HB2.out.alloc HB2.out.size _).block b (HHG.out b q).1).trans (HHG.out b q).2⟩),fun b q hy=>by
     have hh:=(HHG.out b hy).1
     have h0:=HB2.out.size
     have h1:=HGI.out
     have h2:=HGW.out
     rcases q with q | q | q | q | q | q
     ·omega
     ·cases q
     ·cases q
     ·injection q with q;have q2:gi=b:=q;omega
     ·cases q
     ·injection q with q;have q2:gw=b:=q;omega⟩,HGI.out,HGW.out,by rw [←hp];exact HB2.out.size,HB2.out.alloc HB2.out.size _⟩
   clear hv3 hp
   clear hHeld;refine hK.out _ _ (trivial) fun hHeld=>?_
   clear hK K
   try simp only [Act.put,zS,eZ,eS]
   refine tkI 8 rfl hHeld ?_
   try simp only [Act.put,zS,eZ,eS]
   refine wpAnyH_done (by kernel_rfl) ?_ _
   exact ⟨gi,gw,p,rfl,HMK.out⟩
  exact AllReadyH.nil
 case hK =>
  rintro gi gw p V ⟨hM,hgi,hgw,hp,hbV⟩
  clear hmk HCC CC HB0
  have HM:Hid (Mk V p gi gw n ((l.take 0).map fun d=>bothA d d) ((l.take 0).map fun d=>emptI (emptyA d)).sum (.slice none 0 0)):=by rw [Hid];simpa using hM
  have HBV:Hid (Below W.heap.size W V):=hbV
  have HG:Hid (W.heap.size≤gi∧W.heap.size≤gw∧W.heap.size≤p):=⟨hgi,hgw,hp⟩
  have HOK:Hid _:=hok
  have HCE:Hid _:=hcells
  clear hM hbV hgi hgw hp hok hcells
  go_wp2
  go_loopw [20,6] (fun i _ wr=>∃ k:Nat,k≤n∧i = .int .i64 (k:Int)∧∃ dv,Hid (Mk wr p gi gw n ((l.take k).map fun d=>bothA d d) ((l.take k).map fun d=>emptI (emptyA d)).sum dv)∧Hid (Below W.heap.size W wr)∧Hid (∀ b,dv.ownBlock=some b→W.heap.size≤b)∧Hid (∀ d∈l.take k,rightM d=true)) (fun i _ _=>n-(intOf i).toNat)
  case atStart=>exact ⟨0,Nat.zero_le _,rfl,_,HM,HBV,(fun b hb=>by cases hb),(fun d hd=>by simp at hd)⟩
  case round =>
   obtain ⟨k,hk,rfl,dv,HMK,HBW,HFR,HAR⟩:=hrel
   by_cases hlt:k<n
   ·have hlt':(k:Int)<n:=by omega
    obtain ⟨ba,off,cs,rfl,hba,hcl,hall⟩:=HCE.out (by omega)
    obtain ⟨d,hd⟩:∃ d,l[k]? = some d:=⟨_,List.getElem?_eq_getElem (by rw [HNL.out];exact hlt)⟩
    obtain ⟨c,hck⟩:∃ c,cs[k]? = some c:=⟨_,List.getElem?_eq_getElem (by have:=HNL.out;omega)⟩
    obtain ⟨hrg,hdc⟩:=hall k c d hck hd
    have hfit:=HOK.out d (List.mem_of_getElem? hd)
    obtain ⟨b0,ra,n0,rc,a1,n1,c1,a2,n2,c2,x,y,rfl,HE,_,_,_⟩:=hdc.look
    obtain ⟨da,dn,dcap,rfl⟩:∃ a q c,dv = .slice a q c:=by obtain ⟨cs0,hr0,_⟩:=HMK.out.doms;obtain ⟨a,q,c,e,_⟩:=hr0.look;exact ⟨a,q,c,e⟩
    obtain ⟨ee,hee⟩:∃ q,((l.take k).map fun d=>emptI (emptyA d)).sum=q:=⟨_,rfl⟩
    have hebd:=sum_01A (l.take k)
    rw [hee] at hebd HMK
    have hebd2:ee≤1000:=by have:=hebd.2;have:(l.take k).length≤k:=List.length_take_le _ _;omega
    have hebd1:0≤ee:=hebd.1
    have HEE:Hid (((l.take k).map fun d=>emptI (emptyA d)).sum=ee):=hee
    obtain ⟨qe,hqe⟩:∃ q,emptI (emptyA d)=q:=⟨_,rfl⟩
    have hqb:=emptI_01 (emptyA d)
    rw [hqe] at hqb
    have HQE:Hid (emptI (emptyA d)=qe):=hqe
    have hw1:IntKind.i64.wrap (ee+qe)=ee+qe:=wrap_small (by omega) (by omega)
    have HTK:Hid (l.take (k+1)=l.take k++[d]):=by rw [Hid,List.take_add_one,hd];rfl
    have HDW:Hid (∀ X,Below W.heap.size W X→Dc (fun _=>False) X [.bool b0,.slice ra n0 rc,.slice a1 n1 c1,.slice a2 n2 c2,.int .i64 x,.int .i64 y] d):=fun X hX=>hdc.below hX
    have hwx:∀ j u,[.bool b0,.slice ra n0 rc,.slice a1 n1 c1,.slice a2 n2 c2,.int .i64 x,.int .i64 y][j]? = some u→wr.cell? ⟨ba,off+k*6+j,none⟩=some u:=fun j u hu=>(HBW.out.cell (p:=⟨ba,off+k*6+j,none⟩) hba).trans (hrg j u hu)
    obtain ⟨u0,u1,u2,u3,u4,u5⟩:=rng6 hwx
    obtain ⟨bx,hbx⟩:∃ q,wr.heap.size=q:=⟨_,rfl⟩
    obtain ⟨Y0,hY0⟩:∃ q,wr.alloc (Obj.cells #[.bool b0,.slice ra n0 rc,.slice a1 n1 c1,.slice a2 n2 c2,.int .i64 x,.int .i64 y] 37)=q:=⟨_,rfl⟩
    have hbY:Below wr.heap.size wr Y0:=by rw [←hY0];exact (Below.refl _ _).alloc (Nat.le_refl _) _
    have HBX0:Hid (Bx Y0 bx #[.bool b0,.slice ra n0 rc,.slice a1 n1 c1,.slice a2 n2 c2,.int .i64 x,.int .i64 y] 37):=by rw [←hY0];exact Bx.new' hbx _ _
    have HBWY:=hid (HBW.out.trans (hbY.mono HBW.out.size))
    rcases Bool.eq_false_or_eq_true (rightM d) with hright | hright
    rotate_left
    ·have kr:=right_d (HDW.out _ HBWY.out) hfit
     rw [hright] at kr
     have HY0:Hid (wr.alloc (Obj.cells #[.bool b0,.slice ra n0 rc,.slice a1 n1 c1,.slice a2 n2 c2,.int .i64 x,.int .i64 y] 37)=Y0):=hY0
     have HBX9:Hid (bx=wr.heap.size):=hbx.symm
     have HRF:Hid (∃ d∈l,rightM d=false):=⟨d,List.mem_of_getElem? hd,hright⟩
     clear hbx hY0 hbY hrg hdc hfit hright hall hck hd hwx hee hqe hebd
     go_wp2_with fail
     (try rw [HY0.out])
     rw [←HBX9.out]
     refine kr.mono ?_
     clear kr u0 u1 u2 u3 u4 u5
     rintro e w1 ⟨rfl,hb1⟩
     go_wp2
     go_ret2
     exact Or.inr ⟨⟨rfl,HBWY.out.trans (hb1.mono HBWY.out.size)⟩,HRF.out⟩
    have HRT:Hid (rightM d=true):=hright
    have kr:=right_d (HDW.out _ HBWY.out) hfit
    rw [hright] at kr
    have HMY:Hid _:=HMK.out.kept hbY
    have HY0:Hid (wr.alloc (Obj.cells #[.bool b0,.slice ra n0 rc,.slice a1 n1 c1,.slice a2 n2 c2,.int .i64 x,.int .i64 y] 37)=Y0):=hY0
    have HXR:Hid (∀ b,(XS p ⟨.slice none 0 0,.slice none 0 0,.slice (some ⟨gi,0,none⟩) n n,.slice da dn dcap,.slice (some ⟨gw,0,none⟩) n n⟩) b→b<wr.heap.size):=(fun b hb=>by
     obtain ⟨cs0,hr0,_⟩:=HMK.out.doms
     rcases hb with q | q | q | q | q | q | q
     ·rw [q];exact HMK.out.p_lt
     ·cases q
     ·cases q
     ·exact HMK.out.since.lt q
     ·exact hr0.lt q
     ·exact HMK.out.why.lt q
     ·exact (HMK.out.yl b q).1)
    have HFIT:Hid (Dm.FitsR d.r):=hfit
    have HSZ:Hid (wr.heap.size≤Y0.heap.size):=hbY.size
    have HBX9:Hid (bx=wr.heap.size):=hbx.symm
    clear hY0 hbY hrg hdc hfit hright hall hck hd hwx hee hqe hebd
    clear hbx
    go_wp2_with fail
    (try rw [HY0.out])
    rw [←HBX9.out]
    refine kr.mono ?_
    clear kr u0 u1 u2 u3 u4 u5
    rintro e w1 ⟨rfl,hb1⟩
    have HM1:=hid (Mk.kept HMY.out hb1)
    have HBX1:=hid (HBX0.out.below hb1)
    have HBW1:=hid (HBWY.out.trans (hb1.mono HBWY.out.size))
    have HDC1:Hid (Dc (fun _=>False) w1 [.bool b0,.slice ra n0 rc,.slice a1 n1 c1,.slice a2 n2 c2,.int .i64 x,.int .i64 y] d):=HDW.out _ HBW1.out
    have KT:Hid (∀ X,Below w1.heap.size w1 X→Calls Tryz.prog 31 #[.agg #[.bool b0,.slice ra n0 rc,.slice a1 n1 c1,.slice a2 n2 c2,.int .i64 x,.int .i64 y]] X fun e w'=>∃ q:List Value,e = .returned (.agg q.toArray)∧(∀ Z:Nat→Prop,(∀ b,Z b→b<X.heap.size)→Dc Z w' q (bothA d d))∧Below X.heap.size X w'):=fun X hX=>tight_d (HDC1.out.below hX) HFIT.out
    have HXL:Hid (∀ b,(XS p ⟨.slice none 0 0,.slice none 0 0,.slice (some ⟨gi,0,none⟩) n n,.slice da dn dcap,.slice (some ⟨gw,0,none⟩) n n⟩) b→b<w1.heap.size):=fun b hb=>Nat.lt_of_lt_of_le (HXR.out b hb) (Nat.le_trans HSZ.out hb1.size)
    have HX9:Hid (∀ b,(Value.slice da dn dcap).ownBlock=some b→(XS p ⟨.slice none 0 0,.slice none 0 0,.slice (some ⟨gi,0,none⟩) n n,.slice da dn dcap,.slice (some ⟨gw,0,none⟩) n n⟩) b):=fun b hb=>.inr (.inr (.inr (.inr (.inl hb))))
    have HBXD:Hid (¬(XS p ⟨.slice none 0 0,.slice none 0 0,.slice (some ⟨gi,0,none⟩) n n,.slice da dn dcap,.slice (some ⟨gw,0,none⟩) n n⟩) bx):=fun q=>by have:=HXR.out bx q;have:=HBX9.out;omega
    have HBXP:Hid (bx≠p):=fun q=>HBXD.out (.inl q)
    have HC0:Hid (Below w1.heap.size w1 w1.drew):=(Below.refl _ _).drew
    clear hb1 HMY HBX0 HBWY HY0 HXR HSZ HBX9 HFIT
    clear Y0
    go_upto_region 9 with (fail)
    refine wp_region_held_drew (S:=fun X:World=>Bx X bx #[.bool b0,.slice ra n0 rc,.slice a1 n1 c1,.slice a2 n2 c2,.int .i64 x,.int .i64 y] 37) (by kernel_rfl) ((HBX1.out.below HC0.out)) (fun hHeld=>?_)
    refine tkI 0 rfl hHeld ?_
    try simp only [Act.put,zS,eZ,eS]
    refine tkI 1 rfl hHeld ?_
    try simp only [Act.put,zS,eZ,eS]
    refine tkI 2 rfl hHeld ?_
    try simp only [Act.put,zS,eZ,eS]
    refine tkI 3 rfl hHeld ?_
    try simp only [Act.put,zS,eZ,eS]
    refine tkH 5 _ (v:=?_) hHeld ?_ ?_;rotate_left
    ·intro w hSw;obtain ⟨u0,u1,u2,u3,u4,u5⟩:=hSw.six;go_simp<;>with_reducible rfl
    try simp only [Act.put,zS,eZ,eS]
    have HC2:=HC0
    clear HC0
    generalize w1.drew=vv at *
    refine rd2 4 6 (fun K hK=>?_) (fun K hK=>?_)
    focus
     have z3:World.cell? _ ⟨p,3,none⟩=some (.slice da dn dcap):=cell_of_row _ p 3 _ _ _ (HM1.out.kept HC2.out).blk;go_simp;clear z3;clear hHeld;refine hK.out _ _ (HBX1.out.below HC2.out) fun hHeld=>?_;clear hK K;try simp only [Act.put,zS,eZ,eS]
     refine rd1 6 fun K hK=>?_
     go_simp;refine (KT.out _ HC2.out).mono ?_;rintro e vv ⟨q,rfl,hq,hb⟩;have HQ:Hid (Dc (XS p ⟨.slice none 0 0,.slice none 0 0,.slice (some ⟨gi,0,none⟩) n n,.slice da dn dcap,.slice (some ⟨gw,0,none⟩) n n⟩) vv q (bothA d d)):=hq _ (fun b hb=>Nat.lt_of_lt_of_le (HXL.out b hb) HC2.out.size);replace HC2:=hid (HC2.out.trans (hb.mono HC2.out.size));clear hq hb;obtain ⟨b9,r9,m9,k9,p8,m8,k8,p7,m7,k7,x9,y9,rfl,HE9,_,_,_⟩:=HQ.out.look;clear hHeld;refine hK.out _ _ (HBX1.out.below HC2.out) fun hHeld=>?_;clear hK K;try simp only [Act.put,zS,eZ,eS]
     refine rd1 7 fun K hK=>?_
     obtain ⟨bs,hbs⟩:∃ q,vv.heap.size=q:=⟨_,rfl⟩;go_simp;(try rw [hbs]);obtain ⟨v2,hv2⟩:∃ q,vv.alloc (Obj.cells #[.bool b9,.slice r9 m9 k9,.slice p8 m8 k8,.slice p7 m7 k7,.int .i64 x9,.int .i64 y9] 37)=q:=⟨_,rfl⟩;rw [hv2];have hbel:Below vv.heap.size vv v2:=(by rw [←hv2];exact (Below.refl _ _).alloc (Nat.le_refl _) _);replace HC2:=hid (HC2.out.trans (hbel.mono HC2.out.size));have HBS:Hid (Bx v2 bs #[.bool b9,.slice r9 m9 k9,.slice p8 m8 k8,.slice p7 m7 k7,.int .i64 x9,.int .i64 y9] 37):=(by rw [←hv2];exact Bx.new' hbs _ _);have HQ2:=hid (HQ.out.below hbel);clear hv2 hbs hbel;clear hHeld;refine hK.out _ _ (HBX1.out.below HC2.out) fun hHeld=>?_;clear hK K;try simp only [Act.put,zS,eZ,eS]
    rotate_left 1
    focus
     go_simp;refine (KT.out _ HC2.out).mono ?_;rintro e vv ⟨q,rfl,hq,hb⟩;have HQ:Hid (Dc (XS p ⟨.slice none 0 0,.slice none 0 0,.slice (some ⟨gi,0,none⟩) n n,.slice da dn dcap,.slice (some ⟨gw,0,none⟩) n n⟩) vv q (bothA d d)):=hq _ (fun b hb=>Nat.lt_of_lt_of_le (HXL.out b hb) HC2.out.size);replace HC2:=hid (HC2.out.trans (hb.mono HC2.out.size));clear hq hb;obtain ⟨b9,r9,m9,k9,p8,m8,k8,p7,m7,k7,x9,y9,rfl,HE9,_,_,_⟩:=HQ.out.look;clear hHeld;refine hK.out _ _ (HBX1.out.below HC2.out) fun hHeld=>?_;clear hK K;try simp only [Act.put,zS,eZ,eS]
     refine rd2 4 7 (fun K hK=>?_) (fun K hK=>?_)
     focus
      have z3:World.cell? _ ⟨p,3,none⟩=some (.slice da dn dcap):=cell_of_row _ p 3 _ _ _ (HM1.out.kept HC2.out).blk;go_simp;clear z3;clear hHeld;refine hK.out _ _ (HBX1.out.below HC2.out) fun hHeld=>?_;clear hK K;try simp only [Act.put,zS,eZ,eS]
      refine rd1 7 fun K hK=>?_
      obtain ⟨bs,hbs⟩:∃ q,vv.heap.size=q:=⟨_,rfl⟩;go_simp;(try rw [hbs]);obtain ⟨v2,hv2⟩:∃ q,vv.alloc (Obj.cells #[.bool b9,.slice r9 m9 k9,.slice p8 m8 k8,.slice p7 m7 k7,.int .i64 x9,.int .i64 y9] 37)=q:=⟨_,rfl⟩;rw [hv2];have hbel:Below vv.heap.size vv v2:=(by rw [←hv2];exact (Below.refl _ _).alloc (Nat.le_refl _) _);replace HC2:=hid (HC2.out.trans (hbel.mono HC2.out.size));have HBS:Hid (Bx v2 bs #[.bool b9,.slice r9 m9 k9,.slice p8 m8 k8,.slice p7 m7 k7,.int .i64 x9,.int .i64 y9] 37):=(by rw [←hv2];exact Bx.new' hbs _ _);have HQ2:=hid (HQ.out.below hbel);clear hv2 hbs hbel;clear hHeld;refine hK.out _ _ (HBX1.out.below HC2.out) fun hHeld=>?_;clear hK K;try simp only [Act.put,zS,eZ,eS]
     rotate_left 1
     focus
      obtain ⟨bs,hbs⟩:∃ q,vv.heap.size=q:=⟨_,rfl⟩;go_simp;(try rw [hbs]);obtain ⟨v2,hv2⟩:∃ q,vv.alloc (Obj.cells #[.bool b9,.slice r9 m9 k9,.slice p8 m8 k8,.slice p7 m7 k7,.int .i64 x9,.int .i64 y9] 37)=q:=⟨_,rfl⟩;rw [hv2];have hbel:Below vv.heap.size vv v2:=(by rw [←hv2];exact (Below.refl _ _).alloc (Nat.le_refl _) _);replace HC2:=hid (HC2.out.trans (hbel.mono HC2.out.size));have HBS:Hid (Bx v2 bs #[.bool b9,.slice r9 m9 k9,.slice p8 m8 k8,.slice p7 m7 k7,.int .i64 x9,.int .i64 y9] 37):=(by rw [←hv2];exact Bx.new' hbs _ _);have HQ2:=hid (HQ.out.below hbel);clear hv2 hbs hbel;clear hHeld;refine hK.out _ _ (HBX1.out.below HC2.out) fun hHeld=>?_;clear hK K;try simp only [Act.put,zS,eZ,eS]
      refine rd1 4 fun K hK=>?_
      have z3:World.cell? _ ⟨p,3,none⟩=some (.slice da dn dcap):=cell_of_row _ p 3 _ _ _ (HM1.out.kept HC2.out).blk;go_simp;clear z3;clear hHeld;refine hK.out _ _ (HBX1.out.below HC2.out) fun hHeld=>?_;clear hK K;try simp only [Act.put,zS,eZ,eS]
    all_goals
     refine rdy 8 rfl fun K hK=>?_
     obtain ⟨cs9,hr9,hdr9⟩:=(HM1.out.kept HC2.out).doms
     have HR9:Hid (Rw v2 37 (.slice da dn dcap) 6 cs9):=hr9
     have HDR9:Hid (Dr (XS p ⟨.slice none 0 0,.slice none 0 0,.slice (some ⟨gi,0,none⟩) n n,.slice da dn dcap,.slice (some ⟨gw,0,none⟩) n n⟩) v2 cs9 ((l.take k).map fun d=>bothA d d)):=hdr9
     clear hr9 hdr9
     refine step_app HR9.out 22 Tryz.underlying22 Tryz.infoDom rfl (by decide) rfl _ _ rfl rfl ⟨bs,0,none⟩ 1 (by with_unfolding_all rfl) [.bool b9,.slice r9 m9 k9,.slice p8 m8 k8,.slice p7 m7 k7,.int .i64 x9,.int .i64 y9] rfl (fun j u hu=>by rw [Addr.add_mid,Nat.zero_add,HBS.out.cell j];simpa using hu) (six_one _ _ _ _ _ _ _ _ _ _ _ _) (by rw [HDR9.out.1];simp;omega) (by decide) ?_
     intro d1 wa hr1 hg1 hn1
     obtain ⟨p1,q1,cc1,rfl,HQ1,_⟩:=hr1.look
     have HR1:Hid _:=hr1
     have HG1:Hid _:=hg1
     have HN1:Hid _:=hn1
     clear hr1 hg1 hn1
     have HPA:Hid (wa.heap[p]? = _):=(HG1.out.block p (HM1.out.kept HC2.out).p_lt (fun e=>HR9.out.nep (HM1.out.kept HC2.out).blk (by decide) e.symm)).trans (HM1.out.kept HC2.out).blk
     have HBXA:Hid (Bx wa bx #[.bool b0,.slice ra n0 rc,.slice a1 n1 c1,.slice a2 n2 c2,.int .i64 x,.int .i64 y] 37):=⟨(HG1.out.block bx (HBX1.out.below HC2.out).lt (fun e=>HBXD.out (HX9.out _ e.symm))).trans (HBX1.out.below HC2.out).h⟩
     clear hHeld;refine hK.out _ _ (HBXA.out) fun hHeld=>?_
     clear hK K
     try simp only [Act.put,zS,eZ,eS]
     refine tkI 9 rfl hHeld ?_
     try simp only [Act.put,zS,eZ,eS]
     refine tkI 10 rfl hHeld ?_
     try simp only [Act.put,zS,eZ,eS]
     refine rdy 11 rfl fun K hK=>?_
     have z3:wa.cell? ⟨p,3,none⟩=some (.slice da dn dcap):=cell_of_row _ p 3 _ _ _ HPA.out
     have zf:wa.frozen? ⟨p,3,none⟩=false:=by have:=HPA.out;simp [World.frozen?,this]
     go_simp
     clear z3 zf
     clear hHeld;refine hK.out _ _ ((HBXA.out.setc HBXP.out _ _)) fun hHeld=>?_
     clear hK K
     try simp only [Act.put,zS,eZ,eS]
     refine wpAnyH_done (by kernel_rfl) ?_ _
     have hmn:=(HM1.out.kept HC2.out).app HR9.out HDR9.out HG1.out HR1.out HN1.out HQ2.out
     have HMN:Hid (Mk (wa.setCell ⟨p,3,none⟩ (.slice p1 q1 cc1)) p gi gw n (((l.take k).map fun d=>bothA d d)++[bothA d d]) ee (.slice p1 q1 cc1)):=hmn
     have HBN:Hid (Below W.heap.size W (wa.setCell ⟨p,3,none⟩ (.slice p1 q1 cc1))):=((HBW1.out.trans (HC2.out.mono HBW1.out.size)).trans (growB HG1.out (fun b hb=>HFR.out b hb) (Nat.le_trans HBW1.out.size HC2.out.size))).setCell HG.out.2.2 _
     have HFN:Hid (∀ b,(Value.slice p1 q1 cc1).ownBlock=some b→W.heap.size≤b):=fun b hb=>(HN1.out b hb).elim (HFR.out b) (fun q=>Nat.le_trans (Nat.le_trans HBW1.out.size HC2.out.size) q)
     have HBXZ:Hid (Bx (wa.setCell ⟨p,3,none⟩ (.slice p1 q1 cc1)) bx #[.bool b0,.slice ra n0 rc,.slice a1 n1 c1,.slice a2 n2 c2,.int .i64 x,.int .i64 y] 37):=HBXA.out.setc HBXP.out _ _
     have HDZ:Hid (Dc (fun _=>False) (wa.setCell ⟨p,3,none⟩ (.slice p1 q1 cc1)) [.bool b0,.slice ra n0 rc,.slice a1 n1 c1,.slice a2 n2 c2,.int .i64 x,.int .i64 y] d):=HDW.out _ HBN.out
     clear hmn HM1 HR9 HDR9 HG1 HR1 HN1 HQ HQ2 HBS HC2 HBXA HBX1 HPA HX9 HBXD HXL KT HDC1 HBW1 HMK HBW hHeld HQ1
     generalize wa.setCell ⟨p,3,none⟩ (.slice p1 q1 cc1)=wz at *
     have HY0:Hid (Below wz.heap.size wz wz.drew):=(Below.refl _ _).drew
     have FE:∀ X,Below wz.heap.size wz X→X.cell? ⟨p,4,none⟩=some (.int .i64 ee)∧X.frozen? ⟨p,4,none⟩=false∧Bx X bx #[.bool b0,.slice ra n0 rc,.slice a1 n1 c1,.slice a2 n2 c2,.int .i64 x,.int .i64 y] 37:=fun X hX=>⟨cell_of_row X p 4 _ _ _ (HMN.out.kept hX).blk,by have:=(HMN.out.kept hX).blk;simp [World.frozen?,this],HBXZ.out.below hX⟩
     have FE2:∀ X,(∃ Y,Below wz.heap.size wz Y∧(X=Y∨∃ u,X=Y.setCell ⟨p,4,none⟩ u))→Bx X bx #[.bool b0,.slice ra n0 rc,.slice a1 n1 c1,.slice a2 n2 c2,.int .i64 x,.int .i64 y] 37:=by
      rintro X ⟨Y,hY,rfl | ⟨u,rfl⟩⟩
      ·exact (FE _ hY).2.2
      ·exact (FE _ hY).2.2.setc HBXP.out _ _
     have KE:Hid (∀ X,Below wz.heap.size wz X→Calls Tryz.prog 32 #[.agg #[.bool b0,.slice ra n0 rc,.slice a1 n1 c1,.slice a2 n2 c2,.int .i64 x,.int .i64 y]] X fun e w'=>e = .returned (.int .i64 qe)∧Below X.heap.size X w'):=fun X hX=>by have:=emptiness_d (HDZ.out.below hX);rw [HQE.out] at this;exact this
     go_upto_region 10 with (fail)
     apply wp_waysQ (R:=fun w'=>∃ Y,Below wz.heap.size wz Y∧w'=Y.setCell ⟨p,4,none⟩ (.int .i64 (ee+qe)))
     case h =>
      refine wp_region_held_drew (S:=fun X:World=>∃ Y,Below wz.heap.size wz Y∧(X=Y∨∃ u,X=Y.setCell ⟨p,4,none⟩ u)) (by kernel_rfl) (⟨_,HY0.out,.inl rfl⟩) (fun hHeld=>?_)
      refine tkI 0 rfl hHeld ?_
      try simp only [Act.put,zS,eZ,eS]
      refine tkI 1 rfl hHeld ?_
      try simp only [Act.put,zS,eZ,eS]
      refine tkI 2 rfl hHeld ?_
      try simp only [Act.put,zS,eZ,eS]
      refine tkH 4 _ (v:=?_) hHeld ?_ ?_;rotate_left
      ·intro w hSw;have hbx:=FE2 w hSw;obtain ⟨u0,u1,u2,u3,u4,u5⟩:=hbx.six;go_simp<;>with_reducible rfl
      try simp only [Act.put,zS,eZ,eS]
      refine wpAnyH_ready (rs:=[3,5]) (by kernel_rfl) (by simp) ?_
      refine AllReadyH.cons rfl (fun K hK=>?_) ?_
      ·have z4:=(FE _ HY0.out).1
       go_simp
       clear z4
       clear hHeld;refine hK.out _ _ (⟨_,HY0.out,.inl rfl⟩) fun hHeld=>?_
       clear hK K
       try simp only [Act.put,zS,eZ,eS]
       refine rdy 5 rfl fun K hK=>?_
       go_simp
       refine (KE.out _ HY0.out).mono ?_
       rintro e y1 ⟨rfl,hb⟩
       have HY1:=hid (HY0.out.trans (hb.mono HY0.out.size))
       clear hb
       clear hHeld;refine hK.out _ _ (⟨_,HY1.out,.inl rfl⟩) fun hHeld=>?_
       clear hK K
       try simp only [Act.put,zS,eZ,eS]
       refine tkI 6 rfl hHeld ?_
       try simp only [Act.put,zS,eZ,eS]
       refine tkI 7 rfl hHeld ?_
       try simp only [Act.put,zS,eZ,eS]
       refine tkI 8 rfl hHeld ?_
       try simp only [Act.put,zS,eZ,eS]
       refine rdy 9 rfl fun K hK=>?_
       have z4:=(FE _ HY1.out).1
       have zf:=(FE _ HY1.out).2.1
       go_simp
       clear z4 zf
       clear hHeld;refine hK.out _ _ (⟨_,HY1.out,.inr ⟨_,rfl⟩⟩) fun hHeld=>?_
       clear hK K
       try simp only [Act.put,zS,eZ,eS]
       refine wpAnyH_done (by kernel_rfl) ?_ _
       exact ⟨rfl,_,HY1.out,rfl⟩
      refine AllReadyH.cons rfl (fun K hK=>?_) ?_
      ·go_simp
       refine (KE.out _ HY0.out).mono ?_
       rintro e y1 ⟨rfl,hb⟩
       have HY1:=hid (HY0.out.trans (hb.mono HY0.out.size))
       clear hb
       clear hHeld;refine hK.out _ _ (⟨_,HY1.out,.inl rfl⟩) fun hHeld=>?_
       clear hK K
       try simp only [Act.put,zS,eZ,eS]
       refine rdy 3 rfl fun K hK=>?_
       have z4:=(FE _ HY1.out).1
       go_simp
       clear z4
       clear hHeld;refine hK.out _ _ (⟨_,HY1.out,.inl rfl⟩) fun hHeld=>?_
       clear hK K
       try simp only [Act.put,zS,eZ,eS]
       refine tkI 6 rfl hHeld ?_
       try simp only [Act.put,zS,eZ,eS]
       refine tkI 7 rfl hHeld ?_
       try simp only [Act.put,zS,eZ,eS]
       refine tkI 8 rfl hHeld ?_
       try simp only [Act.put,zS,eZ,eS]
       refine rdy 9 rfl fun K hK=>?_
       have z4:=(FE _ HY1.out).1
       have zf:=(FE _ HY1.out).2.1
       go_simp
       clear z4 zf
       clear hHeld;refine hK.out _ _ (⟨_,HY1.out,.inr ⟨_,rfl⟩⟩) fun hHeld=>?_
       clear hK K
       try simp only [Act.put,zS,eZ,eS]
       refine wpAnyH_done (by kernel_rfl) ?_ _
       exact ⟨rfl,_,HY1.out,rfl⟩
      exact AllReadyH.nil
     case hK =>
      rintro _ ⟨Y,hY,rfl⟩
      have HMF:Hid (Mk (Y.setCell ⟨p,4,none⟩ (.int .i64 (ee+qe))) p gi gw n ((l.take (k+1)).map fun d=>bothA d d) ((l.take (k+1)).map fun d=>emptI (emptyA d)).sum (.slice p1 q1 cc1)):=by
       have:=(HMN.out.kept hY).set_e (ee+qe)
       rw [Hid,HTK.out,List.map_append,List.map_append,List.sum_append,HEE.out]
       simpa [HQE.out] using this
      have HBF:Hid (Below W.heap.size W (Y.setCell ⟨p,4,none⟩ (.int .i64 (ee+qe)))):=(HBN.out.trans (hY.mono HBN.out.size)).setCell HG.out.2.2 _
      clear HMN HBN HY0 FE FE2 KE HBXZ HDZ hw1 HDW
      generalize Y.setCell ⟨p,4,none⟩ (.int .i64 (ee+qe))=yz at *
      clear hY
      go_wp2
      go_roundw
      case rel=>exact ⟨k+1,by omega,by go_num,_,HMF,HBF,HFN,fun d' hd'=>by rw [HTK.out] at hd';rcases List.mem_append.1 hd' with q | q;exact HAR.out d' q;rw [List.mem_singleton.1 q];exact HRT.out⟩
      case measure=>simp [intOf];omega
   ·obtain rfl:k=n:=by omega
    have hlt':¬(k:Int)<k:=by omega
    go_wp2
    go_ret2
    have e0:l.take k=l:=by rw [←HNL.out];exact List.take_length
    have hM:=HMK.out
    rw [e0] at hM
    refine Or.inl ⟨?_,by rw [←e0];exact HAR.out⟩
    refine ⟨p,rfl,⟨.slice none 0 0,.slice none 0 0,.slice (some ⟨gi,0,none⟩) k k,dv,.slice (some ⟨gw,0,none⟩) k k⟩,?_,?_,HBW.out⟩
    ·have:=hM.sto (by simp [HNL.out])
     unfold newA
     rw [HNL.out]
     exact this
    ·intro b hb
     rcases hb with q | q | q | q | q | q
     ·rw [q];exact HG.out.2.2
     ·cases q
     ·cases q
     ·injection q with q;rw [←q];exact HG.out.1
     ·exact HFR.out b q
     ·injection q with q;rw [←q];exact HG.out.2.1
theorem new_ok [Gh] {W:World} {s:Value} {l:List MD} (h:Ld W s l) (hG:∀ b,Gh.Y b→b<W.heap.size∧W.heap[b]? = Gh.H b) (hl:l.length≤1000) (hok:∀ d∈l,Dm.FitsR d.r∧rightM d=true) :
  Calls Tryz.prog 8 #[s] W fun e w'=>∃ p sl,e = .returned (.tuple #[ptr p,.int .i64 0])∧Sto w' p (newA l) sl∧(∀ b,OX p sl b→W.heap.size≤b)∧Below W.heap.size W w' :=
 (new_gen h hG hl fun d hd=>(hok d hd).1).mono fun e w' q=>q.elim (fun q=>q.1) fun q=>by
  obtain ⟨_,d,h1,h2⟩:=q;rw [(hok d h1).2] at h2;cases h2
theorem new_no [Gh] {W:World} {s:Value} {l:List MD} (h:Ld W s l) (hG:∀ b,Gh.Y b→b<W.heap.size∧W.heap[b]? = Gh.H b) (hl:l.length≤1000) (hok:∀ d∈l,Dm.FitsR d.r) (hno:∃ d∈l,rightM d=false) :
  Calls Tryz.prog 8 #[s] W fun e w'=>e = .returned (.tuple #[.pointer none,.int .i64 20])∧Below W.heap.size W w' :=
 (new_gen h hG hl hok).mono fun e w' q=>q.elim (fun q=>by
  obtain ⟨d,h1,h2⟩:=hno;rw [q.2 d h1] at h2;cases h2) fun q=>q.1
theorem new_big {W:World} {s:Value} {l:List MD} (h:Ld W s l) (hl:1000<l.length) :
  Calls Tryz.prog 8 #[s] W fun e w'=>e = .returned (.tuple #[.pointer none,.int .i64 4])∧Below W.heap.size W w':=by
 obtain ⟨a,cap,rfl,hcells⟩:=h
 obtain ⟨n,hnl⟩:∃ n,l.length=n:=⟨_,rfl⟩
 rw [hnl] at hcells hl ⊢
 have hn':(1000:Int)<(n:Int):=by omega
 clear hcells hl hnl
 go_enter Tryz.func8,Tryz.ntmps8
 go_wp2
 go_ret2
 exact ⟨rfl,Below.refl _ _⟩
attribute [local instance] noG
open Go.RowKit Go.Shelf
theorem copy_z {X:Nat→Prop} {W:World} {c:List Value} {d:MD} (h:Dc X W c d) (hs:d.set=false) (hlo:d.lo=[]) (hup:d.up=[]) (h0:0<d.r.length) (hl:d.r.length≤4096) :
  Calls Tryz.prog 55 #[.agg c.toArray] W fun e w'=>∃ q:List Value,e = .returned (.agg q.toArray)∧(∀ Z:Nat→Prop,(∀ b,Z b→b<W.heap.size)→Dc Z w' q d)∧Below W.heap.size W w' :=
 copy_d h hl (by rw [hlo];simp) (by rw [hup];simp)
theorem new_z {W:World} {s:Value} {l:List MD} (h:Ld W s l) (hl:l.length≤1000) (hok:∀ d∈l,d.set=false∧Dm.FitsR d.r∧rightW d=true) :
  Calls Tryz.prog 8 #[s] W fun e w'=>∃ p sl,e = .returned (.tuple #[ptr p,.int .i64 0])∧Sto w' p (newM l) sl∧(∀ b,XS p sl b→W.heap.size≤b)∧Below W.heap.size W w':=by
 have k:=new_ok h (fun b q=>(q:False).elim) hl (fun d hd=>⟨(hok d hd).2.1,by rw [rightM,if_neg (by rw [(hok d hd).1];exact Bool.false_ne_true)];exact (hok d hd).2.2⟩)
 have e:newA l=newM l:=by
  unfold newA newM
  rw [List.map_congr_left (g:=fun d=>bothW d d) fun d hd=>by simp only [bothA,(hok d hd).1];rfl,
   List.map_congr_left (g:=fun d=>emptI (emptyW d)) fun d hd=>by simp only [emptyA,(hok d hd).1];rfl]
 rw [e] at k
 exact k.mono fun e w' q=>by
  obtain ⟨p,sl,q1,q2,q3,q4⟩:=q
  exact ⟨p,sl,q1,q2,(fun b hb=>q3 b (xs_no hb)),q4⟩
theorem narrow_z {W:World} {p:Nat} {st:StM} {sl:Sl} {c:List Value} {d o:MD} (h:Sto W p st sl) (hc:Dc (XS p sl) W c d) (v:Nat) (hv:st.D[v]? = some o) (hs:d.set=false) (hs':o.set=false) (hf:Dm.FitsR d.r) (hf':Dm.FitsR o.r) (hfx:Dm.FitsR (bothW o d).r) (hR:rightW d=true) (he:st.e=0) (ho:emptyW o=false) (hz:Sz st) (hzs:st.saved.length<10000000)
  (hns:¬Dm.tk o.r=Dm.tk (bothW o d).r) (chg:Int) (kch:emptyW (bothW o d)=false→∀ (X Y:Nat→Prop) (w:World) (k k':List Value),Dc X w k o→Dc Y w k' (bothW o d)→Calls Tryz.prog 54 #[.agg k.toArray,.agg k'.toArray] w fun e w'=>e = .returned (.int .i64 chg)∧Below w.heap.size w w') :
  Calls Tryz.prog 14 #[ptr p,.int .i64 v,.agg c.toArray] W fun e w'=>e = .returned (.tuple #[.int .i64 (if emptyW (bothW o d) then 2 else 1),.int .i64 0])∧∃ sl',Sto w' p (narrowM st v o (bothW o d) chg) sl'∧Up (XS p sl) (XS p sl') W∧Kept (XS p sl) W w':=by
 have e1:bothA o d=bothW o d:=by simp only [bothA,hs'];rfl
 have e2:emptyA (bothW o d)=emptyW (bothW o d):=rfl
 have e3:emptyA o=emptyW o:=by simp only [emptyA,hs'];rfl
 have e4:sameA o (bothW o d)=false:=by simp only [sameA,hs'];exact decide_eq_false hns
 have e5:narrowA st v o (bothW o d) chg=narrowM st v o (bothW o d) chg:=by simp only [narrowA,narrowM,putA,putM,e2,e3]
 have k:=narrow_ch_b false h hc v hv hs hs' hf hf' (by rw [e1];exact hfx) (by rw [rightM,if_neg (by rw [hs];exact Bool.false_ne_true)];exact hR) he (by rw [e3];exact ho) hz hzs (by rw [e1];exact e4) chg (by rw [e1];exact kch)
 rw [e1,e2,e5] at k
 exact k
end Go.Proofs.YtghnfnieppfhgaaGreat
namespace Go.Proofs.YtghnfnieppfhgaaGreat
open Go.RowKit Go.Shelf
theorem get_any [Gh] {W:World} {p:Nat} {st:StM} {sl:Sl} (h:Sto W p st sl) (hz:Sz st) (v:Nat) {o:MD} (hv:st.D[v]? = some o) (hs:o.set=false) (hlo:o.lo=[]) (hup:o.up=[]) (h0:0<o.r.length) (hl:o.r.length≤4096) :
  Calls Tryz.prog 36 #[ptr p,.int .i64 v] W fun e w'=>∃ q:List Value,e = .returned (.tuple #[.agg q.toArray,.int .i64 0])∧(∀ Z:Nat→Prop,(∀ b,Z b→b<W.heap.size)→Dc Z w' q o)∧Below W.heap.size W w':=by
 have hvl:v<st.D.length:=(List.getElem?_eq_some_iff.1 hv).1
 obtain ⟨W0,hW0⟩:∃ Q,W.alloc (Obj.cells #[.bool false,.slice none 0 0,.slice none 0 0,.slice none 0 0,.int .i64 0,.int .i64 0] 37)=Q:=⟨_,rfl⟩
 have hb0:Below W.heap.size W W0:=by rw [←hW0];exact (Below.refl _ W).alloc (Nat.le_refl _) _
 obtain ⟨bv,hbv⟩:∃ q,W.heap.size=q:=⟨_,rfl⟩
 have HBV:Hid (Bx W0 bv #[.bool false,.slice none 0 0,.slice none 0 0,.slice none 0 0,.int .i64 0,.int .i64 0] 37):=by rw [←hW0];exact Bx.new' hbv _ _
 have hst:=h.below hb0
 obtain ⟨n,k,m,sa,sc,ma,mc,ia,ic,da,dc,wa,wc,rfl,HL⟩:=h.look
 obtain ⟨gd,cap,c',e1,hgd,hcap,hcm,hr,hth,hco⟩:=hst.dom_at hv
 injection e1 with e1 e2 e3
 subst e1 e3
 clear e2
 have hvn:v<n:=by rw [←HL.out.1];exact hvl
 have kc:=copy_z hco hs hlo hup h0 hl
 obtain ⟨b',ra',n0',rc',a1',n1',c1',a2',n2',c2',x',y',rfl,HE',H1',H2',H3'⟩:=hco.look
 obtain rfl:b'=false:=by rw [←HE'.out.1,hs]
 have kt:=there_any hst hz v
 have htb:thereB st v=true:=by unfold thereB;simp;exact hvl
 rw [htb] at kt
 obtain ⟨z0,z1,z2,z3,z4,z5,zf⟩:=hst.cells
 simp only at z3
 obtain ⟨u0,u1,u2,u3,u4,u5⟩:=rng6 hr
 have hcapn:n≤dc:=by rw [←HL.out.1];exact hcap
 have hvi:(v:Int)<n:=by omega
 have HW0:Hid _:=hW0
 have HBW:Hid (W.heap.size=bv):=hbv
 have HB0:Hid (Below W.heap.size W W0):=hb0
 clear hW0 hbv hb0 h hst hv hs hr hth hco htb z0 z1 z2 z4 z5 zf hgd hcap hvl H1' H2' H3' HE' hz hlo hup h0 hl
 go_enter Tryz.func36,Tryz.ntmps36
 go_wp2_with fail
 rw [HW0.out]
 refine kt.mono ?_
 clear kt
 rintro e wt ⟨rfl,hwt⟩
 rw [hwt]
 clear hwt wt
 go_wp2_with fail
 (try rw [HW0.out])
 (try rw [HBW.out])
 refine kc.mono ?_
 clear kc
 rintro e w1 ⟨q,rfl,hq,hb1⟩
 have HQ:Hid _:=hq
 have HB1:Hid (Bx w1 bv #[.bool false,.slice none 0 0,.slice none 0 0,.slice none 0 0,.int .i64 0,.int .i64 0] 37):=HBV.out.below hb1
 have HBb:Hid (Below W.heap.size W w1):=HB0.out.trans (hb1.mono HB0.out.size)
 have HDc:Hid (Dc (fun b=>b<W0.heap.size) w1 q o):=hq _ (fun b q=>q)
 clear hb1 z3 u0 u1 u2 u3 u4 u5 hq
 go_wp2_with (with_reducible refine stD rfl (.tmp 4) (.tmp 23) rfl bv q (by with_unfolding_all rfl) (by with_unfolding_all rfl) HB1.out rfl HDc.out.len HDc.out.one ?_)
 refine ⟨rfl,_,res_ct rfl _ (HB1.out.setRow _) (by with_unfolding_all rfl) rfl Tryz.underlying37 (by rw [Tryz.sizeDom];simp [HDc.out.len]) (v:=.int .i64 0) (by with_unfolding_all rfl),q,rfl,fun Z hZ=>?_,below_row HBb.out (by have:=HBW.out;omega) _⟩
 refine (HDc.out.kept (w':=w1.setRow bv q.toArray) ⟨rfl,rfl,rfl,by simp [World.setRow],fun b _ hb=>setRow_other _ _ b _ (fun e=>hb (by rw [e];exact HBV.out.lt))⟩).up (fun b hb=>.inl (Nat.lt_of_lt_of_le (hZ b hb) HB0.out.size))
end Go.Proofs.YtghnfnieppfhgaaGreat
