/- What is proved here: both stores side by side: the store and the reference, with blocks of others. What is proved here: one call of both stores leaves them alike (step). What is proved here: what can be seen of both stores is alike (alike). -/
import Derived.Test.YtghnfnieppfhgaaGreatPn
import Derived.Test.YtghnfnieppfhgaaGreatPbj
import Derived.Test.YtghnfnieppfhgaaGreatQa
import Derived.Test.YtghnfnieppfhgaaGreatMsj
import Derived.Test.YtghnfnieppfhgaaGreatNd
import Derived.Test.YtghnfnieppfhgaaGreatPi
import Derived.Test.YtghnfnieppfhgaaGreatAa
set_option linter.unusedVariables false
set_option linter.unusedSimpArgs false
set_option maxRecDepth 100000
set_option maxHeartbeats 16000000
namespace Go.Proofs.YtghnfnieppfhgaaGreat
open Go.RowKit Go.Shelf
structure Two (W w : World) (s r : Nat) (st : StM) (sl : Sl) (D : List MD) (O : List (List MD)) (E : List (Int × Int)) (rl : Rl) (V : Nat → Prop) : Prop where
 a:Sid w s st sl (fun b=>RX r rl b∨V b)
 b:Rs (fun b=>OX s sl b∨V b) w r D O E rl
 ls:∀ b,OX s sl b→W.heap.size≤b
 lr:∀ b,RX r rl b→W.heap.size≤b
 lv:∀ b,V b→W.heap.size≤b
 bel:Below W.heap.size W w
section
variable {W w w' : World} {s r : Nat} {st st' : StM} {sl sl' : Sl} {D D' : List MD} {O O' : List (List MD)} {E E' : List (Int × Int)} {rl rl' : Rl} {V V' : Nat → Prop}
theorem Two.vlt (h:Two W w s r st sl D O E rl V):∀ b,V b→b<w.heap.size:=fun b q=>h.b.al b (.inr q)
theorem Two.slt (h:Two W w s r st sl D O E rl V):∀ b,OX s sl b→b<w.heap.size:=h.a.ox_lt
theorem Two.rlt (h:Two W w s r st sl D O E rl V):∀ b,RX r rl b→b<w.heap.size:=h.b.x_lt
theorem Two.stepA (h:Two W w s r st sl D O E rl V) (hs:Sid w' s st' sl' (fun b=>RX r rl b∨V b)) (hu:Up (OX s sl) (OX s sl') w) (hk:Kept (OX s sl) w w'):Two W w' s r st' sl' D O E rl V :=
 ⟨hs,h.b.frame hk (fun b q=>.inl q) (fun b q=>by
   rcases q with q | q
   ·exact (hu b q).imp .inl id
   ·exact .inl (.inr q)) (fun b q=>by
   rcases q with q | q
   ·exact hs.ox_lt b q
   ·exact Nat.lt_of_lt_of_le (h.vlt b q) hk.size),
  fun b q=>(hu b q).elim (h.ls b) (fun q=>Nat.le_trans h.bel.size q),h.lr,h.lv,h.bel.trans (hk.below h.bel.size h.ls)⟩
theorem Two.stepB (h:Two W w s r st sl D O E rl V) (hs:Rs (fun b=>OX s sl b∨V b) w' r D' O' E' rl') (hu:Up (RX r rl) (RX r rl') w) (hk:Kept (RX r rl) w w'):Two W w' s r st sl D' O' E' rl' V :=
 ⟨h.a.frame hk (fun b q=>.inl q) (fun b q=>by
   rcases q with q | q
   ·exact (hu b q).imp .inl id
   ·exact .inl (.inr q)) (fun b q=>by
   rcases q with q | q
   ·exact hs.x_lt b q
   ·exact Nat.lt_of_lt_of_le (h.vlt b q) hk.size),
  hs,h.ls,fun b q=>(hu b q).elim (h.lr b) (fun q=>Nat.le_trans h.bel.size q),h.lv,h.bel.trans (hk.below h.bel.size h.lr)⟩
theorem Two.grow (h:Two W w s r st sl D O E rl V) (hb:Below w.heap.size w w') (hV:∀ b,V' b→(V b∨w.heap.size≤b)∧b<w'.heap.size):Two W w' s r st sl D O E rl V' :=
 ⟨h.a.frame (X:=fun _=>False) (Kept.of_below hb) (fun _ q=>q.elim) (fun b q=>by
   rcases q with q | q
   ·exact .inl (.inl q)
   ·exact (hV b q).1.imp .inr id) (fun b q=>by
   rcases q with q | q
   ·exact Nat.lt_of_lt_of_le (h.rlt b q) hb.size
   ·exact (hV b q).2),
  h.b.frame (X:=fun _=>False) (Kept.of_below hb) (fun _ q=>q.elim) (fun b q=>by
   rcases q with q | q
   ·exact .inl (.inl q)
   ·exact (hV b q).1.imp .inr id) (fun b q=>by
   rcases q with q | q
   ·exact Nat.lt_of_lt_of_le (h.slt b q) hb.size
   ·exact (hV b q).2),h.ls,h.lr,fun b q=>(hV b q).1.elim (h.lv b) (fun q=>Nat.le_trans h.bel.size q),h.bel.trans (hb.mono h.bel.size)⟩
theorem Two.below (h:Two W w s r st sl D O E rl V) (hb:Below w.heap.size w w'):Two W w' s r st sl D O E rl V:=h.grow hb fun b q=>⟨.inl q,Nat.lt_of_lt_of_le (h.vlt b q) hb.size⟩
theorem Two.spoil (h:Two W w s r st sl D O E rl V) (hk:Kept V w w') (hV:∀ b,V' b→V b):Two W w' s r st sl D O E rl V' :=
 ⟨h.a.frame hk (fun b q=>.inr q) (fun b q=>by
   rcases q with q | q
   ·exact .inl (.inl q)
   ·exact .inl (.inr (hV b q))) (fun b q=>by
   rcases q with q | q
   ·exact Nat.lt_of_lt_of_le (h.rlt b q) hk.size
   ·exact Nat.lt_of_lt_of_le (h.vlt b (hV b q)) hk.size),
  h.b.frame hk (fun b q=>.inr q) (fun b q=>by
   rcases q with q | q
   ·exact .inl (.inl q)
   ·exact .inl (.inr (hV b q))) (fun b q=>by
   rcases q with q | q
   ·exact Nat.lt_of_lt_of_le (h.slt b q) hk.size
   ·exact Nat.lt_of_lt_of_le (h.vlt b (hV b q)) hk.size),h.ls,h.lr,fun b q=>h.lv b (hV b q),h.bel.trans (hk.below h.bel.size h.lv)⟩
end
theorem bk_sz {D0:List MD} {st:StM} {Ls:List (List MD)} {q:Nat} (h:Bk D0 st Ls q) (h0:D0.length≤60) (hq:q≤200) (hl:Ls.length≤200):Sz st :=
 ⟨by rw [h.w.l];omega,by rw [h.ml];omega,by have:=h.sv;omega⟩
theorem bk_any {D0:List MD} {st:StM} {Ls:List (List MD)} {q:Nat} (h:Bk D0 st Ls q):0<st.e↔st.D.any reM=true:=by
 have e1:=h.em
 have e2:=(emS_bd st.D).1
 constructor
 ·intro h0
  cases hh:st.D.any reM
  ·exfalso
   have:∀ D:List MD,(∀ d∈D,emptyA d=false)→emS D=0:=by
    intro D hD
    induction D with
    | nil=>rfl
    | cons d D ih =>
     have q1:=hD d (by simp)
     have q2:=ih (fun d hd=>hD d (by simp [hd]))
     unfold emS at q2 ⊢
     rw [List.map_cons,List.sum_cons,q2,q1]
     rfl
   have:=this st.D (fun d hd=>by
    have q:=List.any_eq_false.1 hh d hd
    rw [re_empty (h.w.tt d hd).r] at q
    simpa using q)
   omega
  ·rfl
 ·intro hh
  obtain ⟨d,hd,he⟩:=List.any_eq_true.1 hh
  rw [re_empty (h.w.tt d hd).r] at he
  rcases Int.lt_or_le 0 st.e with q | q
  ·exact q
  ·have:=h.ne (by omega) d hd
   rw [this] at he;cases he
theorem seen_len:∀ (ws:List Int) (k:Nat),(seenF k ws).length≤ws.length
 | [],k=>Nat.le_refl _
 | w :: ws,k=>by
  unfold seenF
  have:=seen_len ws (k+1)
  split
  ·simp;omega
  ·simp;omega
theorem seen_lt:∀ (ws:List Int) (k:Nat),∀ e∈seenF k ws,e.1<((k+ws.length:Nat):Int)
 | [],k,e,h=>by cases h
 | w :: ws,k,e,h=>by
  unfold seenF at h
  have ih:=seen_lt ws (k+1)
  split at h
  ·have:=ih e h;simp only [List.length_cons];omega
  ·rcases List.mem_cons.1 h with q | q
   ·rw [q];simp only [List.length_cons];omega
   ·have:=ih e q;simp only [List.length_cons];omega
theorem seen_rep:∀ (n k:Nat),seenF k (List.replicate n 0)=[]
 | 0,k=>rfl
 | n+1,k=>by rw [List.replicate_succ,seenF,if_pos rfl,seen_rep n]
end Go.Proofs.YtghnfnieppfhgaaGreat
namespace Go.Proofs.YtghnfnieppfhgaaGreat
open Go.RowKit Go.Shelf
theorem Sid.push {W:World} {p:Nat} {st:StM} {sl:Sl} {Y:Nat→Prop} (h:Sid W p st sl Y) (hz:Sz st) (hm:st.marks.length<1000000):Calls Tryz.prog 17 #[ptr p] W fun e w'=>e = .returned (.int .i64 0)∧∃ sl',Sid w' p { st with marks:=st.marks++[(st.saved.length:Int)] } sl' Y∧Up (OX p sl) (OX p sl') W∧Kept (OX p sl) W w' :=
 (@push_any (gh Y W) W p st sl h hz hm).mono fun e w' ⟨h1,sl',h2,h3,h4⟩=>⟨h1,sl',h.after h2 h3 h4⟩
theorem Sid.pop {W:World} {p:Nat} {st:StM} {sl:Sl} {Y:Nat→Prop} (h:Sid W p st sl Y) (hz:Sz st) (ms:List Int) (f:Nat) (hm:st.marks=ms++[(f:Int)]) (hf:f≤st.saved.length) (hs:st.saved.length≤100000) (hval:∀ t∈st.saved.drop f,0≤t.1∧t.1<st.D.length) (he : -500000≤st.e) (he':st.e≤500000) :
  Calls Tryz.prog 18 #[ptr p] W fun e w'=>e = .returned (.int .i64 0)∧∃ sl',Sid w' p (popA st ms f) sl' Y∧Up (OX p sl) (OX p sl') W∧Kept (OX p sl) W w' :=
 (@pop_d (gh Y W) W p st sl h hz ms f hm hf hs hval he he').mono fun e w' ⟨h1,sl',h2,h3,h4⟩=>⟨h1,sl',h.after h2 h3 h4⟩
theorem Sid.pop_no {W:World} {p:Nat} {st:StM} {sl:Sl} {Y:Nat→Prop} (h:Sid W p st sl Y) (hz:Sz st) (hm:st.marks=[]):Calls Tryz.prog 18 #[ptr p] W fun e w'=>e = .returned (.int .i64 6)∧w'=W:=@Go.Proofs.YtghnfnieppfhgaaGreat.pop_no (gh Y W) W p st sl h hz hm
theorem Sid.events {W:World} {p:Nat} {st:StM} {sl:Sl} {Y:Nat→Prop} (h:Sid W p st sl Y) (hz:Sz st):Calls Tryz.prog 19 #[ptr p] W fun e w'=>∃ s,e = .returned s∧Rw w' 61 s 2 (evsA st st.D.length)∧(∀ b,s.ownBlock=some b→W.heap.size≤b)∧Sid w' p { st with why:=List.replicate st.D.length 0 } sl Y∧Kept (OX p sl) W w' :=
 (@events_u (gh Y W) W p st sl h hz).mono fun e w' ⟨s,h1,h2,h3,h4,h5⟩=>by
  have q:=h.after h4 (Up.refl _ _) h5
  exact ⟨s,h1,h2,h3,q.1,q.2.2⟩
structure Pl (W w : World) (s r : Nat) (D0 : List MD) (st : StM) (sl : Sl) (Ls : List (List MD)) (q : Nat) (rl : Rl) : Prop where
 t:Two W w s r st sl st.D Ls.reverse (seenF 0 st.why) rl (fun _=>False)
 k:Bk D0 st Ls q
theorem bk_szd {D0:List MD} {st:StM} {Ls:List (List MD)} {q:Nat} (h:Bk D0 st Ls q):∀ o∈st.D,SzD o:=fun o ho=>tt_szd (h.w.tt o ho)
theorem bk_re {D0:List MD} {st:StM} {Ls:List (List MD)} {q:Nat} (h:Bk D0 st Ls q) (v:Nat):reM (st.D.getD v ⟨false,[],[],[],0,0⟩)=emptyA (st.D.getD v ⟨false,[],[],[],0,0⟩):=by
 by_cases hv:v<st.D.length
 ·have e:st.D.getD v ⟨false,[],[],[],0,0⟩=st.D[v]:=by simp [List.getD,List.getElem?_eq_getElem hv]
  rw [e]
  exact re_empty (h.w.tt _ (List.getElem_mem hv)).r
 ·have e:st.D.getD v ⟨false,[],[],[],0,0⟩=⟨false,[],[],[],0,0⟩:=by simp [List.getD,List.getElem?_eq_none (by omega:st.D.length≤v)]
  rw [e]
  rfl
theorem Du.vk {V X:Nat→Prop} {w w':World} {c:List Value} {d:MD} (h:Du (fun b=>¬V b) w c d) (k:Kept X w w') (hX:∀ b,X b→¬V b):Du (fun b=>¬V b) w' c d:=h.kept (k.mono hX)
theorem Two.sv {W w:World} {s r:Nat} {st:StM} {sl:Sl} {D:List MD} {O:List (List MD)} {E:List (Int × Int)} {rl:Rl} {V:Nat→Prop} (h:Two W w s r st sl D O E rl V):∀ b,OX s sl b→¬V b:=fun b hb hv=>@Sto.yo (gh (fun b=>RX r rl b∨V b) w) w s st sl h.a b hb (.inr hv)
theorem Two.rv {W w:World} {s r:Nat} {st:StM} {sl:Sl} {D:List MD} {O:List (List MD)} {E:List (Int × Int)} {rl:Rl} {V:Nat→Prop} (h:Two W w s r st sl D O E rl V):∀ b,RX r rl b→¬V b:=fun b hb hv=>h.b.ao b hb (.inr hv)
theorem step_walk {W w:World} {s r:Nat} {D0:List MD} {st:StM} {sl:Sl} {Ls:List (List MD)} {q:Nat} {rl:Rl} (h:Pl W w s r D0 st sl Ls q rl) (h0:D0.length≤60) (hq:q≤150) (hL:Ls.length≤150) {c:List Value} {d:MD} (hc:Dc (fun _=>False) W c d) (hf:Dm.FitsR d.r) (hd:SzD d) (kd v:Int) :
  Calls Tryz.prog 12 #[ptr s,ptr r,.agg (Value.int .i64 kd :: .int .i64 v :: c).toArray] w fun e w'=>e = .returned (.bool true)∧∃ st' sl' Ls' rl',Pl W w' s r D0 st' sl' Ls' (q+1) rl'∧Ls'.length≤Ls.length+1:=by
 obtain ⟨zb,ra,n0,rc,a1,n1,c1,a2,n2,c2,x,y,rfl,HE,_,_,_⟩:=hc.look
 obtain ⟨bx,hbx⟩:∃ z,w.heap.size=z:=⟨_,rfl⟩
 obtain ⟨Y0,hY0⟩:∃ z,w.alloc (Obj.cells #[.int .i64 kd,.int .i64 v,.bool zb,.slice ra n0 rc,.slice a1 n1 c1,.slice a2 n2 c2,.int .i64 x,.int .i64 y] 40)=z:=⟨_,rfl⟩
 have hbY:Below w.heap.size w Y0:=by rw [←hY0];exact (Below.refl _ _).alloc (Nat.le_refl _) _
 have HBB:Hid (Bx Y0 bx #[.int .i64 kd,.int .i64 v,.bool zb,.slice ra n0 rc,.slice a1 n1 c1,.slice a2 n2 c2,.int .i64 x,.int .i64 y] 40):=by rw [←hY0];exact Bx.new' hbx _ _
 have HY0:Hid _:=hY0
 have HBX:Hid (w.heap.size=bx):=hbx
 have HT:Hid (Two W Y0 s r st sl st.D Ls.reverse (seenF 0 st.why) rl (fun _=>False)):=h.t.below hbY
 have HT0:Hid (Two W w s r st sl st.D Ls.reverse (seenF 0 st.why) rl (fun _=>False)):=h.t
 have HK:Hid (Bk D0 st Ls q):=h.k
 have HSZ:Hid (Sz st):=bk_sz h.k h0 (by omega) (by omega)
 have HDZ:Hid (∀ o∈st.D,SzD o):=bk_szd h.k
 have HDL:Hid (st.D.length≤60):=by have:=h.k.w.l;rw [Hid];omega
 have HML:Hid (st.marks.length=Ls.length):=h.k.ml
 have HSV:Hid (st.saved.length≤q):=h.k.sv
 have HQ:Hid (q≤150∧Ls.length≤150∧D0.length≤60):=⟨hq,hL,h0⟩
 have HWL:Hid (st.why.length=st.D.length):=@Sto.lw (gh _ w) w s st sl h.t.a
 have HCW:Hid (Dc (fun _=>False) W [.bool zb,.slice ra n0 rc,.slice a1 n1 c1,.slice a2 n2 c2,.int .i64 x,.int .i64 y] d):=hc
 have HF:Hid (Dm.FitsR d.r):=hf
 have HD:Hid (SzD d):=hd
 have y0:=HBB.out.cell 0
 have y1:=HBB.out.cell 1
 have y2:=HBB.out.cell 2
 have y3:=HBB.out.cell 3
 have y4:=HBB.out.cell 4
 have y5:=HBB.out.cell 5
 have y6:=HBB.out.cell 6
 have y7:=HBB.out.cell 7
 simp at y0 y1 y2 y3 y4 y5 y6 y7
 clear hY0 hbY hbx h h0 hq hL hc hf hd HE
 by_cases q0:kd=0
 ·subst q0
  clear y1 y2 y3 y4 y5 y6 y7
  have kr:=rpush_any HT.out.b HDZ.out (by have:=HDL.out;omega) (by have:=HQ.out.2.1;rw [List.length_reverse];omega)
  go_enter Tryz.func12,Tryz.ntmps12
  go_wp2_with fail
  (try rw [HY0.out])
  refine kr.mono ?_
  clear kr
  rintro e u1 ⟨rfl,rl',hr',hu',hk'⟩
  have HT1:Hid (Two W u1 s r st sl st.D (Ls.reverse++[st.D]) (seenF 0 st.why) rl' (fun _=>False)):=HT.out.stepB hr' hu' hk'
  clear hr' hu' hk'
  have ks:=HT1.out.a.push HSZ.out (by rw [HML.out];have:=HQ.out.2.1;omega)
  go_wp2_with fail
  refine ks.mono ?_
  clear ks
  rintro e u2 ⟨rfl,sl',hs',hu',hk'⟩
  have HT2:=hid (HT1.out.stepA hs' hu' hk')
  clear hs' hu' hk'
  go_wp2
  go_ret
  refine ⟨rfl,_,sl',st.D :: Ls,rl',⟨?_,HK.out.push.more⟩,by simp⟩
  rw [List.reverse_cons]
  exact HT2.out
 ·have q0':(kd==0)=false:=by simpa using q0
  by_cases q1:kd=1
  ·subst q1
   clear y1 y2 y3 y4 y5 y6 y7
   cases Ls with
   | nil =>
    have ks:=HT.out.a.pop_no HSZ.out (List.length_eq_zero_iff.1 HML.out)
    have kr:=rpop_no (r:=r) HT.out.b
    go_enter Tryz.func12,Tryz.ntmps12
    go_wp2_with fail
    (try rw [HY0.out])
    refine ks.mono ?_
    clear ks
    rintro e u1 ⟨rfl,hu1⟩
    rw [hu1]
    clear hu1 u1
    go_wp2_with fail
    refine kr.mono ?_
    clear kr
    rintro e u2 ⟨rfl,hu2⟩
    rw [hu2]
    clear hu2 u2
    go_wp2
    go_ret
    exact ⟨rfl,st,sl,[],rl,⟨HT.out,HK.out.more⟩,Nat.zero_le _⟩
   | cons X Ls1 =>
    obtain ⟨ms,f,hm,hf,hval,hK',hD'⟩:=Bk.pop HK.out
    have ks:=HT.out.a.pop HSZ.out ms f hm hf (by have:=HSV.out;have:=HQ.out.1;omega) hval (by have:=HK.out.e0;omega) (by have:=HK.out.eb HQ.out.2.2;omega)
    have HKP:Hid (Bk D0 (popA st ms f) Ls1 (q+1)):=hK'.more
    have HDP:Hid ((popA st ms f).D=X):=hD'
    have HWP:Hid (seenF 0 (popA st ms f).why=[]):=seen_rep _ 0
    clear hm hf hval hK' hD'
    generalize popA st ms f=st' at ks HKP HDP HWP
    have HTT:Hid (Two W Y0 s r st sl st.D (Ls1.reverse++[X]) (seenF 0 st.why) rl (fun _=>False)):=by
     have:=HT.out
     rw [List.reverse_cons] at this
     exact this
    go_enter Tryz.func12,Tryz.ntmps12
    go_wp2_with fail
    (try rw [HY0.out])
    refine ks.mono ?_
    clear ks
    rintro e u1 ⟨rfl,sl',hs',hu',hk'⟩
    have HT1:Hid (Two W u1 s r st' sl' st.D (Ls1.reverse++[X]) (seenF 0 st.why) rl (fun _=>False)):=HTT.out.stepA hs' hu' hk'
    clear hs' hu' hk'
    have kr:=rpop_any HT1.out.b (by have:=HQ.out.2.1;rw [List.length_reverse];simp at this;omega)
    go_wp2_with fail
    refine kr.mono ?_
    clear kr
    rintro e u2 ⟨rfl,rl',hr',hu',hk'⟩
    have HT2:=hid (HT1.out.stepB hr' hu' hk')
    clear hr' hu' hk'
    go_wp2
    go_ret
    refine ⟨rfl,st',sl',Ls1,rl',⟨?_,HKP.out⟩,by omega⟩
    rw [HDP.out,HWP.out]
    exact HT2.out
  ·have q1':(kd==1)=false:=by simpa using q1
   by_cases q2:kd=2
   ·subst q2
    clear y1 y2 y3 y4 y5 y6 y7
    have ks:=HT.out.a.events HSZ.out
    have HEQ:Hid (evl (toldE st.D (seenF 0 st.why))=evsA st st.D.length):=told_evs st (bk_re HK.out) HWL.out
    have HEL:Hid ((seenF 0 st.why).length≤1000):=by have:=seen_len st.why 0;have:=HWL.out;have:=HDL.out;rw [Hid];omega
    have HEV:Hid (∀ e∈seenF 0 st.why,0≤e.1∧e.1<st.D.length):=fun e he=>by
     have q1:=seen_ge st.why 0 e he
     have q2:=seen_lt st.why 0 e he
     rw [HWL.out] at q2
     exact ⟨by omega,by omega⟩
    go_enter Tryz.func12,Tryz.ntmps12
    go_wp2_with fail
    (try rw [HY0.out])
    refine ks.mono ?_
    clear ks
    rintro e u1 ⟨s1,rfl,hr1,hn1,hs',hk'⟩
    rw [←HEQ.out] at hr1
    have HT1:Hid (Two W u1 s r { st with why:=List.replicate st.D.length 0 } sl st.D Ls.reverse (seenF 0 st.why) rl (fun _=>False)):=HT.out.stepA hs' (Up.refl _ _) hk'
    have HN1:Hid (∀ b,s1.ownBlock=some b→¬RX r rl b):=fun b hb hx=>by
     have:=hn1 b hb
     have:=HT.out.rlt b hx
     omega
    have HR1:Hid (Rw u1 61 s1 2 (evl (toldE st.D (seenF 0 st.why)))):=hr1
    clear hs' hk' hr1 hn1
    have kr:=revents_any HT1.out.b HEL.out HEV.out (by have:=HDL.out;omega)
    go_wp2_with fail
    refine kr.mono ?_
    clear kr
    rintro e u2 ⟨s2,rfl,hr2,hn2,rl',hr',hu',hk'⟩
    have HR3:Hid (Rw u2 61 s1 2 (evl (toldE st.D (seenF 0 st.why)))):=HR1.out.keep fun g hg=>hk'.block g (HR1.out.lt hg) (HN1.out g hg)
    have HT2:=hid (HT1.out.stepB hr' hu' hk')
    have kq:=events_same HR3.out hr2 (Nat.le_trans (told_len _ _) HEL.out)
    clear hr' hu' hk' hn2 hr2
    go_wp2_with fail
    refine kq.mono ?_
    clear kq
    rintro e u3 ⟨rfl,hb3⟩
    have HT3:=hid (HT2.out.below hb3)
    clear hb3
    go_wp2
    go_ret
    refine ⟨rfl,{ st with why:=List.replicate st.D.length 0 },sl,Ls,rl',⟨?_,(HK.out.why _).more⟩,Nat.le_succ _⟩
    rw [show seenF 0 ({ st with why:=List.replicate st.D.length 0 }:StM).why=[] from seen_rep _ 0]
    exact HT3.out
   ·have q2':(kd==2)=false:=by simpa using q2
    have HXS:Hid (∀ b,OX s sl b→b<bx):=fun b hb=>by have:=HT0.out.slt b hb;rw [HBX.out] at this;exact this
    have HXR:Hid (∀ b,RX r rl b→b<bx):=fun b hb=>by have:=HT0.out.rlt b hb;rw [HBX.out] at this;exact this
    have HBY:Hid (bx<Y0.heap.size):=HBB.out.lt
    have HTT:Hid (∀ o∈st.D,Tt o):=HK.out.w.tt
    have HRE:Hid (0<st.e↔st.D.any reM=true):=bk_any HK.out
    have kl:=lent_u (HCW.out.below HT.out.bel) HD.out
    have HK1:Hid (Bk D0 (narM st v d) Ls (q+1)):=HK.out.nar v d
    have HEL:Hid ((seenF 0 st.why).length≤1000):=by have:=seen_len st.why 0;have:=HWL.out;have:=HDL.out;rw [Hid];omega
    have HAN:=hid (ans_r (E:=seenF 0 st.why) (v:=v) (d:=d) HTT.out HRE.out)
    have HND:=hid (nar_r (E:=seenF 0 st.why) (v:=v) (d:=d) HTT.out HRE.out)
    have HNE:=hid (nar_E (v:=v) (d:=d) HTT.out HRE.out HWL.out)
    go_enter Tryz.func12,Tryz.ntmps12
    go_wp2_with fail
    (try rw [HY0.out])
    (try rw [HBX.out])
    refine kl.mono ?_
    clear kl y0 y1 y2 y3 y4 y5 y6 y7
    rintro e w1 ⟨oc,rfl,hoc,hb1⟩
    have hU:=(hoc (fun b=>b<Y0.heap.size) (fun b q=>q)).up (X':=fun b=>¬(Y0.heap.size≤b∧b<w1.heap.size)) (fun b hb=>by
     by_cases q:b<Y0.heap.size
     ·exact .inl q
     ·exact .inr (by omega))
    obtain ⟨V,hV⟩:∃ V:Nat→Prop,V=fun b=>Y0.heap.size≤b∧b<w1.heap.size:=⟨_,rfl⟩
    have HV:Hid (∀ b,V b↔(Y0.heap.size≤b∧b<w1.heap.size)):=fun b=>by rw [hV]
    have HU1:Hid (Du (fun b=>¬V b) w1 oc d):=by rw [hV];exact hU
    have HT1:Hid (Two W w1 s r st sl st.D Ls.reverse (seenF 0 st.why) rl V):=HT.out.grow hb1 (fun b q=>⟨.inr ((HV.out b).1 q).1,((HV.out b).1 q).2⟩)
    have HBB1:=hid (HBB.out.below hb1)
    obtain ⟨ob,ora,on0,orc,oa1,on1,oc1,oa2,on2,oc2,ox,oy,rfl,HE',_,_,_⟩:=HU1.out.dc.look
    obtain ⟨bo,hbo⟩:∃ z,w1.heap.size=z:=⟨_,rfl⟩
    obtain ⟨w2,hw2⟩:∃ z,w1.alloc (Obj.cells #[.bool ob,.slice ora on0 orc,.slice oa1 on1 oc1,.slice oa2 on2 oc2,.int .i64 ox,.int .i64 oy] 37)=z:=⟨_,rfl⟩
    have hb2:Below w1.heap.size w1 w2:=by rw [←hw2];exact (Below.refl _ _).alloc (Nat.le_refl _) _
    have HBO2:Hid (Bx w2 bo #[.bool ob,.slice ora on0 orc,.slice oa1 on1 oc1,.slice oa2 on2 oc2,.int .i64 ox,.int .i64 oy] 37):=by rw [←hw2];exact Bx.new' hbo _ _
    have HW2:Hid _:=hw2
    have HO:Hid (w1.heap.size=bo):=hbo
    have HLT:Hid (bx<bo):=by have:=HBY.out;have:=hb1.size;rw [Hid];omega
    have HT2:=hid (HT1.out.below hb2)
    have HU2:=hid (HU1.out.below hb2)
    have HBB2:=hid (HBB1.out.below hb2)
    clear hV hU hoc hb1 hbo hw2 hb2 HBB1
    have kn:=narrow_x HT2.out.a HU2.out.dc v HSZ.out (by have:=HSV.out;have:=HQ.out.1;omega) HF.out HK.out.held HK.out.e0 HK.out.ne
    have y0:=HBB2.out.cell 0
    have y1:=HBB2.out.cell 1
    have y2:=HBB2.out.cell 2
    have y3:=HBB2.out.cell 3
    have y4:=HBB2.out.cell 4
    have y5:=HBB2.out.cell 5
    have y6:=HBB2.out.cell 6
    have y7:=HBB2.out.cell 7
    simp at y0 y1 y2 y3 y4 y5 y6 y7
    obtain ⟨u0,u1,u2,u3,u4,u5⟩:=HBO2.out.six
    go_upto_region 10 with (fail)
    (try rw [HW2.out])
    (try rw [HO.out])
    go_wp2_with fail
    refine kn.mono ?_
    clear kn y0 y1 y2 y3 y4 y5 y6 y7 u0 u1 u2 u3 u4 u5
    rintro e w3 ⟨rfl,sl',hs',hu',hk'⟩
    have HT3:=hid (HT2.out.stepA hs' hu' hk')
    have HU3:=hid (HU2.out.vk hk' HT2.out.sv)
    have HBB3:=hid (HBB2.out.kept hk' (fun q=>by have:=HXS.out _ q;omega))
    have HBO3:=hid (HBO2.out.kept hk' (fun q=>by have:=HXS.out _ q;have:=HLT.out;omega))
    clear hs' hu' hk'
    have kr:=rnarrow_any HT3.out.b (HCW.out.below HT3.out.bel) HF.out (by have:=HDL.out;omega) v HK.out.held HEL.out
    rw [←HAN.out,←HND.out,←HNE.out] at kr
    have y0:=HBB3.out.cell 0
    have y1:=HBB3.out.cell 1
    have y2:=HBB3.out.cell 2
    have y3:=HBB3.out.cell 3
    have y4:=HBB3.out.cell 4
    have y5:=HBB3.out.cell 5
    have y6:=HBB3.out.cell 6
    have y7:=HBB3.out.cell 7
    simp at y0 y1 y2 y3 y4 y5 y6 y7
    generalize ansM st v d=an at kr ⊢
    obtain ⟨ax,ay⟩:=an
    generalize narM st v d=st' at kr HT3 HK1
    go_wp2_with fail
    refine kr.mono ?_
    clear kr y0 y1 y2 y3 y4 y5 y6 y7
    rintro e w4 ⟨rfl,rl',hr',hu',hk'⟩
    have HT4:=hid (HT3.out.stepB hr' hu' hk')
    have HU4:=hid (HU3.out.vk hk' HT3.out.rv)
    have HBB4:=hid (HBB3.out.kept hk' (fun q=>by have:=HXR.out _ q;omega))
    have HBO4:=hid (HBO3.out.kept hk' (fun q=>by have:=HXR.out _ q;have:=HLT.out;omega))
    clear hr' hu' hk'
    have ko:=one_d HU4.out.dc (HCW.out.below HT4.out.bel) HD.out
    have y0:=HBB4.out.cell 0
    have y1:=HBB4.out.cell 1
    have y2:=HBB4.out.cell 2
    have y3:=HBB4.out.cell 3
    have y4:=HBB4.out.cell 4
    have y5:=HBB4.out.cell 5
    have y6:=HBB4.out.cell 6
    have y7:=HBB4.out.cell 7
    simp at y0 y1 y2 y3 y4 y5 y6 y7
    obtain ⟨u0,u1,u2,u3,u4,u5⟩:=HBO4.out.six
    go_wp2_with fail
    refine ko.mono ?_
    clear ko y0 y1 y2 y3 y4 y5 y6 y7 u0 u1 u2 u3 u4 u5
    rintro e w5 ⟨rfl,hb5⟩
    have HT5:=hid (HT4.out.below hb5)
    have HU5:=hid (HU4.out.below hb5)
    have HBO5:=hid (HBO4.out.below hb5)
    clear hb5
    have kp:=spoil_u (V:=V) HU5.out (fun b _ q=>Classical.byContradiction q) HT5.out.vlt (Sp.refl V w5) (by have:=HD.out.2.2;omega) (by have:=HD.out.1;omega) (by have:=HD.out.2.1;omega)
    obtain ⟨u0,u1,u2,u3,u4,u5⟩:=HBO5.out.six
    go_wp2_with fail
    refine kp.mono ?_
    clear kp u0 u1 u2 u3 u4 u5
    rintro e w6 ⟨rfl,hsp⟩
    have HT6:=hid (HT5.out.spoil (V':=fun _=>False) hsp.k (fun b q=>q.elim))
    clear hsp
    go_wp2
    go_ret
    exact ⟨rfl,st',sl',Ls,rl',⟨HT6.out,HK1.out⟩,Nat.le_succ _⟩
theorem depthp_g [Gh] {W:World} {p:Nat} {st:StM} {sl:Sl} (h:Sto W p st sl) (hz:Sz st):Calls Tryz.prog 22 #[ptr p] W fun e w'=>e = .returned (.int .i64 st.marks.length)∧w'=W:=by
 have kd:=depth_any h hz
 clear h hz
 generalize st.marks.length=m at *
 go_enter Tryz.func22,Tryz.ntmps22
 go_wp2_with fail
 refine kd.mono ?_
 clear kd
 rintro e wt ⟨rfl,rfl⟩
 go_wp2
 go_ret
 exact ⟨rfl,rfl⟩
theorem vl_len {o:MD} (h:Tt o):(vlM o).2.2.length*8≤140737488351232:=by
 unfold vlM
 split
 ·split
  ·rename_i h1 h2
   show (St.fixL (sdM o)).length*8≤_
   unfold St.fixL
   split
   ·rw [h.t h2]
    have:=(right_held h.r).lo
    show o.lo.length*8≤_
    omega
   ·show 0*8≤_
    omega
  ·show 0*8≤_
   omega
 ·show 0*8≤_
  omega
theorem sol_mem {D:List MD} {x:Bool × Int × List Int} (h:x∈solL D):∃ o∈D,x=vlM o:=by
 unfold solL at h
 split at h
 ·obtain ⟨o,h1,h2⟩:=List.mem_map.1 h
  exact ⟨o,h1,h2.symm⟩
 ·cases h
theorem Vx.look {w:World} {c:List Value} {x:Bool × Int × List Int} (h:Vx w c x):∃ p l k,c=[.bool x.1,.int .i64 x.2.1,.slice p l k]∧St.Si w (.slice p l k) x.2.2:=by
 obtain ⟨p,l,k,e,h1,_⟩:=h
 exact ⟨p,l,k,e,h1⟩
theorem rng3 {w:World} {g o:Nat} {x0 x1 x2:Value} (h:w.rangeAt g o [x0,x1,x2]) :
  w.cell? ⟨g,o,none⟩=some x0∧w.cell? ⟨g,o+1,none⟩=some x1∧w.cell? ⟨g,o+2,none⟩=some x2 :=
 ⟨by simpa using h 0 x0 rfl,h 1 x1 rfl,h 2 x2 rfl⟩
theorem alike_walk {W w:World} {s r:Nat} {D0:List MD} {st:StM} {sl:Sl} {Ls:List (List MD)} {q:Nat} {rl:Rl} (h:Pl W w s r D0 st sl Ls q rl) (h0:D0.length≤60) (hq:q≤200) (hL:Ls.length≤200) (v:Int) :
  Calls Tryz.prog 13 #[ptr s,ptr r,.int .i64 v] w fun e w'=>e = .returned (.bool true)∧Pl W w' s r D0 st sl Ls q rl:=by
 have HK:Hid (Bk D0 st Ls q):=h.k
 have HT:Hid (Two W w s r st sl st.D Ls.reverse (seenF 0 st.why) rl (fun _=>False)):=h.t
 have HSZ:Hid (Sz st):=bk_sz h.k h0 (by omega) (by omega)
 have HDZ:Hid (∀ o∈st.D,SzD o):=bk_szd h.k
 have HDL:Hid (st.D.length≤60):=by have:=h.k.w.l;rw [Hid];omega
 have HML:Hid (st.marks.length=Ls.length):=h.k.ml
 have HLL:Hid (Ls.length≤200):=hL
 have HTT:Hid (∀ o∈st.D,Tt o):=h.k.w.tt
 have HFT:Hid (∀ o∈st.D,Dm.FitsR o.r):=fun o ho=>(right_held (h.k.w.tt o ho).r).f
 have HHE:Hid (∀ o∈st.D,Held o):=h.k.held
 have HRE:Hid (0<st.e↔st.D.any reM=true):=bk_any h.k
 clear h h0 hq hL
 obtain ⟨n,m,q9,da,dc,oa,oc,ea,ec,os,rfl,HL9⟩:=HT.out.b.look
 have HN:Hid (st.D.length=n):=HL9.out.1
 have HM:Hid (Ls.length=m):=by have:=HL9.out.2.1;rw [List.length_reverse] at this;exact this
 have HN6:Hid (n≤60):=by rw [Hid,←HN.out];exact HDL.out
 have HM2:Hid (m≤200):=by rw [Hid,←HM.out];exact HLL.out
 clear HL9
 have ka:=(@all_x (gh _ w) w s st sl HT.out.a HSZ.out HHE.out)
 go_enter Tryz.func13,Tryz.ntmps13
 go_wp2_with fail
 refine ka.mono ?_
 clear ka
 rintro e w1 ⟨lv,vs,rfl,hlx,hb1⟩
 obtain ⟨la,lc,rfl,_,_⟩:=hlx.r.shape
 have hvn:vs.length=n:=by rw [hlx.n,HN.out]
 rw [hvn] at hlx ⊢
 have HVN:Hid (vs.length=n):=hvn
 obtain ⟨V,hV⟩:∃ V:Nat→Prop,V=fun b=>w.heap.size≤b∧b<w1.heap.size∧(Value.slice la n lc).ownBlock≠some b:=⟨_,rfl⟩
 have HV:Hid (∀ b,V b↔(w.heap.size≤b∧b<w1.heap.size∧(Value.slice la n lc).ownBlock≠some b)):=fun b=>by rw [hV]
 have HT1:Hid (Two W w1 s r st sl st.D Ls.reverse (seenF 0 st.why) ⟨.slice da n dc,.slice oa m oc,.slice ea q9 ec,os⟩ V):=HT.out.grow hb1 (fun b q=>⟨.inr ((HV.out b).1 q).1,((HV.out b).1 q).2.1⟩)
 have HDU:Hid (∀ (i:Nat) c d,vs[i]? = some c→st.D[i]? = some d→Du (fun b=>¬V b) w1 c d):=fun i c d h1 h2=>(hlx.u i c d h1 h2).up (fun b hb=>by
  by_cases q1:(Value.slice la n lc).ownBlock=some b
  ·exact .inl (.inl q1)
  ·by_cases q2:b<w.heap.size
   ·exact .inl (.inr q2)
   ·by_cases q3:b<w1.heap.size
    ·exact absurd ((HV.out b).2 ⟨by omega,q3,q1⟩) hb
    ·exact .inr (by omega))
 have HOV:Hid (∀ g,(Value.slice la n lc).ownBlock=some g→¬V g):=fun g hg hv=>((HV.out g).1 hv).2.2 hg
 have HRW:Hid (Rw w1 37 (.slice la n lc) 6 vs):=hlx.r
 have HLN:Hid (vs.length=st.D.length):=hlx.n
 have HDS1:Hid (Ds w1 (.slice la n lc) st.D):=hlx.ds
 clear hlx hb1 hvn hV HT
 have HTB:Hid (∀ u,Below w1.heap.size w1 u→Two W u s r st sl st.D Ls.reverse (seenF 0 st.why) ⟨.slice da n dc,.slice oa m oc,.slice ea q9 ec,os⟩ V):=fun u hb=>HT1.out.below hb
 have HP0:Hid (Below w1.heap.size w1 w1.drew):=Below.drew (Below.refl _ _)
 obtain ⟨bd,hbd⟩:∃ z,decide (0<st.e)=z:=⟨_,rfl⟩
 have hbr:st.D.any reM=bd:=by
  rw [←hbd]
  cases hh:st.D.any reM
  ·symm;apply decide_eq_false;intro q;rw [HRE.out.1 q] at hh;cases hh
  ·symm;exact decide_eq_true (HRE.out.2 hh)
 have KSD:Hid (∀ u,Below w1.heap.size w1 u→Calls Tryz.prog 21 #[.slice la n lc,.slice da n dc] u fun e w'=>e = .returned (.bool true)∧Below u.heap.size u w'):=fun u hb=>same_doms (HDS1.out.below hb) (HTB.out u hb).b.ds HDZ.out (by have:=HDL.out;omega)
 have KLE:Hid (∀ u,Below w1.heap.size w1 u→Calls Tryz.prog 43 #[ptr s] u fun e w'=>e = .returned (.int .i64 n)∧Below u.heap.size u w'):=fun u hb=>(@len_any (gh _ u) u s st sl (HTB.out u hb).a HSZ.out).mono fun e w' ⟨h1,h2⟩=>⟨by rw [h1,HN.out],by rw [h2];exact Below.refl _ _⟩
 have KFA:Hid (∀ u,Below w1.heap.size w1 u→Calls Tryz.prog 16 #[ptr s] u fun e w'=>e = .returned (.bool bd)∧Below u.heap.size u w'):=fun u hb=>(@failed_any (gh _ u) u s st sl (HTB.out u hb).a).mono fun e w' ⟨h1,h2⟩=>⟨by rw [h1,hbd],by rw [h2];exact Below.refl _ _⟩
 have KFR:Hid (∀ u,Below w1.heap.size w1 u→Calls Tryz.prog 44 #[ptr r] u fun e w'=>e = .returned (.bool bd)∧Below u.heap.size u w'):=fun u hb=>(rfailed_any (HTB.out u hb).b (by have:=HDL.out;omega)).mono fun e w' ⟨h1,h2⟩=>⟨by rw [h1,hbr],h2⟩
 have KDE:Hid (∀ u,Below w1.heap.size w1 u→Calls Tryz.prog 22 #[ptr s] u fun e w'=>e = .returned (.int .i64 m)∧Below u.heap.size u w'):=fun u hb=>(@depthp_g (gh _ u) u s st sl (HTB.out u hb).a HSZ.out).mono fun e w' ⟨h1,h2⟩=>⟨by rw [h1,HML.out,HM.out],by rw [h2];exact Below.refl _ _⟩
 clear hbd hbr
 go_wp2_with fail
 refine wp_region_held_drew (S:=fun X:World=>Below w1.heap.size w1 X) (by kernel_rfl) (HP0.out) (fun hHeld=>?_)
 refine tkI 0 rfl hHeld ?_
 try simp only [Act.put,zS,eZ,eS]
 refine tkI 1 rfl hHeld ?_
 try simp only [Act.put,zS,eZ,eS]
 refine tkI 2 rfl hHeld ?_
 try simp only [Act.put,zS,eZ,eS]
 refine tkI 3 rfl hHeld ?_
 try simp only [Act.put,zS,eZ,eS]
 refine tkH 4 _ (v:=?_) hHeld ?_ ?_;rotate_left
 ·intro w hSw;obtain ⟨z0,z1,z2,zf⟩:=(HTB.out _ hSw).b.cells;(try dsimp only at z0 z1 z2);go_simp<;>with_reducible rfl
 try simp only [Act.put,zS,eZ,eS]
 refine rdy 5 rfl fun K hK=>?_
 go_simp
 refine (KSD.out _ HP0.out).mono ?_
 rintro e u1 ⟨rfl,hbu⟩
 have HP1:Hid (Below w1.heap.size w1 u1):=HP0.out.trans (hbu.mono HP0.out.size)
 clear hbu
 clear hHeld;refine hK.out _ _ (HP1.out) fun hHeld=>?_
 clear hK K
 try simp only [Act.put,zS,eZ,eS]
 refine tkI 6 rfl hHeld ?_
 try simp only [Act.put,zS,eZ,eS]
 refine tkI 7 rfl hHeld ?_
 try simp only [Act.put,zS,eZ,eS]
 refine tkI 8 rfl hHeld ?_
 try simp only [Act.put,zS,eZ,eS]
 refine tkI 10 rfl hHeld ?_
 try simp only [Act.put,zS,eZ,eS]
 refine tkI 11 rfl hHeld ?_
 try simp only [Act.put,zS,eZ,eS]
 refine tkI 12 rfl hHeld ?_
 try simp only [Act.put,zS,eZ,eS]
 refine tkH 13 _ (v:=?_) hHeld ?_ ?_;rotate_left
 ·intro w hSw;obtain ⟨z0,z1,z2,zf⟩:=(HTB.out _ hSw).b.cells;(try dsimp only at z0 z1 z2);go_simp<;>with_reducible rfl
 try simp only [Act.put,zS,eZ,eS]
 refine tkI 14 rfl hHeld ?_
 try simp only [Act.put,zS,eZ,eS]
 refine rdy 9 rfl fun K hK=>?_
 go_simp
 refine (KLE.out _ HP1.out).mono ?_
 rintro e u2 ⟨rfl,hbu⟩
 have HP2:Hid (Below w1.heap.size w1 u2):=HP1.out.trans (hbu.mono HP1.out.size)
 clear hbu
 clear hHeld;refine hK.out _ _ (HP2.out) fun hHeld=>?_
 clear hK K
 try simp only [Act.put,zS,eZ,eS]
 refine tkH 15 _ (v:=.bool false) hHeld ?_ ?_
 skip
 ·intro w hSw;go_simp<;>first | done | with_reducible rfl | simp
 try simp only [Act.put,zS,eZ,eS]
 refine tkI 16 rfl hHeld ?_
 try simp only [Act.put,zS,eZ,eS]
 refine tkI 17 rfl hHeld ?_
 try simp only [Act.put,zS,eZ,eS]
 refine tkI 18 rfl hHeld ?_
 try simp only [Act.put,zS,eZ,eS]
 refine tkI 20 rfl hHeld ?_
 try simp only [Act.put,zS,eZ,eS]
 refine rdy 19 rfl fun K hK=>?_
 go_simp
 refine (KFA.out _ HP2.out).mono ?_
 rintro e u3 ⟨rfl,hbu⟩
 have HP3:Hid (Below w1.heap.size w1 u3):=HP2.out.trans (hbu.mono HP2.out.size)
 clear hbu
 clear hHeld;refine hK.out _ _ (HP3.out) fun hHeld=>?_
 clear hK K
 try simp only [Act.put,zS,eZ,eS]
 refine rdy 21 rfl fun K hK=>?_
 go_simp
 refine (KFR.out _ HP3.out).mono ?_
 rintro e u4 ⟨rfl,hbu⟩
 have HP4:Hid (Below w1.heap.size w1 u4):=HP3.out.trans (hbu.mono HP3.out.size)
 clear hbu
 clear hHeld;refine hK.out _ _ (HP4.out) fun hHeld=>?_
 clear hK K
 try simp only [Act.put,zS,eZ,eS]
 refine tkH 22 _ (v:=.bool false) hHeld ?_ ?_
 skip
 ·intro w hSw;go_simp<;>first | done | with_reducible rfl | simp
 try simp only [Act.put,zS,eZ,eS]
 refine tkI 23 rfl hHeld ?_
 try simp only [Act.put,zS,eZ,eS]
 refine tkI 24 rfl hHeld ?_
 try simp only [Act.put,zS,eZ,eS]
 refine tkI 25 rfl hHeld ?_
 try simp only [Act.put,zS,eZ,eS]
 refine tkI 27 rfl hHeld ?_
 try simp only [Act.put,zS,eZ,eS]
 refine tkI 28 rfl hHeld ?_
 try simp only [Act.put,zS,eZ,eS]
 refine tkI 29 rfl hHeld ?_
 try simp only [Act.put,zS,eZ,eS]
 refine tkH 30 _ (v:=?_) hHeld ?_ ?_;rotate_left
 ·intro w hSw;obtain ⟨z0,z1,z2,zf⟩:=(HTB.out _ hSw).b.cells;(try dsimp only at z0 z1 z2);go_simp<;>with_reducible rfl
 try simp only [Act.put,zS,eZ,eS]
 refine tkI 31 rfl hHeld ?_
 try simp only [Act.put,zS,eZ,eS]
 refine rdy 26 rfl fun K hK=>?_
 go_simp
 refine (KDE.out _ HP4.out).mono ?_
 rintro e u5 ⟨rfl,hbu⟩
 have HP5:Hid (Below w1.heap.size w1 u5):=HP4.out.trans (hbu.mono HP4.out.size)
 clear hbu
 clear hHeld;refine hK.out _ _ (HP5.out) fun hHeld=>?_
 clear hK K
 try simp only [Act.put,zS,eZ,eS]
 refine tkH 32 _ (v:=.bool false) hHeld ?_ ?_
 skip
 ·intro w hSw;go_simp<;>first | done | with_reducible rfl | simp
 try simp only [Act.put,zS,eZ,eS]
 refine tkI 33 rfl hHeld ?_
 try simp only [Act.put,zS,eZ,eS]
 refine wpAnyH_done (by kernel_rfl) ?_ _
 have HT2:=hid (HTB.out _ HP5.out)
 have HRW2:=hid (HRW.out.keep fun g hg=>HP5.out.block g (HRW.out.lt hg))
 have HDU2:Hid (∀ (i:Nat) c d,vs[i]? = some c→st.D[i]? = some d→Du (fun b=>¬V b) u5 c d):=fun i c d h1 h2=>(HDU.out i c d h1 h2).below HP5.out
 clear KSD KLE KFA KFR KDE HP0 HP1 HP2 HP3 HP4 HP5 HTB HT1 HDU HRW HDS1 hHeld
 go_wp2
 go_loopw [8] (fun i wr=>∃ k:Nat,i = .int .i64 (k:Int)∧k≤n∧Hid (Sp V u5 wr)) (fun i _=>n-(intOf i).toNat)
 case atStart=>exact ⟨0,rfl,Nat.zero_le _,Sp.refl _ _⟩
 case round =>
  obtain ⟨k,rfl,hk,HSP⟩:=hrel
  by_cases hlt:k<n
  ·have hlt':(k:Int)<(n:Int):=by omega
   have hwk:IntKind.i64.wrap ((k:Int)+1)=(k:Int)+1:=by rw [IntKind.wrap_i64];have:=HN6.out;omega
   obtain ⟨c,hcx⟩:∃ c,vs[k]? = some c:=⟨_,List.getElem?_eq_getElem (by rw [HVN.out];exact hlt)⟩
   obtain ⟨d,hdx⟩:∃ d,st.D[k]? = some d:=⟨_,List.getElem?_eq_getElem (by rw [HN.out];exact hlt)⟩
   have HH:Hid (Held d):=HHE.out d (List.mem_of_getElem? hdx)
   have hdu:=HDU2.out k c d hcx hdx
   obtain ⟨b,ra,n0,rc,a1,n1,c1,a2,n2,c2,x,y,rfl,HE,_,_,_⟩:=hdu.dc.look
   have HRWr:=hid (HRW2.out.keep fun g hg=>HSP.out.k.block g (HRW2.out.lt hg) (HOV.out g hg))
   obtain ⟨g,cap,e1,hgl,hcap,hcm,hr,hth⟩:=HRWr.out.at hcx
   injection e1 with e1 e2 e3
   subst e1 e3
   obtain ⟨i0,i1,i2,i3,i4,i5⟩:=rng6 hr
   have kp:=spoil_u (V:=V) hdu (fun b _ q=>Classical.byContradiction q) HT2.out.vlt HSP.out (by have:=HH.out.n;omega) (by have:=HH.out.lo;omega) (by have:=HH.out.up;omega)
   clear hcx hdx hdu hgl hcap hcm hr hth e2 HE
   go_wp2_with fail
   refine kp.mono ?_
   clear kp i0 i1 i2 i3 i4 i5
   rintro e wn ⟨rfl,hsp⟩
   have HSPn:Hid (Sp V u5 wn):=hsp
   clear hsp
   go_wp2
   go_roundw
   case rel=>exact ⟨k+1,by go_num,by omega,HSPn⟩
   case measure=>simp [intOf];omega
  ·have hlt':¬(k:Int)<(n:Int):=by omega
   obtain rfl:k=n:=by omega
   have HT3:Hid (Two W wr s r st sl st.D Ls.reverse (seenF 0 st.why) ⟨.slice da k dc,.slice oa m oc,.slice ea q9 ec,os⟩ (fun _=>False)):=HT2.out.spoil HSP.out.k (fun b q=>q.elim)
   clear HSP HT2 HRW2 HDU2 HOV HVN HLN HV hlt hlt' hk
   obtain ⟨w3,hw3⟩:∃ z,wr=z:=⟨_,rfl⟩
   rw [hw3] at HT3 ⊢
   clear hw3 wr
   by_cases htb:thereB st v=false
   ·have kg:=@get_out (gh _ w3) w3 s st sl HT3.out.a HSZ.out v htb
    have hvr:v<0∨(k:Int)≤v:=by
     unfold thereB at htb
     simp at htb
     have:=HN.out
     omega
    have HTBV:Hid (thereB st v=false):=htb
    clear htb
    go_wp2_with fail
    refine kg.mono ?_
    clear kg
    rintro e w4 ⟨rfl,hb4⟩
    have HT4:=hid (HT3.out.below hb4)
    obtain ⟨bx,hbx⟩:∃ z,w4.heap.size=z:=⟨_,rfl⟩
    obtain ⟨w5,hw5⟩:∃ z,w4.alloc (Obj.cells #[.bool false,.slice none 0 0,.slice none 0 0,.slice none 0 0,.int .i64 0,.int .i64 0] 37)=z:=⟨_,rfl⟩
    have hb5:Below w4.heap.size w4 w5:=by rw [←hw5];exact (Below.refl _ _).alloc (Nat.le_refl _) _
    have HW5:Hid _:=hw5
    have HT5:=hid (HT4.out.below hb5)
    clear hw5 hb4 hb5
    have kv:=@value_out (gh _ w5) w5 s st sl HT5.out.a HSZ.out v HTBV.out
    go_upto_region 9 with (fail)
    rw [HW5.out]
    clear hbx
    go_wp2_with fail
    refine kv.mono ?_
    clear kv
    rintro e w6 ⟨rfl,hb6⟩
    have HT6:=hid (HT5.out.below hb6)
    have hb7:Below w6.heap.size w6 (w6.alloc (Obj.cells #[.bool false,.int .i64 0,.slice none 0 0] 57)):=(Below.refl _ _).alloc (Nat.le_refl _) _
    obtain ⟨w7,hw7⟩:∃ z,w6.alloc (Obj.cells #[.bool false,.int .i64 0,.slice none 0 0] 57)=z:=⟨_,rfl⟩
    rw [hw7] at hb7
    have HW7:Hid _:=hw7
    have HT7:=hid (HT6.out.below hb7)
    clear hb6 hb7 hw7
    obtain ⟨z0,z1,z2,zf⟩:=HT7.out.b.cells
    dsimp only at z0 z1 z2
    go_upto_region 10 with (fail)
    rw [HW7.out]
    by_cases hv0:v<0
    ·go_wp2
     go_ret
     exact ⟨rfl,HT7.out,HK.out⟩
    ·have hvk:(k:Int)≤v:=by omega
     go_wp2
     go_ret
     exact ⟨rfl,HT7.out,HK.out⟩
   ·have hvb:0≤v∧v<(k:Int):=by
     unfold thereB at htb
     simp at htb
     have:=HN.out
     omega
    obtain ⟨j,rfl⟩:∃ j:Nat,v=(j:Int):=⟨v.toNat,by omega⟩
    have hjk:j<k:=by omega
    have hjk':(j:Int)<(k:Int):=by omega
    have hj0:¬(j:Int)<0:=by omega
    obtain ⟨o,ho⟩:∃ o,st.D[j]? = some o:=⟨_,List.getElem?_eq_getElem (by rw [HN.out];exact hjk)⟩
    have HO:Hid (st.D[j]? = some o):=ho
    have HTO:Hid (Tt o):=HTT.out o (List.mem_of_getElem? ho)
    have HHO:Hid (Held o):=HHE.out o (List.mem_of_getElem? ho)
    have kg:=@get_x (gh _ w3) w3 s st sl HT3.out.a HSZ.out j o ho HHO.out
    clear htb ho hvb
    go_wp2_with fail
    refine kg.mono ?_
    clear kg
    rintro e w4 ⟨qc,rfl,hqc,hb4⟩
    have hU:=(hqc (fun b=>b<w3.heap.size) (fun b q=>q)).up (X':=fun b=>¬(w3.heap.size≤b∧b<w4.heap.size)) (fun b hb=>by
     by_cases q:b<w3.heap.size
     ·exact .inl q
     ·exact .inr (by omega))
    obtain ⟨V,hV⟩:∃ V:Nat→Prop,V=fun b=>w3.heap.size≤b∧b<w4.heap.size:=⟨_,rfl⟩
    have HV:Hid (∀ b,V b↔(w3.heap.size≤b∧b<w4.heap.size)):=fun b=>by rw [hV]
    have HU4:Hid (Du (fun b=>¬V b) w4 qc o):=by rw [hV];exact hU
    have HT4:Hid (Two W w4 s r st sl st.D Ls.reverse (seenF 0 st.why) ⟨.slice da k dc,.slice oa m oc,.slice ea q9 ec,os⟩ V):=HT3.out.grow hb4 (fun b q=>⟨.inr ((HV.out b).1 q).1,((HV.out b).1 q).2⟩)
    obtain ⟨ob,ora,on0,orc,oa1,on1,oc1,oa2,on2,oc2,ox,oy,rfl,HE',_,_,_⟩:=HU4.out.dc.look
    obtain ⟨bo,hbo⟩:∃ z,w4.heap.size=z:=⟨_,rfl⟩
    obtain ⟨w5,hw5⟩:∃ z,w4.alloc (Obj.cells #[.bool ob,.slice ora on0 orc,.slice oa1 on1 oc1,.slice oa2 on2 oc2,.int .i64 ox,.int .i64 oy] 37)=z:=⟨_,rfl⟩
    have hb5:Below w4.heap.size w4 w5:=by rw [←hw5];exact (Below.refl _ _).alloc (Nat.le_refl _) _
    have HBO5:Hid (Bx w5 bo #[.bool ob,.slice ora on0 orc,.slice oa1 on1 oc1,.slice oa2 on2 oc2,.int .i64 ox,.int .i64 oy] 37):=by rw [←hw5];exact Bx.new' hbo _ _
    have HW5:Hid _:=hw5
    have HBO:Hid (w4.heap.size=bo):=hbo
    have HT5:=hid (HT4.out.below hb5)
    have HU5:=hid (HU4.out.below hb5)
    clear hV hU hqc hb4 hbo hw5 hb5 HU4 HT4 HE'
    have kv:=@value_x (gh _ w5) w5 s st sl HT5.out.a HSZ.out j o HO.out HHO.out.f
    have HVL:=hid (vl_len HTO.out)
    obtain ⟨o2,ho2⟩:∃ z,onlyA o=z:=⟨_,rfl⟩
    obtain ⟨vm,hvm⟩:∃ z,vlM o=z:=⟨_,rfl⟩
    rw [ho2,hvm] at kv
    rw [hvm] at HVL
    have HO2:Hid _:=ho2
    have HVM:Hid _:=hvm
    clear ho2 hvm
    obtain ⟨v1,v2,v3⟩:=vm
    dsimp only at kv HVL
    go_upto_region 9 with (fail)
    rw [HW5.out]
    (try rw [HBO.out])
    go_wp2_with fail
    refine kv.mono ?_
    clear kv
    rintro e w6 ⟨p6,l6,k6,rfl,hsi6,hb6⟩
    have HT6:=hid (HT5.out.below hb6)
    have HU6:=hid (HU5.out.below hb6)
    have HBO6:=hid (HBO5.out.below hb6)
    obtain ⟨b7,hb7⟩:∃ z,w6.heap.size=z:=⟨_,rfl⟩
    obtain ⟨w7,hw7⟩:∃ z,w6.alloc (Obj.cells #[.bool v1,.int .i64 v2,.slice p6 l6 k6] 57)=z:=⟨_,rfl⟩
    have hbl7:Below w6.heap.size w6 w7:=by rw [←hw7];exact (Below.refl _ _).alloc (Nat.le_refl _) _
    have HBX7:Hid (Bx w7 b7 #[.bool v1,.int .i64 v2,.slice p6 l6 k6] 57):=by rw [←hw7];exact Bx.new' hb7 _ _
    have HW7:Hid _:=hw7
    have HBI7:Hid (w6.heap.size=b7):=hb7
    have HSI7:Hid (St.Si w7 (.slice p6 l6 k6) v3):=hsi6.below hbl7
    have HT7:=hid (HT6.out.below hbl7)
    have HU7:=hid (HU6.out.below hbl7)
    have HBO7:=hid (HBO6.out.below hbl7)
    clear hb6 hb7 hw7 hbl7 hsi6 HT5 HU5 HBO5 HT6 HU6 HBO6
    obtain ⟨z0,z1,z2,zf⟩:=HT7.out.b.cells
    dsimp only at z0 z1 z2
    have hds:=HT7.out.b.ds
    obtain ⟨g9,off9,e9,hg9,_,c0,c1,c2,c3,c4,c5,hDc,i0,i1,i2,i3,i4,i5⟩:=hds.at HO.out
    subst e9
    obtain ⟨eb,era,en0,erc,ea1,en1,ec1,ea2,en2,ec2,ex,ey,hcs,_,_,_,_⟩:=hDc.look
    simp only [List.cons.injEq,and_true] at hcs
    obtain ⟨rfl,rfl,rfl,rfl,rfl,rfl⟩:=hcs
    have kr:=rvalue_x hDc HHO.out.f
    rw [HO2.out,HVM.out] at kr
    have HDC7:Hid (Dc (fun _=>False) w7 [.bool eb,.slice era en0 erc,.slice ea1 en1 ec1,.slice ea2 en2 ec2,.int .i64 ex,.int .i64 ey] o):=hDc
    have HI7:Hid (w7.rangeAt g9 (off9+j*6) [.bool eb,.slice era en0 erc,.slice ea1 en1 ec1,.slice ea2 en2 ec2,.int .i64 ex,.int .i64 ey]):=by
     intro a u hu
     match a with
     | 0=>simp at hu;subst hu;exact i0
     | 1=>simp at hu;subst hu;exact i1
     | 2=>simp at hu;subst hu;exact i2
     | 3=>simp at hu;subst hu;exact i3
     | 4=>simp at hu;subst hu;exact i4
     | 5=>simp at hu;subst hu;exact i5
     | a+6=>simp at hu
    have HG9:Hid (g9<w7.heap.size):=hg9
    clear hDc hds hg9
    go_upto_region 10 with (fail)
    rw [HW7.out]
    (try rw [HBI7.out])
    go_wp2_with fail
    refine kr.mono ?_
    clear kr z0 z1 z2 zf i0 i1 i2 i3 i4 i5
    rintro e w8 ⟨p8,l8,k8,rfl,⟨hsi8,_⟩,hb8⟩
    obtain ⟨b9,hb9⟩:∃ z,w8.heap.size=z:=⟨_,rfl⟩
    obtain ⟨w9,hw9⟩:∃ z,w8.alloc (Obj.cells #[.bool v1,.int .i64 v2,.slice p8 l8 k8] 57)=z:=⟨_,rfl⟩
    have hbl9:Below w8.heap.size w8 w9:=by rw [←hw9];exact (Below.refl _ _).alloc (Nat.le_refl _) _
    have hb79:Below w7.heap.size w7 w9:=hb8.trans (hbl9.mono hb8.size)
    have HBX9:Hid (Bx w9 b9 #[.bool v1,.int .i64 v2,.slice p8 l8 k8] 57):=by rw [←hw9];exact Bx.new' hb9 _ _
    have HW9:Hid _:=hw9
    have HBI9:Hid (w8.heap.size=b9):=hb9
    have HSI9:Hid (St.Si w9 (.slice p8 l8 k8) v3):=hsi8.below hbl9
    have HSJ9:Hid (St.Si w9 (.slice p6 l6 k6) v3):=HSI7.out.below hb79
    have HBY9:=hid (HBX7.out.below hb79)
    have HBO9:=hid (HBO7.out.below hb79)
    have HU9:=hid (HU7.out.below hb79)
    have HT9:=hid (HT7.out.below hb79)
    have HD9:=hid (HDC7.out.below hb79)
    have HI9:Hid (∀ u,Below w9.heap.size w9 u→u.rangeAt g9 (off9+j*6) [.bool eb,.slice era en0 erc,.slice ea1 en1 ec1,.slice ea2 en2 ec2,.int .i64 ex,.int .i64 ey]):=fun u hu a x hx=>((hb79.trans (hu.mono hb79.size)).cell (p:=⟨g9,_,none⟩) HG9.out).trans (HI7.out a x hx)
    clear hb8 hb9 hw9 hbl9 hb79 hsi8 HT7 HU7 HBO7 HBX7 HDC7 HI7 HG9 HSI7
    have KON:Hid (∀ u,Below w9.heap.size w9 u→Calls Tryz.prog 25 #[.agg #[.bool ob,.slice ora on0 orc,.slice oa1 on1 oc1,.slice oa2 on2 oc2,.int .i64 ox,.int .i64 oy],.agg #[.bool eb,.slice era en0 erc,.slice ea1 en1 ec1,.slice ea2 en2 ec2,.int .i64 ex,.int .i64 ey]] u fun e w'=>e = .returned (.bool true)∧Below u.heap.size u w'):=fun u hb=>one_d (HU9.out.below hb).dc (HD9.out.below hb) (tt_szd HTO.out)
    have KSV:Hid (∀ u,Below w9.heap.size w9 u→Calls Tryz.prog 45 #[.agg #[.bool v1,.int .i64 v2,.slice p6 l6 k6],.agg #[.bool v1,.int .i64 v2,.slice p8 l8 k8]] u fun e w'=>e = .returned (.bool true)∧Below u.heap.size u w'):=fun u hb=>sameval_x (HSJ9.out.below hb) (HSI9.out.below hb) HVL.out
    have HTB9:Hid (∀ u,Below w9.heap.size w9 u→Two W u s r st sl st.D Ls.reverse (seenF 0 st.why) ⟨.slice (some ⟨g9,off9,none⟩) k dc,.slice oa m oc,.slice ea q9 ec,os⟩ V):=fun u hb=>HT9.out.below hb
    have HP0:Hid (Below w9.heap.size w9 w9.drew):=Below.drew (Below.refl _ _)
    go_upto_region 13 with (fail)
    rw [HW9.out]
    (try rw [HBI9.out])
    refine wp_region_held_drew (S:=fun X:World=>Below w9.heap.size w9 X) (by kernel_rfl) (HP0.out) (fun hHeld=>?_)
    refine tkI 0 rfl hHeld ?_
    try simp only [Act.put,zS,eZ,eS]
    refine tkI 1 rfl hHeld ?_
    try simp only [Act.put,zS,eZ,eS]
    refine tkI 2 rfl hHeld ?_
    try simp only [Act.put,zS,eZ,eS]
    refine tkH 3 _ (v:=?_) hHeld ?_ ?_;rotate_left
    ·intro w hSw;obtain ⟨u0,u1,u2,u3,u4,u5⟩:=(HBO9.out.below hSw).six;go_simp<;>with_reducible rfl
    try simp only [Act.put,zS,eZ,eS]
    refine tkI 4 rfl hHeld ?_
    try simp only [Act.put,zS,eZ,eS]
    refine tkI 5 rfl hHeld ?_
    try simp only [Act.put,zS,eZ,eS]
    refine tkI 6 rfl hHeld ?_
    try simp only [Act.put,zS,eZ,eS]
    refine tkH 7 _ (v:=?_) hHeld ?_ ?_;rotate_left
    ·intro w hSw;obtain ⟨z0,z1,z2,zf⟩:=(HTB9.out _ hSw).b.cells;(try dsimp only at z0 z1 z2);go_simp<;>with_reducible rfl
    try simp only [Act.put,zS,eZ,eS]
    refine tkI 8 rfl hHeld ?_
    try simp only [Act.put,zS,eZ,eS]
    refine tkI 9 rfl hHeld ?_
    try simp only [Act.put,zS,eZ,eS]
    refine tkH 10 _ (v:=?_) hHeld ?_ ?_;rotate_left
    ·intro w hSw;obtain ⟨i0,i1,i2,i3,i4,i5⟩:=rng6 (HI9.out _ hSw);go_simp<;>with_reducible rfl
    try simp only [Act.put,zS,eZ,eS]
    refine rdy 11 rfl fun K hK=>?_
    go_simp
    refine (KON.out _ HP0.out).mono ?_
    rintro e x1 ⟨rfl,hbu⟩
    have HP1:Hid (Below w9.heap.size w9 x1):=HP0.out.trans (hbu.mono HP0.out.size)
    clear hbu
    clear hHeld;refine hK.out _ _ (HP1.out) fun hHeld=>?_
    clear hK K
    try simp only [Act.put,zS,eZ,eS]
    refine tkI 12 rfl hHeld ?_
    try simp only [Act.put,zS,eZ,eS]
    refine tkI 13 rfl hHeld ?_
    try simp only [Act.put,zS,eZ,eS]
    refine tkI 14 rfl hHeld ?_
    try simp only [Act.put,zS,eZ,eS]
    refine tkI 15 rfl hHeld ?_
    try simp only [Act.put,zS,eZ,eS]
    refine tkH 16 _ (v:=.bool true) hHeld ?_ ?_
    skip
    ·intro w hSw;go_simp<;>first | done | with_reducible rfl | simp
    try simp only [Act.put,zS,eZ,eS]
    refine tkI 17 rfl hHeld ?_
    try simp only [Act.put,zS,eZ,eS]
    refine tkI 18 rfl hHeld ?_
    try simp only [Act.put,zS,eZ,eS]
    refine tkH 19 _ (v:=?_) hHeld ?_ ?_;rotate_left
    ·intro w hSw;obtain ⟨y0,y1,y2⟩:=(HBY9.out.below hSw).three;go_simp<;>with_reducible rfl
    try simp only [Act.put,zS,eZ,eS]
    refine tkH 20 _ (v:=?_) hHeld ?_ ?_;rotate_left
    ·intro w hSw;obtain ⟨y0,y1,y2⟩:=(HBX9.out.below hSw).three;go_simp<;>with_reducible rfl
    try simp only [Act.put,zS,eZ,eS]
    refine rdy 21 rfl fun K hK=>?_
    go_simp
    refine (KSV.out _ HP1.out).mono ?_
    rintro e x2 ⟨rfl,hbu⟩
    have HP2:Hid (Below w9.heap.size w9 x2):=HP1.out.trans (hbu.mono HP1.out.size)
    clear hbu
    clear hHeld;refine hK.out _ _ (HP2.out) fun hHeld=>?_
    clear hK K
    try simp only [Act.put,zS,eZ,eS]
    refine tkI 22 rfl hHeld ?_
    try simp only [Act.put,zS,eZ,eS]
    refine tkI 23 rfl hHeld ?_
    try simp only [Act.put,zS,eZ,eS]
    refine wpAnyH_done (by kernel_rfl) ?_ _
    clear hHeld
    have HT10:=hid (HTB9.out _ HP2.out)
    have HU10:=hid (HU9.out.below HP2.out)
    have HBO10:=hid (HBO9.out.below HP2.out)
    have kp:=spoil_u (V:=V) HU10.out (fun b _ q=>Classical.byContradiction q) HT10.out.vlt (Sp.refl V x2) (by have:=HHO.out.n;omega) (by have:=HHO.out.lo;omega) (by have:=HHO.out.up;omega)
    clear KON KSV HTB9 HT9 HU9 HBO9 HBY9 HBX9 HSI9 HSJ9 HD9 HI9 HP0 HP1 HP2 HW9 HBI9
    obtain ⟨u0,u1,u2,u3,u4,u5⟩:=HBO10.out.six
    go_wp2_with fail
    refine kp.mono ?_
    clear kp u0 u1 u2 u3 u4 u5
    rintro e w11 ⟨rfl,hsp⟩
    have HT11:=hid (HT10.out.spoil (V':=fun _=>False) hsp.k (fun b q=>q.elim))
    clear hsp HT10 HU10 HBO10 HV
    have ks:=@sol_x (gh _ w11) w11 s st sl HT11.out.a HSZ.out HFT.out
    obtain ⟨al,hal⟩:∃ z,st.D.all onlyA=z:=⟨_,rfl⟩
    obtain ⟨L,hL⟩:∃ z,solL st.D=z:=⟨_,rfl⟩
    have HLS:Hid (∀ x∈L,x.2.2.length*8≤140737488351232):=fun x hx=>by
     rw [←hL] at hx
     obtain ⟨o,h1,h2⟩:=sol_mem hx
     rw [h2]
     exact vl_len (HTT.out o h1)
    have HLN:Hid (L.length≤60):=by
     rw [Hid,←hL]
     unfold solL
     split
     ·rw [List.length_map];exact HDL.out
     ·exact Nat.zero_le _
    rw [hal,hL] at ks
    go_wp2_with fail
    refine ks.mono ?_
    clear ks
    rintro e w12 ⟨va,vas,rfl,hla,hb12⟩
    obtain ⟨sa,sc,rfl,_,_⟩:=hla.r.shape
    obtain ⟨nl,hnl⟩:∃ z,vas.length=z:=⟨_,rfl⟩
    rw [hnl] at hla ⊢
    have HNL:Hid (L.length=nl):=by rw [Hid,←hla.n,hnl]
    have HVS:Hid (vas.length=nl):=hnl
    have HT12:=hid (HT11.out.below hb12)
    have HLA:Hid (LV w11.heap.size w12 (.slice sa nl sc) L vas):=hla
    have kr:=rsol_x HT12.out.b (by have:=HDL.out;omega) HFT.out
    rw [hal,hL] at kr
    clear hal hL hla hb12 hnl
    go_wp2_with fail
    refine kr.mono ?_
    clear kr
    rintro e w13 ⟨vb,vbs,rfl,hlb,hb13⟩
    obtain ⟨ta,tc,rfl,_,_⟩:=hlb.r.shape
    have hnb:vbs.length=nl:=by rw [hlb.n,HNL.out]
    rw [hnb] at hlb ⊢
    have HVB:Hid (vbs.length=nl):=hnb
    have HT13:=hid (HT12.out.below hb13)
    have HLA3:Hid (LV w11.heap.size w13 (.slice sa nl sc) L vas):=HLA.out.below hb13
    have HLB3:Hid (LV w12.heap.size w13 (.slice ta nl tc) L vbs):=hlb
    have HNN:Hid (nl≤60):=by rw [Hid,←HNL.out];exact HLN.out
    clear hlb hb13 hnb HLA HT12 HT11
    go_wp2
    go_loopw [15,20] (fun sm i wr=>∃ k:Nat,sm = .bool true∧i = .int .i64 (k:Int)∧k≤nl∧Hid (Below w13.heap.size w13 wr)) (fun _ i _=>nl-(intOf i).toNat)
    case atStart=>exact ⟨0,rfl,rfl,Nat.zero_le _,Below.refl _ _⟩
    case round =>
     obtain ⟨k,rfl,rfl,hk,HB⟩:=hrel
     by_cases hlt:k<nl
     ·have hlt':(k:Int)<(nl:Int):=by omega
      have hwk:IntKind.i64.wrap ((k:Int)+1)=(k:Int)+1:=by rw [IntKind.wrap_i64];have:=HNN.out;omega
      obtain ⟨ca,hca⟩:∃ c,vas[k]? = some c:=⟨_,List.getElem?_eq_getElem (by rw [HVS.out];exact hlt)⟩
      obtain ⟨cb,hcb⟩:∃ c,vbs[k]? = some c:=⟨_,List.getElem?_eq_getElem (by rw [HVB.out];exact hlt)⟩
      obtain ⟨x,hx⟩:∃ x,L[k]? = some x:=⟨_,List.getElem?_eq_getElem (by rw [HNL.out];exact hlt)⟩
      have hxl:=HLS.out x (List.mem_of_getElem? hx)
      obtain ⟨pa,la2,ka,rfl,hsa⟩:=(HLA3.out.d k _ _ hca hx).look
      obtain ⟨pb,lb,kb,rfl,hsb⟩:=(HLB3.out.d k _ _ hcb hx).look
      obtain ⟨ga,capa,e1,hga,_,_,hra,_⟩:=HLA3.out.r.at hca
      injection e1 with e1 e2 e3
      subst e1 e3
      obtain ⟨gb,capb,e1,hgb,_,_,hrb,_⟩:=HLB3.out.r.at hcb
      injection e1 with e1 e2' e3
      subst e1 e3
      obtain ⟨x1,x2,x3⟩:=x
      dsimp only at hsa hsb hxl hra hrb
      have HRA:Hid (∀ u,Below wr.heap.size wr u→u.rangeAt ga (k*3) [.bool x1,.int .i64 x2,.slice pa la2 ka]):=fun u hu a x hx=>((HB.out.trans (hu.mono HB.out.size)).cell (p:=⟨ga,_,none⟩) hga).trans (hra a x hx)
      have HRB:Hid (∀ u,Below wr.heap.size wr u→u.rangeAt gb (k*3) [.bool x1,.int .i64 x2,.slice pb lb kb]):=fun u hu a x hx=>((HB.out.trans (hu.mono HB.out.size)).cell (p:=⟨gb,_,none⟩) hgb).trans (hrb a x hx)
      have KSV:Hid (∀ u,Below wr.heap.size wr u→Calls Tryz.prog 45 #[.agg #[.bool x1,.int .i64 x2,.slice pa la2 ka],.agg #[.bool x1,.int .i64 x2,.slice pb lb kb]] u fun e w'=>e = .returned (.bool true)∧Below u.heap.size u w'):=fun u hu=>sameval_x ((hsa.below HB.out).below hu) ((hsb.below HB.out).below hu) hxl
      have HP0:Hid (Below wr.heap.size wr wr.drew):=Below.drew (Below.refl _ _)
      clear hca hcb hx hxl hsa hsb hga hgb hra hrb e2 e2'
      go_upto_region 22 with (fail)
      refine wp_region_held_drew (S:=fun X:World=>Below wr.heap.size wr X) (by kernel_rfl) (HP0.out) (fun hHeld=>?_)
      refine tkI 0 rfl hHeld ?_
      try simp only [Act.put,zS,eZ,eS]
      refine tkI 1 rfl hHeld ?_
      try simp only [Act.put,zS,eZ,eS]
      refine tkI 2 rfl hHeld ?_
      try simp only [Act.put,zS,eZ,eS]
      refine tkI 3 rfl hHeld ?_
      try simp only [Act.put,zS,eZ,eS]
      refine tkI 4 rfl hHeld ?_
      try simp only [Act.put,zS,eZ,eS]
      refine tkH 5 _ (v:=?_) hHeld ?_ ?_;rotate_left
      ·intro w hSw;obtain ⟨y0,y1,y2⟩:=rng3 (HRA.out _ hSw);go_simp<;>with_reducible rfl
      try simp only [Act.put,zS,eZ,eS]
      refine tkI 6 rfl hHeld ?_
      try simp only [Act.put,zS,eZ,eS]
      refine tkI 7 rfl hHeld ?_
      try simp only [Act.put,zS,eZ,eS]
      refine tkI 8 rfl hHeld ?_
      try simp only [Act.put,zS,eZ,eS]
      refine tkH 9 _ (v:=?_) hHeld ?_ ?_;rotate_left
      ·intro w hSw;obtain ⟨y0,y1,y2⟩:=rng3 (HRB.out _ hSw);go_simp<;>with_reducible rfl
      try simp only [Act.put,zS,eZ,eS]
      refine rdy 10 rfl fun K hK=>?_
      go_simp
      refine (KSV.out _ HP0.out).mono ?_
      rintro e y1 ⟨rfl,hbu⟩
      have HP1:Hid (Below wr.heap.size wr y1):=HP0.out.trans (hbu.mono HP0.out.size)
      clear hbu
      clear hHeld;refine hK.out _ _ (HP1.out) fun hHeld=>?_
      clear hK K
      try simp only [Act.put,zS,eZ,eS]
      refine tkI 11 rfl hHeld ?_
      try simp only [Act.put,zS,eZ,eS]
      refine tkI 12 rfl hHeld ?_
      try simp only [Act.put,zS,eZ,eS]
      refine wpAnyH_done (by kernel_rfl) ?_ _
      clear hHeld
      have HBn:Hid (Below w13.heap.size w13 y1):=HB.out.trans (HP1.out.mono HB.out.size)
      go_wp2
      go_roundw
      case rel=>exact ⟨k+1,rfl,by go_num,by omega,HBn⟩
      case measure=>simp [intOf];omega
     ·have hlt':¬(k:Int)<(nl:Int):=by omega
      obtain rfl:k=nl:=by omega
      have HT14:=hid (HT13.out.below HB.out)
      go_wp2
      go_ret
      exact ⟨rfl,HT14.out,HK.out⟩
end Go.Proofs.YtghnfnieppfhgaaGreat
