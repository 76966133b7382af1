/- What is proved here: the mathematics of StoreMeets: what is in both is the greatest that lies within both; what Narrow keeps of a store. What is proved here: the mathematics of StoreTells: what is told of a variable. What is proved here: the mathematics of StoreBack: what is saved of each depth brings the domains back. -/
import Derived.Test.YtghnfnieppfhgaaGreatMgj
import Derived.Test.YtghnfnieppfhgaaGreatMhj
import Derived.Test.YtghnfnieppfhgaaGreatFdj
import Derived.Test.YtghnfnieppfhgaaGreatMbj
set_option linter.unusedVariables false
set_option linter.unusedSimpArgs false
namespace Go.Proofs.YtghnfnieppfhgaaGreat
open Go.RowKit Go.Shelf
theorem tight_idem {lo up:List Int} (least most:Int) (h1:St.IsSet lo) (h2:St.IsSet up) (hs:∀ x∈lo,x∈up):St.takenD (St.tightD lo up least most)=St.tightD lo up least most:=by
 have hR:=St.tight_right least most h1 h2 hs
 have e:St.takenD (St.tightD lo up least most)=St.tightD (St.tightD lo up least most).lo (St.tightD lo up least most).up (St.tightD lo up least most).least (St.tightD lo up least most).most:=by
  unfold St.takenD;rw [if_pos hR]
 rw [e]
 rcases St.tight_cases2 least most h1 h2 hs with ⟨q,a⟩ | ⟨q,a,b⟩ | ⟨q,a,b,c⟩ | ⟨q,a,b,c,f⟩
 ·rw [q];exact St.tight_none (by decide)
 ·rw [q]
  exact St.tight_top h2 h2 (fun _ h=>h) (by show max (up.length:Int) up.length=up.length;omega) (Int.le_refl _)
 ·rw [q]
  exact St.tight_bot h1 h1 (fun _ h=>h) (Int.le_refl _) (by show min (lo.length:Int) lo.length=lo.length;omega)
 ·rw [q]
  show St.tightD lo up (max least lo.length) (min most up.length)=_
  rcases St.tight_cases2 (max least lo.length) (min most up.length) h1 h2 hs with ⟨q2,a2⟩ | ⟨q2,a2,b2⟩ | ⟨q2,a2,b2,c2⟩ | ⟨q2,a2,b2,c2,f2⟩
  ·omega
  ·omega
  ·omega
  ·rw [q2]
   unfold St.TD
   congr 1<;>omega
theorem tight_look {C:St.SD} (ht:St.takenD C=C) (he:St.emptyD C=false):St.RightD C∧(C.lo.length:Int)≤C.least∧C.least≤C.most∧C.most≤C.up.length∧(C.lo=C.up∨(C.least≠C.up.length∧C.most≠C.lo.length)):=by
 obtain ⟨hR,h1,h2,h3⟩:=St.empty_no he
 refine ⟨hR,h2,h1,h3,?_⟩
 have e:C=St.tightD C.lo C.up C.least C.most:=by
  have:St.takenD C=St.tightD C.lo C.up C.least C.most:=by unfold St.takenD;rw [if_pos hR]
  rw [←this,ht]
 rcases St.tight_cases2 C.least C.most hR.2.2.1 hR.2.2.2.1 (St.right_sub hR) with ⟨q,a⟩ | ⟨q,a,b⟩ | ⟨q,a,b,c⟩ | ⟨q,a,b,c,f⟩
 ·omega
 ·left
  have:C=St.TD C.up C.up C.up.length C.up.length:=e.trans q
  have:=congrArg St.SD.lo this
  exact this
 ·left
  have:C=St.TD C.lo C.lo C.lo.length C.lo.length:=e.trans q
  have:=congrArg St.SD.up this
  exact this.symm
 ·right
  omega
theorem meet_le {C A B:St.SD} (ht:St.takenD C=C) (he:St.emptyD C=false) (hA:St.RightD A) (hB:St.RightD B) (h1:LeD C A) (h2:LeD C B):St.emptyD (St.bothG A B)=false∧LeD C (St.bothG A B):=by
 obtain ⟨hR,c1,c2,c3,c4⟩:=tight_look ht he
 have hj:∀ x∈St.joinL A.lo B.lo,x∈C.lo:=fun x hx=>((St.join_mem _ _ _).1 hx).elim (h1.lo x) (h2.lo x)
 have hm:∀ x∈C.up,x∈St.meetL A.up B.up:=fun x hx=>(St.meet_mem _ _ _).2 ⟨h1.up x hx,h2.up x hx⟩
 have hsub:∀ x∈St.joinL A.lo B.lo,x∈St.meetL A.up B.up:=fun x hx=>hm x (St.right_sub hR x (hj x hx))
 have sm:=St.meet_set hA.2.2.2.1 B.up
 have sj:=St.join_set hA.2.2.1 hB.2.2.1 sm hsub
 have l1:=St.set_sub_len sj hR.2.2.1 hj
 have l2:=St.set_sub_len hR.2.2.2.1 sm hm
 have g1:=h1.least
 have g2:=h2.least
 have g3:=h1.most
 have g4:=h2.most
 have e:St.bothG A B=St.tightD (St.joinL A.lo B.lo) (St.meetL A.up B.up) (max A.least B.least) (min A.most B.most):=by
  unfold St.bothG
  rw [if_pos ((St.subB_iff _ _).2 hsub)]
 have hRt:=St.tight_right (max A.least B.least) (min A.most B.most) sj sm hsub
 rw [e]
 have ne:∀ T:St.SD,St.tightD (St.joinL A.lo B.lo) (St.meetL A.up B.up) (max A.least B.least) (min A.most B.most)=T→T.least≤T.most→St.emptyD (St.tightD (St.joinL A.lo B.lo) (St.meetL A.up B.up) (max A.least B.least) (min A.most B.most))=false:=fun T q hT=>by
  unfold St.emptyD St.rightD
  simp only [Bool.or_eq_false_iff,Bool.not_eq_false',decide_eq_true_eq,decide_eq_false_iff_not]
  exact ⟨hRt,by rw [q];omega⟩
 rcases St.tight_cases2 (max A.least B.least) (min A.most B.most) sj sm hsub with ⟨q,a⟩ | ⟨q,a,b⟩ | ⟨q,a,b,c⟩ | ⟨q,a,b,c,f⟩
 ·omega
 ·refine ⟨ne _ q (Int.le_refl _),?_⟩
  rw [q]
  have eup:C.up=St.meetL A.up B.up:=St.set_sub_eq hR.2.2.2.1 sm hm (by omega)
  have elo:C.lo=C.up:=by
   rcases c4 with h | h
   ·exact h
   ·rw [eup] at h;omega
  refine ⟨fun x hx=>by rw [elo,eup];exact hx,hm,?_,?_⟩
  ·show ((St.meetL A.up B.up).length:Int)≤C.least;omega
  ·show C.most≤((St.meetL A.up B.up).length:Int);rw [←eup];exact c3
 ·refine ⟨ne _ q (Int.le_refl _),?_⟩
  rw [q]
  have elo:St.joinL A.lo B.lo=C.lo:=St.set_sub_eq sj hR.2.2.1 hj (by omega)
  have eup:C.lo=C.up:=by
   rcases c4 with h | h
   ·exact h
   ·rw [←elo] at h;omega
  refine ⟨hj,fun x hx=>by rw [elo,eup];exact hx,?_,?_⟩
  ·show ((St.joinL A.lo B.lo).length:Int)≤C.least;rw [elo];exact c1
  ·show C.most≤((St.joinL A.lo B.lo).length:Int);omega
 ·refine ⟨ne _ q (by show max (max A.least B.least) ((St.joinL A.lo B.lo).length:Int)≤min (min A.most B.most) ((St.meetL A.up B.up).length:Int);omega),?_⟩
  rw [q]
  refine ⟨hj,hm,?_,?_⟩
  ·show max (max A.least B.least) ((St.joinL A.lo B.lo).length:Int)≤C.least;omega
  ·show C.most≤min (min A.most B.most) ((St.meetL A.up B.up).length:Int);omega
theorem both_below {A B:St.SD} (hA:St.RightD A) (hB:St.RightD B) (he:St.emptyD (St.bothG A B)=false):LeD (St.bothG A B) A∧LeD (St.bothG A B) B:=by
 unfold St.bothG at he ⊢
 split at he
 ·rename_i hsub
  rw [if_pos hsub]
  have hsub':=(St.subB_iff _ _).1 hsub
  have sm:=St.meet_set hA.2.2.2.1 B.up
  have sj:=St.join_set hA.2.2.1 hB.2.2.1 sm hsub'
  exact ⟨tight_le sj sm hsub' he (fun x hx=>(St.join_mem _ _ _).2 (.inl hx)) (fun x hx=>((St.meet_mem _ _ _).1 hx).1) (by omega) (by omega),
   tight_le sj sm hsub' he (fun x hx=>(St.join_mem _ _ _).2 (.inr hx)) (fun x hx=>((St.meet_mem _ _ _).1 hx).2) (by omega) (by omega)⟩
 ·rw [St.empty_none] at he;cases he
theorem leD_eq {A B:St.SD} (hA:St.RightD A) (hB:St.RightD B) (h:LeD A B) (k:LeD B A):A=B:=by
 have e1:A.lo=B.lo:=St.set_ext hA.2.2.1 hB.2.2.1 fun x=>⟨k.lo x,h.lo x⟩
 have e2:A.up=B.up:=St.set_ext hA.2.2.2.1 hB.2.2.2.1 fun x=>⟨h.up x,k.up x⟩
 have e3:A.least=B.least:=Int.le_antisymm k.least h.least
 have e4:A.most=B.most:=Int.le_antisymm h.most k.most
 have e5:A.set=B.set:=hA.1.trans hB.1.symm
 have e6:A.rn=B.rn:=hA.2.1.trans hB.2.1.symm
 cases A
 cases B
 simp only at e1 e2 e3 e4 e5 e6
 subst e1 e2 e3 e4 e5 e6
 rfl
structure Tt (x : MD) : Prop where
 r:rightM x=true
 t:x.set=true→St.takenD (sdM x)=sdM x
theorem sd_of {s:St.SD} (h:St.RightD s):sdM (ofSD s)=s:=by
 cases s
 have h2:=h.2.1
 simp only at h2
 simp [sdM,ofSD,h2]
theorem md_of {x:MD} (hs:x.set=true) (hr:rightM x=true):ofSD (sdM x)=x∧St.RightD (sdM x):=by
 have hw:St.rightD (sdM x)=true:=by unfold rightM at hr;rwa [if_pos hs] at hr
 have hR:St.RightD (sdM x):=by unfold St.rightD at hw;simpa using hw
 have h0:x.r=[]:=List.length_eq_zero_iff.1 hR.2.1
 refine ⟨?_,hR⟩
 cases x
 simp only at h0
 subst h0
 rfl
theorem num_of {x:MD} (hs:x.set=false) (hr:rightM x=true):Dm.Right x.r∧x=⟨false,x.r,[],[],0,0⟩:=by
 have hw:rightW x=true:=by unfold rightM at hr;rwa [if_neg (by rw [hs];decide)] at hr
 unfold rightW at hw
 simp only [Bool.and_eq_true,decide_eq_true_eq] at hw
 obtain ⟨⟨⟨⟨w1,w2⟩,w3⟩,w4⟩,w5⟩:=hw
 have e1:x.lo=[]:=List.length_eq_zero_iff.1 w2
 have e2:x.up=[]:=List.length_eq_zero_iff.1 w3
 refine ⟨by unfold Dm.rightB at w1;simpa using w1,?_⟩
 cases x
 simp only at hs e1 e2 w4 w5
 subst hs e1 e2 w4 w5
 rfl
theorem bothD_idem (a b:St.SD):St.takenD (St.bothD a b)=St.bothD a b:=by
 rw [St.bothD_G]
 have hA:=St.taken_right a
 have hB:=St.taken_right b
 unfold St.bothG
 split
 ·rename_i hsub
  have hsub':=(St.subB_iff _ _).1 hsub
  have hm:=St.meet_set hA.2.2.2.1 (St.takenD b).up
  exact tight_idem _ _ (St.join_set hA.2.2.1 hB.2.2.1 hm hsub') hm hsub'
 ·exact (St.empty_yes St.empty_none).1
theorem both_tt {o d:MD} (ho:rightM o=true):Tt (bothA o d):=by
 refine ⟨(both_held ho).r,fun hs=>?_⟩
 rw [bothA_set] at hs
 have e:bothA o d=ofSD (St.bothD (sdM o) (sdM d)):=by unfold bothA;rw [if_pos hs]
 rw [e,sd_of (bothD_right _ _)]
 exact bothD_idem _ _
theorem empty_sd {x:MD} (hs:x.set=true) (hr:rightM x=true):emptyA x=St.emptyD (sdM x):=by
 have hR:=(md_of hs hr).2
 unfold emptyA St.emptyD St.rightD
 rw [if_pos hs,decide_eq_true hR]
 rfl
theorem both_vals {a b:MD} (ha:Dm.Right a.r) (hb:Dm.Right b.r) (hl:a.r.length+b.r.length≤4096) (v:Int):v∈Dm.vals (Dm.bothR a.r b.r)↔v∈Dm.vals a.r∧v∈Dm.vals b.r:=by
 have:=Dm.ov_len (Dm.tk a.r) (Dm.tk b.r)
 rw [Dm.tk_yes ha,Dm.tk_yes hb] at this
 unfold Dm.bothR
 rw [Dm.tk_yes ha,Dm.tk_yes hb,if_pos (by omega)]
 exact (Dm.ov_facts (Dm.right_ord ha).1 (Dm.right_ord hb).1).2 v
theorem ml {o d:MD} (ho:rightM o=true) (hd:rightM d=true) (hk:o.set=d.set) (hl:o.r.length+d.r.length≤4096) (he:emptyA (bothA o d)=false):LeA (bothA o d) o∧LeA (bothA o d) d:=by
 cases hs:o.set
 ·have no:=num_of hs ho
  have nd:=num_of (by rw [←hk];exact hs) hd
  have e:bothA o d=bothW o d:=by unfold bothA;rw [if_neg (by rw [hs];decide)]
  have hRb:=bothR_right o.r d.r
  rw [e]
  refine ⟨⟨hs.symm,?_⟩,⟨by rw [←hk];exact hs.symm,?_⟩⟩
  ·show ∀ x∈Dm.vals (Dm.tk (Dm.bothR o.r d.r)),x∈Dm.vals (Dm.tk o.r)
   intro x hx
   rw [Dm.tk_yes hRb] at hx
   rw [Dm.tk_yes no.1]
   exact ((both_vals no.1 nd.1 hl x).1 hx).1
  ·show ∀ x∈Dm.vals (Dm.tk (Dm.bothR o.r d.r)),x∈Dm.vals (Dm.tk d.r)
   intro x hx
   rw [Dm.tk_yes hRb] at hx
   rw [Dm.tk_yes nd.1]
   exact ((both_vals no.1 nd.1 hl x).1 hx).2
 ·have e:bothA o d=ofSD (St.bothD (sdM o) (sdM d)):=by unfold bothA;rw [if_pos hs]
  have hB:=bothD_right (sdM o) (sdM d)
  have eb:=sd_of hB
  have hs':(ofSD (St.bothD (sdM o) (sdM d))).set=true:=hB.1
  have hr':rightM (ofSD (St.bothD (sdM o) (sdM d)))=true:=(ofSD_held hB).r
  rw [e] at he ⊢
  rw [empty_sd hs' hr',eb,St.bothD_G] at he
  have q:=both_below (St.taken_right _) (St.taken_right _) he
  rw [←St.bothD_G] at q
  refine ⟨⟨hs'.trans hs.symm,?_⟩,⟨hs'.trans (by rw [←hk];exact hs.symm),?_⟩⟩
  ·rw [if_pos hs',eb,bothD_idem];exact q.1
  ·rw [if_pos hs',eb,bothD_idem];exact q.2
theorem same_eq {x y:MD} (hx:Tt x) (hy:Tt y) (hk:x.set=y.set) (h:sameA x y=true):x=y:=by
 unfold sameA at h
 cases hs:x.set
 ·rw [hs] at h
  simp only [Bool.false_eq_true,if_false,decide_eq_true_eq] at h
  have nx:=num_of hs hx.r
  have ny:=num_of (by rw [←hk];exact hs) hy.r
  rw [Dm.tk_yes nx.1,Dm.tk_yes ny.1] at h
  rw [nx.2,ny.2,h]
 ·have hys:y.set=true:=by rw [←hk];exact hs
  rw [hs] at h
  simp only [if_true] at h
  unfold St.sameD St.eqD at h
  rw [hx.t hs,hy.t hys] at h
  simp only [Bool.and_eq_true,decide_eq_true_eq] at h
  obtain ⟨⟨⟨h1,h2⟩,h3⟩,h4⟩:=h
  have e:sdM x=sdM y:=leD_eq (md_of hs hx.r).2 (md_of hys hy.r).2 ⟨fun z hz=>by rw [h1];exact hz,fun z hz=>by rw [←h2];exact hz,by omega,by omega⟩ ⟨fun z hz=>by rw [←h1];exact hz,fun z hz=>by rw [h2];exact hz,by omega,by omega⟩
  rw [←(md_of hs hx.r).1,←(md_of hys hy.r).1,e]
theorem self_ne {d:MD} (hd:rightM d=true) (he:emptyA d=false):emptyA (bothA d d)=false:=by
 cases hs:d.set
 ·have nd:=num_of hs hd
  have e:bothA d d=bothW d d:=by unfold bothA;rw [if_neg (by rw [hs];decide)]
  have hb:Dm.bothR d.r d.r=d.r:=both_num nd.1 hs (LeA.refl d)
  have hp:=num_pos he hs
  rw [e]
  unfold emptyA emptyW bothW
  simp only [Bool.false_eq_true,if_false,hb]
  exact decide_eq_false (by omega)
 ·have hR:=(md_of hs hd).2
  have hB:=bothD_right (sdM d) (sdM d)
  have e:bothA d d=ofSD (St.bothD (sdM d) (sdM d)):=by unfold bothA;rw [if_pos hs]
  rw [e,empty_sd hB.1 (ofSD_held hB).r,sd_of hB,St.bothD_G]
  rw [empty_sd hs hd] at he
  have hidem:St.takenD (St.takenD (sdM d))=St.takenD (sdM d):=by
   have:St.takenD (sdM d)=St.tightD (sdM d).lo (sdM d).up (sdM d).least (sdM d).most:=by unfold St.takenD;rw [if_pos hR]
   rw [this]
   exact tight_idem _ _ hR.2.2.1 hR.2.2.2.1 (St.right_sub hR)
  exact (meet_le hidem (taken_not he) (St.taken_right _) (St.taken_right _) (LeD.refl _) (LeD.refl _)).1
theorem both_left {o d:MD} (ho:rightM o=true) (he:emptyA (bothA o d)=false):LeA (bothA o d) o:=by
 cases hs:o.set
 ·have no:=num_of hs ho
  have e:bothA o d=bothW o d:=by unfold bothA;rw [if_neg (by rw [hs];decide)]
  have hRb:=bothR_right o.r d.r
  rw [e]
  refine ⟨hs.symm,?_⟩
  show ∀ x∈Dm.vals (Dm.tk (Dm.bothR o.r d.r)),x∈Dm.vals (Dm.tk o.r)
  intro x hx
  rw [Dm.tk_yes hRb] at hx
  unfold Dm.bothR at hx
  split at hx
  ·exact ((Dm.ov_facts (Dm.right_ord (Dm.tk_right o.r)).1 (Dm.right_ord (Dm.tk_right d.r)).1).2 x |>.1 hx).1
  ·exact hx
 ·have e:bothA o d=ofSD (St.bothD (sdM o) (sdM d)):=by unfold bothA;rw [if_pos hs]
  have hB:=bothD_right (sdM o) (sdM d)
  have eb:=sd_of hB
  have hs':(ofSD (St.bothD (sdM o) (sdM d))).set=true:=hB.1
  have hr':rightM (ofSD (St.bothD (sdM o) (sdM d)))=true:=(ofSD_held hB).r
  rw [e] at he ⊢
  rw [empty_sd hs' hr',eb,St.bothD_G] at he
  have q:=both_below (St.taken_right _) (St.taken_right _) he
  rw [←St.bothD_G] at q
  refine ⟨hs'.trans hs.symm,?_⟩
  rw [if_pos hs',eb,bothD_idem];exact q.1
theorem re_empty {x:MD} (h:rightM x=true):reM x=emptyA x:=by
 cases hs:x.set
 ·unfold reM emptyA emptyW
  rw [if_neg (by rw [hs];decide),if_neg (by rw [hs];decide)]
 ·rw [empty_sd hs h]
  unfold reM
  rw [if_pos hs]
def unG {α β:Type} (ix:β→Nat) (g:β→α) (l:List β) (D:List α):List α:=l.foldl (fun D t=>D.set (ix t) (g t)) D
section
variable {α β : Type} {ix : β → Nat} {g : β → α}
theorem unG_cons (t:β) (l:List β) (D:List α):unG ix g (t :: l) D=unG ix g l (D.set (ix t) (g t)):=rfl
theorem unG_snoc (l:List β) (t:β) (D:List α):unG ix g (l++[t]) D=(unG ix g l D).set (ix t) (g t):=by simp [unG]
theorem unG_len:∀ (l:List β) (D:List α),(unG ix g l D).length=D.length
 | [],D=>rfl
 | t :: l,D=>by rw [unG_cons,unG_len l];simp
theorem unG_out {v:Nat}:∀ (l:List β) (D:List α) (x:α),(∀ t∈l,ix t≠v)→unG ix g l (D.set v x)=(unG ix g l D).set v x∧(unG ix g l D)[v]? = D[v]?
 | [],D,x,_=>⟨rfl,rfl⟩
 | t :: l,D,x,h=>by
  have h1:=h t (by simp)
  have ih:=unG_out l (D.set (ix t) (g t)) x (fun s hs=>h s (by simp [hs]))
  rw [unG_cons,unG_cons]
  refine ⟨?_,?_⟩
  ·rw [List.set_comm _ _ h1.symm];exact ih.1
  ·rw [ih.2,List.getElem?_set_ne h1]
theorem unG_mem {v:Nat}:∀ (l:List β) (D:List α) (x:α),(∃ t∈l,ix t=v)→unG ix g l (D.set v x)=unG ix g l D
 | [],D,x,h=>by obtain ⟨t,ht,_⟩:=h;cases ht
 | t :: l,D,x,h=>by
  rw [unG_cons,unG_cons]
  by_cases h1:ix t=v
  ·subst h1;rw [List.set_set]
  ·rw [List.set_comm _ _ (Ne.symm h1)]
   obtain ⟨s,hs,he⟩:=h
   rcases List.mem_cons.1 hs with rfl | hs
   ·exact absurd he h1
   ·exact unG_mem l _ x ⟨s,hs,he⟩
end
theorem set_self {α:Type} {D:List α} {v:Nat} {x:α} (h:D[v]? = some x):D.set v x=D:=by
 apply List.ext_getElem?
 intro i
 by_cases hi:v=i
 ·subst hi;rw [List.getElem?_set_self (List.getElem?_eq_some_iff.1 h).1,h]
 ·rw [List.getElem?_set_ne hi]
abbrev K3:=Int × MD × Int
def undD (l:List K3) (D:List MD):List MD:=unG (fun t:K3=>t.1.toNat) (fun t=>t.2.1) l D
def undS (l:List K3) (S:List Int):List Int:=unG (fun t:K3=>t.1.toNat) (fun t=>t.2.2) l S
structure Fr where
 D:List MD
 S:List Int
 seg:List K3
def sav:List Fr→List K3
 | []=>[]
 | f :: fr=>sav fr++f.seg
def mrk:List Fr→List Int
 | []=>[]
 | f :: fr=>mrk fr++[((sav fr).length:Int)]
theorem mrk_len:∀ fr:List Fr,(mrk fr).length=fr.length
 | []=>rfl
 | f :: fr=>by simp [mrk,mrk_len fr]
structure Fok (n : Nat) (dep : Nat) (D : List MD) (S : List Int) (f : Fr) : Prop where
 ix:∀ t∈f.seg,0≤t.1∧t.1<n
 d:undD f.seg D=f.D
 s:undS f.seg S=f.S
 m:∀ v:Nat,S.getD v 0=(dep:Int)↔∃ t∈f.seg,t.1.toNat=v
 le:∀ v:Nat,S.getD v 0≤(dep:Int)
def J (n:Nat):List MD→List Int→List Fr→Prop
 | _,S,[]=>∀ v:Nat,S.getD v 0=0
 | D,S,f :: fr=>Fok n (fr.length+1) D S f∧J n f.D f.S fr
theorem J.le {n:Nat} {D:List MD} {S:List Int} {fr:List Fr} (h:J n D S fr) (v:Nat):S.getD v 0≤(fr.length:Int):=by
 cases fr with
 | nil=>have:=h v;simp only [List.length_nil];omega
 | cons f fr=>have:=h.1.le v;simpa using this
def emS (D:List MD):Int:=(D.map fun d=>emptI (emptyA d)).sum
theorem emS_bd:∀ D:List MD,0≤emS D∧emS D≤D.length
 | []=>by simp [emS]
 | d :: D=>by
  have h1:=emS_bd D
  have h2:=emptI_01 (emptyA d)
  unfold emS at h1 ⊢
  simp only [List.map_cons,List.sum_cons,List.length_cons]
  omega
theorem emS_zero:∀ {D:List MD},emS D=0→∀ o∈D,emptyA o=false
 | [],_,o,ho=>by cases ho
 | d :: D,h,o,ho=>by
  have h1:=emS_bd D
  have h2:=emptI_01 (emptyA d)
  have h3:emS (d :: D)=emptI (emptyA d)+emS D:=by simp [emS]
  rw [h3] at h
  rcases List.mem_cons.1 ho with rfl | ho
  ·have h4:emptI (emptyA o)=0:=by omega
   cases he:emptyA o
   ·rfl
   ·rw [he] at h4;simp [emptI] at h4
  ·exact emS_zero (by omega) o ho
theorem emS_set:∀ {D:List MD} {v:Nat} {o:MD} (x:MD),D[v]? = some o→emS (D.set v x)=emS D+(emptI (emptyA x)-emptI (emptyA o))
 | [],v,o,x,h=>by cases h
 | d :: D,0,o,x,h=>by
  injection h with h
  subst h
  have e1:emS (x :: D)=emptI (emptyA x)+emS D:=by simp [emS]
  have e2:emS (d :: D)=emptI (emptyA d)+emS D:=by simp [emS]
  rw [List.set_cons_zero,e1,e2]
  omega
 | d :: D,v+1,o,x,h=>by
  have ih:=emS_set (D:=D) (v:=v) x h
  have e1:emS (d :: D.set v x)=emptI (emptyA d)+emS (D.set v x):=by simp [emS]
  have e2:emS (d :: D)=emptI (emptyA d)+emS D:=by simp [emS]
  rw [List.set_cons_succ,e1,e2,ih]
  omega
structure Tk (st : StM) (fr : List Fr) : Prop where
 sv:st.saved=sav fr
 mr:st.marks=mrk fr
 j:J st.D.length st.D st.since fr
 ls:st.since.length=st.D.length
 e:st.e=emS st.D
theorem Tk.why {st:StM} {fr:List Fr} (h:Tk st fr) (w:List Int):Tk { st with why:=w } fr:=⟨h.sv,h.mr,h.j,h.ls,h.e⟩
theorem Tk.push {st:StM} {fr:List Fr} (h:Tk st fr):Tk { st with marks:=st.marks++[(st.saved.length:Int)] } (⟨st.D,st.since,[]⟩ :: fr):=by
 refine ⟨by rw [sav,List.append_nil];exact h.sv,by rw [mrk,←h.sv,←h.mr],⟨⟨fun t ht=>(by cases ht),rfl,rfl,fun v=>⟨fun e=>?_,fun ⟨t,ht,_⟩=>(by cases ht)⟩,fun v=>?_⟩,h.j⟩,h.ls,h.e⟩
 ·have h1:=h.j.le v
  have h2:st.since.getD v 0=((fr.length+1:Nat):Int):=e
  omega
 ·have h1:=h.j.le v
  show st.since.getD v 0≤((fr.length+1:Nat):Int)
  omega
theorem getD_at {S:List Int} {v:Nat} (h:v<S.length):S[v]? = some (S.getD v 0):=by simp [List.getD,h]
theorem getD_set {S:List Int} {v:Nat} (h:v<S.length) (x:Int) (u:Nat):(S.set v x).getD u 0=if v=u then x else S.getD u 0:=by
 simp only [List.getD,List.getElem?_set]
 by_cases hu:v=u
 ·subst hu;simp [h]
 ·simp [hu]
theorem Tk.put {st:StM} {fr:List Fr} (h:Tk st fr) {v:Nat} {o:MD} (hv:st.D[v]? = some o) (nx:MD):∃ fr',fr'.map Fr.D=fr.map Fr.D∧Tk (putA (saveM st v o) v o nx) fr':=by
 have hvl:v<st.D.length:=(List.getElem?_eq_some_iff.1 hv).1
 have hvs:v<st.since.length:=by rw [h.ls];exact hvl
 have hml:st.marks.length=fr.length:=by rw [h.mr,mrk_len]
 have hes:∀ s:StM,s.D=st.D→s.e=st.e→(putA s v o nx).e=emS (putA s v o nx).D:=fun s e1 e2=>by
  show s.e+_=emS (s.D.set v nx)
  rw [e1,e2,emS_set nx hv,h.e]
 unfold saveM
 by_cases hs:st.since.getD v 0=st.marks.length
 ·rw [if_pos hs]
  refine ⟨fr,rfl,h.sv,h.mr,?_,by show st.since.length=(st.D.set v nx).length;rw [List.length_set];exact h.ls,hes st rfl rfl⟩
  show J (st.D.set v nx).length (st.D.set v nx) st.since fr
  rw [List.length_set]
  have hj:=h.j
  cases fr with
  | nil=>exact hj
  | cons f fr =>
   obtain ⟨hf,hj⟩:=hj
   refine ⟨⟨hf.ix,?_,hf.s,hf.m,hf.le⟩,hj⟩
   rw [←hf.d]
   exact unG_mem _ _ _ ((hf.m v).1 (by rw [hs,hml];simp))
 ·rw [if_neg hs]
  cases fr with
  | nil=>exact absurd (by rw [h.j v,h.mr];rfl) hs
  | cons f fr =>
   obtain ⟨hf,hj⟩:=h.j
   have hnm:∀ t∈f.seg,t.1.toNat≠v:=fun t ht e=>hs (by rw [hml];simpa using (hf.m v).2 ⟨t,ht,e⟩)
   refine ⟨⟨f.D,f.S,f.seg++[((v:Int),o,st.since.getD v 0)]⟩ :: fr,rfl,?_,?_,?_,?_,hes _ rfl rfl⟩
   ·show st.saved++_=sav fr++(f.seg++_)
    rw [h.sv,sav,List.append_assoc]
   ·show st.marks=_
    rw [h.mr];rfl
   ·show J (st.D.set v nx).length (st.D.set v nx) (st.since.set v st.marks.length) _
    rw [List.length_set,hml]
    refine ⟨⟨fun t ht=>?_,?_,?_,fun u=>?_,fun u=>?_⟩,hj⟩
    ·rcases List.mem_append.1 ht with ht | ht
     ·exact hf.ix t ht
     ·obtain rfl:t=((v:Int),o,st.since.getD v 0):=by simpa using ht
      exact ⟨by simp,by simpa using hvl⟩
    ·have q:=unG_out (ix:=fun t:K3=>t.1.toNat) (g:=fun t=>t.2.1) f.seg st.D nx hnm
     show unG _ _ (f.seg++[_]) (st.D.set v nx)=f.D
     rw [unG_snoc,q.1]
     show ((unG _ _ f.seg st.D).set v nx).set v o=f.D
     rw [List.set_set,set_self (by rw [q.2];exact hv)]
     exact hf.d
    ·have q:=unG_out (ix:=fun t:K3=>t.1.toNat) (g:=fun t=>t.2.2) f.seg st.since (((f :: fr).length:Nat):Int) hnm
     show unG _ _ (f.seg++[_]) (st.since.set v _)=f.S
     rw [unG_snoc,q.1]
     show ((unG _ _ f.seg st.since).set v _).set v (st.since.getD v 0)=f.S
     rw [List.set_set,set_self (by rw [q.2];exact getD_at hvs)]
     exact hf.s
    ·rw [getD_set hvs]
     by_cases hu:v=u
     ·rw [if_pos hu]
      exact ⟨fun _=>⟨_,List.mem_append_right _ (List.mem_singleton.2 rfl),by simpa using hu⟩,fun _=>by simp⟩
     ·rw [if_neg hu,hf.m u]
      refine ⟨fun ⟨t,ht,e⟩=>⟨t,List.mem_append_left _ ht,e⟩,fun ⟨t,ht,e⟩=>?_⟩
      rcases List.mem_append.1 ht with ht | ht
      ·exact ⟨t,ht,e⟩
      ·obtain rfl:t=((v:Int),o,st.since.getD v 0):=by simpa using ht
       exact absurd (by simpa using e) hu
    ·rw [getD_set hvs]
     split
     ·simp
     ·exact hf.le u
   ·show (st.since.set v _).length=(st.D.set v nx).length
    rw [List.length_set,List.length_set];exact h.ls
theorem narA_put (st:StM) (v:Nat) (o nx:MD) (c:Int):∃ w,narrowA st v o nx c = { putA (saveM st v o) v o nx with why:=w }:=by
 unfold narrowA
 split
 ·exact ⟨_,rfl⟩
 ·exact ⟨_,rfl⟩
theorem save_len (st:StM) (v:Nat) (o:MD):(saveM st v o).saved.length≤st.saved.length+1∧(saveM st v o).marks=st.marks∧(saveM st v o).D=st.D∧(saveM st v o).e=st.e:=by
 unfold saveM
 split
 ·exact ⟨by omega,rfl,rfl,rfl⟩
 ·exact ⟨by simp,rfl,rfl,rfl⟩
structure Wb (was D : List MD) : Prop where
 l:D.length=was.length
 h:∀ (k:Nat) x y,D[k]? = some x→was[k]? = some y→Tt x∧x.set=y.set∧(emptyA x=true∨LeA x y)
theorem Wb.refl {D:List MD} (h:∀ o∈D,Tt o):Wb D D:=⟨rfl,fun k x y h1 h2=>by
 rw [h1] at h2;injection h2 with h2;subst h2
 exact ⟨h x (List.mem_of_getElem? h1),rfl,.inr (LeA.refl _)⟩⟩
theorem Wb.tt {was D:List MD} (h:Wb was D):∀ o∈D,Tt o:=fun o ho=>by
 obtain ⟨k,hk⟩:=List.mem_iff_getElem?.1 ho
 have hl:=(List.getElem?_eq_some_iff.1 hk).1
 exact (h.h k o _ hk (List.getElem?_eq_getElem (by rw [←h.l];exact hl))).1
theorem Tk.nar {st:StM} {fr:List Fr} (h:Tk st fr) (v:Int) (d:MD) :
  (∃ fr',fr'.map Fr.D=fr.map Fr.D∧Tk (narM st v d) fr')∧(narM st v d).saved.length≤st.saved.length+1∧∀ was,Wb was st.D→Wb was (narM st v d).D:=by
 have stay:narM st v d=st→(∃ fr',fr'.map Fr.D=fr.map Fr.D∧Tk (narM st v d) fr')∧(narM st v d).saved.length≤st.saved.length+1∧∀ was,Wb was st.D→Wb was (narM st v d).D:=fun e=>by
  rw [e];exact ⟨⟨fr,rfl,h⟩,by omega,fun _ h=>h⟩
 by_cases hth:thereB st v=false
 ·exact stay (by unfold narM;rw [if_pos hth])
 ·cases hv:st.D[v.toNat]? with
  | none=>exact stay (by unfold narM;rw [if_neg hth,hv])
  | some o =>
   have e1:narM st v d=if rightM d=false then st else if d.set≠o.set then st else if 0<st.e then st else if sameA o (bothA o d)=true then st else narrowA st v.toNat o (bothA o d) (chM o (bothA o d)):=by
    unfold narM;rw [if_neg hth,hv]
   by_cases c1:rightM d=false
   ·exact stay (by rw [e1,if_pos c1])
   by_cases c2:d.set≠o.set
   ·exact stay (by rw [e1,if_neg c1,if_pos c2])
   by_cases c3:0<st.e
   ·exact stay (by rw [e1,if_neg c1,if_neg c2,if_pos c3])
   by_cases c4:sameA o (bothA o d)=true
   ·exact stay (by rw [e1,if_neg c1,if_neg c2,if_neg c3,if_pos c4])
   rw [e1,if_neg c1,if_neg c2,if_neg c3,if_neg c4]
   obtain ⟨w,hw⟩:=narA_put st v.toNat o (bothA o d) (chM o (bothA o d))
   rw [hw]
   obtain ⟨fr',e2,h2⟩:=h.put hv (bothA o d)
   have hsl:=save_len st v.toNat o
   refine ⟨⟨fr',e2,h2.why w⟩,hsl.1,fun was hb=>?_⟩
   have hD:(putA (saveM st v.toNat o) v.toNat o (bothA o d)).D=st.D.set v.toNat (bothA o d):=by show (saveM st v.toNat o).D.set _ _=_;rw [hsl.2.2.1]
   show Wb was (putA (saveM st v.toNat o) v.toNat o (bothA o d)).D
   rw [hD]
   have h0:emS st.D=0:=by have:=(emS_bd st.D).1;have:=h.e;omega
   have hoe:=emS_zero h0 o (List.mem_of_getElem? hv)
   have hvl:=(List.getElem?_eq_some_iff.1 hv).1
   refine ⟨by rw [List.length_set];exact hb.l,fun k x y hx hy=>?_⟩
   by_cases hk:v.toNat=k
   ·subst hk
    rw [List.getElem?_set_self hvl] at hx
    injection hx with hx
    subst hx
    obtain ⟨q1,q2,q3⟩:=hb.h _ o y hv hy
    refine ⟨both_tt q1.r,by rw [bothA_set];exact q2,?_⟩
    cases he:emptyA (bothA o d)
    ·rcases q3 with q3 | q3
     ·rw [hoe] at q3;cases q3
     ·exact .inr ((both_left q1.r he).trans q3)
    ·exact .inl rfl
   ·rw [List.getElem?_set_ne hk] at hx
    exact hb.h k x y hx hy
theorem foldA_cons (st:StM) (t:K3) (l:List K3):foldA st (t :: l)=foldA (stepA st t) l:=rfl
theorem foldA_D:∀ (l:List K3) (st:StM),(foldA st l).D=undD l st.D∧(foldA st l).since=undS l st.since
 | [],st=>⟨rfl,rfl⟩
 | t :: l,st=>by rw [foldA_cons];exact foldA_D l (stepA st t)
theorem foldA_e:∀ (l:List K3) (st:StM),(∀ t∈l,0≤t.1∧t.1<st.D.length)→st.e=emS st.D→(foldA st l).e=emS (foldA st l).D
 | [],st,_,h=>h
 | t :: l,st,hl,h=>by
  rw [foldA_cons]
  have hD:(stepA st t).D=st.D.set t.1.toNat t.2.1:=rfl
  have ht:=hl t (by simp)
  have hlt:t.1.toNat<st.D.length:=by omega
  refine foldA_e l (stepA st t) (fun s hs=>by rw [hD,List.length_set];exact hl s (by simp [hs])) ?_
  rw [hD,emS_set t.2.1 (List.getElem?_eq_getElem hlt),←h]
  show st.e+(_-emptI (emptyA (st.D.getD t.1.toNat _)))=_
  rw [show st.D.getD t.1.toNat ⟨false,[],[],[],0,0⟩=st.D[t.1.toNat] by simp [List.getD,hlt]]
theorem Tk.pop {st:StM} {f:Fr} {fr:List Fr} (h:Tk st (f :: fr)):Tk (popA st (mrk fr) (sav fr).length) fr∧(popA st (mrk fr) (sav fr).length).D=f.D∧(∀ t∈st.saved.drop (sav fr).length,0≤t.1∧t.1<st.D.length):=by
 obtain ⟨hf,hj⟩:=h.j
 have hsv:st.saved=sav fr++f.seg:=h.sv
 have e1:st.saved.drop (sav fr).length=f.seg:=by rw [hsv];simp
 have e2:st.saved.take (sav fr).length=sav fr:=by rw [hsv];simp
 have q:=foldA_D f.seg st
 have qe:=foldA_e f.seg st hf.ix h.e
 have hD:(popA st (mrk fr) (sav fr).length).D=f.D:=by
  show (foldA st (st.saved.drop _)).D=_
  rw [e1,q.1];exact hf.d
 have hl:f.D.length=st.D.length:=by rw [←hf.d];exact unG_len _ _
 refine ⟨⟨e2,rfl,?_,?_,?_⟩,hD,fun t ht=>hf.ix t (by rw [←e1];exact ht)⟩
 ·rw [hD]
  show J f.D.length f.D (foldA st (st.saved.drop _)).since fr
  rw [e1,q.2,hl,show undS f.seg st.since=f.S from hf.s]
  exact hj
 ·rw [hD]
  show (foldA st (st.saved.drop _)).since.length=_
  rw [e1,q.2,hl]
  exact (unG_len _ _).trans h.ls
 ·show (foldA st (st.saved.drop _)).e=emS (foldA st (st.saved.drop _)).D
  rw [e1];exact qe
end Go.Proofs.YtghnfnieppfhgaaGreat
