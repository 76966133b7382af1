/- What is proved here: what the walks of StoreTells and StoreBack share. What is proved here: several stores side by side. -/
import Derived.Test.YtghnfnieppfhgaaGreatMjj
import Derived.Test.YtghnfnieppfhgaaGreatFdj
import Derived.Test.YtghnfnieppfhgaaGreatMmj
import Derived.Test.YtghnfnieppfhgaaGreatMhj
import Derived.Test.YtghnfnieppfhgaaGreatMgj
set_option linter.unusedVariables false
set_option linter.unusedSimpArgs false
namespace Go.Proofs.YtghnfnieppfhgaaGreat
open Go.RowKit Go.Shelf
theorem ld_of {W:World} {s:Value} {l:List MD} (h:Ds W s l):Ld W s l:=by
 obtain ⟨a,c,e,h⟩:=h
 refine ⟨a,c,e,fun h0=>?_⟩
 obtain ⟨b,off,e1,e2,e3⟩:=h h0
 have hex:∀ i:Nat,∃ ci:List Value,∀ d,l[i]? = some d→W.rangeAt b (off+i*6) ci∧Dc (fun _=>False) W ci d:=fun i=>by
  cases hi:l[i]? with
  | none=>exact ⟨[],fun d hd=>by cases hd⟩
  | some d0 =>
   obtain ⟨c0,c1,c2,c3,c4,c5,hD,k0,k1,k2,k3,k4,k5⟩:=e3 i d0 hi
   refine ⟨[c0,c1,c2,c3,c4,c5],fun d hd=>?_⟩
   injection hd with hd
   subst hd
   refine ⟨fun j u hu=>?_,hD⟩
   match j,hu with
   | 0,hu=>simp at hu;subst hu;exact k0
   | 1,hu=>simp at hu;subst hu;exact k1
   | 2,hu=>simp at hu;subst hu;exact k2
   | 3,hu=>simp at hu;subst hu;exact k3
   | 4,hu=>simp at hu;subst hu;exact k4
   | 5,hu=>simp at hu;subst hu;exact k5
   | j+6,hu=>simp at hu
 obtain ⟨f,hf⟩:=Classical.axiomOfChoice hex
 refine ⟨b,off,(List.range l.length).map f,e1,e2,by simp,fun i ci di hci hdi=>?_⟩
 have hi:=(List.getElem?_eq_some_iff.1 hdi).1
 rw [List.getElem?_map,List.getElem?_range hi] at hci
 simp at hci
 subst hci
 exact hf i di hdi
theorem events_u [Gh] {W:World} {p:Nat} {st:StM} {sl:Sl} (h:Sto W p st sl) (hz:Sz st) :
  Calls Tryz.prog 19 #[ptr p] W fun e w'=>∃ s,e = .returned s∧Rw w' 61 s 2 (evsA st st.D.length)∧(∀ b,s.ownBlock=some b→W.heap.size≤b)∧Sto w' p { st with why:=List.replicate st.D.length 0 } sl∧Kept (XS p sl) W w':=by
 rcases Nat.eq_zero_or_pos st.D.length with h0 | h0
 ·refine (events_0 h h0).mono ?_
  rintro e w' ⟨rfl,rfl⟩
  have hw:st.why=[]:=List.length_eq_zero_iff.1 (by rw [h.lw];exact h0)
  have hst:({ st with why:=List.replicate st.D.length 0 }:StM)=st:=by
   rw [h0]
   cases st
   simp only at hw
   subst hw
   rfl
  refine ⟨_,rfl,?_,(fun b hb=>by cases hb),(by rw [hst];exact h),Kept.refl _ _⟩
  rw [h0]
  exact ⟨fun c hc=>by simp [evsA] at hc,World.ownsRow_nil _ _ _ _⟩
 ·exact events_d h hz h0
abbrev gh (Y:Nat→Prop) (w:World):Gh:=⟨Y,fun b=>w.heap[b]?⟩
def Sid (w:World) (p:Nat) (st:StM) (sl:Sl) (Y:Nat→Prop):Prop:=@Sto (gh Y w) w p st sl
theorem xs_ox {G:Gh} {p:Nat} {sl:Sl} {b:Nat} (h:@XS G p sl b):OX p sl b∨G.Y b:=by
 rcases h with q | q | q | q | q | q | q
 ·exact .inl (.inl q)
 ·exact .inl (.inr (.inl q))
 ·exact .inl (.inr (.inr (.inl q)))
 ·exact .inl (.inr (.inr (.inr (.inl q))))
 ·exact .inl (.inr (.inr (.inr (.inr (.inl q)))))
 ·exact .inl (.inr (.inr (.inr (.inr (.inr q)))))
 ·exact .inr q
theorem ox_xs {G:Gh} {p:Nat} {sl:Sl} {b:Nat} (h:OX p sl b):@XS G p sl b:=by
 rcases h with q | q | q | q | q | q
 ·exact .inl q
 ·exact .inr (.inl q)
 ·exact .inr (.inr (.inl q))
 ·exact .inr (.inr (.inr (.inl q)))
 ·exact .inr (.inr (.inr (.inr (.inl q))))
 ·exact .inr (.inr (.inr (.inr (.inr (.inl q)))))
theorem y_xs {G:Gh} {p:Nat} {sl:Sl} {b:Nat} (h:G.Y b):@XS G p sl b:=.inr (.inr (.inr (.inr (.inr (.inr h)))))
theorem Sto.ghost {G:Gh} {Y':Nat→Prop} {H':Nat→Option Obj} {w w':World} {p:Nat} {st:StM} {sl:Sl} (h:@Sto G w p st sl) (k:Kept (@XS G p sl) w w') (hk:∀ b,OX p sl b→w'.heap[b]? = w.heap[b]?) (hY:∀ b,Y' b→G.Y b∨w.heap.size≤b) (hl:∀ b,Y' b→b<w'.heap.size∧w'.heap[b]? = H' b):@Sto ⟨Y',H'⟩ w' p st sl:=by
 obtain ⟨cs,hd,hdr⟩:=h.doms
 obtain ⟨ks,hs,hkr⟩:=h.saved
 have u:Up (@XS G p sl) (@XS ⟨Y',H'⟩ p sl) w:=fun b hb=>by
  rcases xs_ox hb with q | q
  ·exact .inl (ox_xs q)
  ·rcases hY b q with q | q
   ·exact .inl (y_xs q)
   ·exact .inr q
 exact @Sto.mk ⟨Y',H'⟩ w' p st sl ((hk p (.inl rfl)).trans h.blk) ⟨cs,hd.keep fun g hg=>hk g (.inr (.inr (.inr (.inr (.inl hg))))),hdr.go k u⟩ (h.why.keep fun g hg=>hk g (.inr (.inr (.inr (.inr (.inr hg)))))) (h.since.keep fun g hg=>hk g (.inr (.inr (.inr (.inl hg)))))
  ⟨ks,hs.keep fun g hg=>hk g (.inr (.inl hg)),hkr.go k u⟩ (h.marks.keep fun g hg=>hk g (.inr (.inr (.inl hg)))) h.wi h.wm h.im h.lw h.ls hl fun b hb hy=>by
   rcases hY b hy with q | q
   ·exact h.yo b hb q
   ·have:=h.x_lt b (ox_xs hb);omega
theorem Sid.frame {w w':World} {p:Nat} {st:StM} {sl:Sl} {X Y Y':Nat→Prop} (h:Sid w p st sl Y) (k:Kept X w w') (hX:∀ b,X b→Y b) (hY:∀ b,Y' b→Y b∨w.heap.size≤b) (hl:∀ b,Y' b→b<w'.heap.size):Sid w' p st sl Y' :=
 Sto.ghost (G:=gh Y w) h (k.mono fun b hb=>y_xs (hX b hb)) (fun b hb=>k.block b (@Sto.x_lt (gh Y w) w p st sl h b (ox_xs hb)) (fun q=>@Sto.yo (gh Y w) w p st sl h b hb (hX b q))) hY (fun b hb=>⟨hl b hb,rfl⟩)
theorem Sid.ox_lt {w:World} {p:Nat} {st:StM} {sl:Sl} {Y:Nat→Prop} (h:Sid w p st sl Y):∀ b,OX p sl b→b<w.heap.size:=fun b hb=>@Sto.x_lt (gh Y w) w p st sl h b (ox_xs hb)
theorem Sid.after {W w':World} {p:Nat} {st st':StM} {sl sl':Sl} {Y:Nat→Prop} (h:Sid W p st sl Y) (h':@Sto (gh Y W) w' p st' sl') (u:Up (@XS (gh Y W) p sl) (@XS (gh Y W) p sl') W) (k:Kept (@XS (gh Y W) p sl) W w') :
  Sid w' p st' sl' Y∧Up (OX p sl) (OX p sl') W∧Kept (OX p sl) W w':=by
 refine ⟨?_,fun b hb=>?_,k.os,k.tape,k.output,k.size,fun b hb hx=>?_⟩
 ·exact Sto.ghost (G:=gh Y W) h' (Kept.refl _ _) (fun b _=>rfl) (fun b q=>.inl q) (fun b q=>⟨(@Sto.yl (gh Y W) w' p st' sl' h' b q).1,rfl⟩)
 ·rcases u b (ox_xs hb) with q | q
  ·rcases xs_ox q with q | q
   ·exact .inl q
   ·exact absurd q (@Sto.yo (gh Y W) w' p st' sl' h' b hb)
  ·exact .inr q
 ·by_cases hy:Y b
  ·exact (@Sto.yl (gh Y W) w' p st' sl' h' b hy).2
  ·exact k.block b hb (fun q=>(xs_ox q).elim hx hy)
theorem narrow_x {W:World} {p:Nat} {st:StM} {sl:Sl} {X0 Y:Nat→Prop} {c:List Value} {d:MD} (h:Sid W p st sl Y) (hc:Dc X0 W c d) (v:Int) (hz:Sz st) (hzs:st.saved.length<10000000) (hf:Dm.FitsR d.r) (hH:∀ o∈st.D,Held o) (he:0≤st.e) (hne:st.e=0→∀ o∈st.D,emptyA o=false) :
  Calls Tryz.prog 14 #[ptr p,.int .i64 v,.agg c.toArray] W fun e w'=>e = .returned (.tuple #[.int .i64 (ansM st v d).1,.int .i64 (ansM st v d).2])∧∃ sl',Sid w' p (narM st v d) sl' Y∧Up (OX p sl) (OX p sl') W∧Kept (OX p sl) W w' :=
 (@narrow_ans (gh Y W) W p st sl c d h X0 hc v hz hzs hf hH he hne).mono fun e w' ⟨h1,sl',h2,h3,h4⟩=>⟨h1,sl',h.after h2 h3 h4⟩
theorem new_s {W:World} {s:Value} {l:List MD} (Y:Nat→Prop) (hY:∀ b,Y b→b<W.heap.size) (hl:Ld W s l) (hn:l.length≤1000) (hf:∀ d∈l,Dm.FitsR d.r) (hr:∀ d∈l,rightM d=true) :
  Calls Tryz.prog 8 #[s] W fun e w'=>∃ p sl,e = .returned (.tuple #[ptr p,.int .i64 0])∧Sid w' p (newA l) sl Y∧(∀ b,OX p sl b→W.heap.size≤b)∧Below W.heap.size W w' :=
 (@new_ok (gh Y W) W s l hl (fun b q=>⟨hY b q,rfl⟩) hn (fun d hd=>⟨hf d hd,hr d hd⟩)).mono fun e w' ⟨p,sl,h1,h2,h3,h4⟩=>⟨p,sl,h1,Sto.ghost (G:=gh Y W) h2 (Kept.refl _ _) (fun b _=>rfl) (fun b q=>.inl q) (fun b q=>⟨(@Sto.yl (gh Y W) w' p _ sl h2 b q).1,rfl⟩),h3,h4⟩
end Go.Proofs.YtghnfnieppfhgaaGreat
