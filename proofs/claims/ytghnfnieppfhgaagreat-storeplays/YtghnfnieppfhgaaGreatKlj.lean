/- What is proved here: New: a store is made. What is proved here: New: a store of domains that can be. -/
import Derived.Test.YtghnfnieppfhgaaGreatKgj
import Derived.Deep.OwnRows
import Derived.Test.YtghnfnieppfhgaaGreatAa
set_option linter.unusedVariables false
set_option linter.unusedSimpArgs false
set_option maxRecDepth 100000
set_option maxHeartbeats 4000000
namespace Go.Proofs.YtghnfnieppfhgaaGreat
open Go.RowKit Go.Shelf
theorem made_list (z:Value) (n:Nat):(madeCells #[z] n).toList=List.replicate n z:=by
 apply List.ext_getElem?
 intro j
 by_cases hj:j<n<;>simp [madeCells,Nat.mod_one,hj,List.getElem?_replicate]
theorem rw_made (w:World) (n:Nat) (hn:n≤1000) {g:Nat} (hg:w.heap.size=g):Rw (w.alloc (.cells (madeCells #[.int .i64 0] n) 3)) 3 (.slice (some ⟨g,0,none⟩) n n) 1 (ivs (List.replicate n 0)):=by
 subst hg
 have hl:(madeCells #[Value.int .i64 0] n).size=n:=by rw [←Array.length_toList,made_list];simp
 refine ⟨fun c hc=>by simp [ivs] at hc;obtain ⟨_,rfl⟩:=hc;rfl,by rw [ivs_flat,ivs_len];simp,.inr ⟨w.heap.size,n,_,by rw [ivs_len];simp,Nat.zero_le _,World.alloc_heap_new w _,by rw [ivs_len];simp,by unfold maxLen;omega,by rw [hl];omega,?_⟩⟩
 rw [made_list,ivs_len,ivs_flat]
 simp
theorem Tryz.sizeTrail:(Tryz.prog.info? 65).map (·.size)=some 3:=by kernel_rfl
theorem newTrail_any (n:Nat) (hn:n≤1000) (W:World):Calls Tryz.prog 29 #[.int .i64 n] W fun e w'=>∃ g,e = .returned (.agg #[.slice none 0 0,.slice none 0 0,.slice (some ⟨g,0,none⟩) n n])∧W.heap.size≤g∧Rw w' 3 (.slice (some ⟨g,0,none⟩) n n) 1 (ivs (List.replicate n 0))∧Below W.heap.size W w':=by
 have hmk:∀ w,(Instr.makeSlice 63 (.int .i64 (n:Int)) (.int .i64 (n:Int))).run Tryz.prog w = .ok (.slice (some ⟨w.heap.size,0,none⟩) n n) (w.alloc (.cells (madeCells #[.int .i64 0] n) 3)):=fun w=>run_make_row' 63 3 (.int .i64 0) 8 Tryz.underlying63 Tryz.infoInt rfl .i64 .i64 n (by omega) (by omega) w
 have HR:Hid (Rw ((W.alloc (.cells #[.slice none 0 0,.slice none 0 0,.slice (some ⟨W.heap.size+1,0,none⟩) n n] 65)).alloc (.cells (madeCells #[.int .i64 0] n) 3)) 3 (.slice (some ⟨W.heap.size+1,0,none⟩) n n) 1 (ivs (List.replicate n 0))):=rw_made _ n hn (by simp)
 have HT:Hid (Bx ((W.alloc (.cells #[.slice none 0 0,.slice none 0 0,.slice (some ⟨W.heap.size+1,0,none⟩) n n] 65)).alloc (.cells (madeCells #[.int .i64 0] n) 3)) W.heap.size #[.slice none 0 0,.slice none 0 0,.slice (some ⟨W.heap.size+1,0,none⟩) n n] 65):=(Bx.new _ _ _).alloc _
 have hb:Below W.heap.size W ((W.alloc (.cells #[.slice none 0 0,.slice none 0 0,.slice (some ⟨W.heap.size+1,0,none⟩) n n] 65)).alloc (.cells (madeCells #[.int .i64 0] n) 3)):=((Below.refl _ W).alloc (Nat.le_refl _) _).alloc (by simp) _
 obtain ⟨CC,hCC⟩:∃ q,madeCells #[Value.int .i64 0] n=q:=⟨_,rfl⟩
 rw [hCC] at HR HT hb
 simp only [hCC] at hmk
 clear hCC
 go_enter Tryz.func29,Tryz.ntmps29
 go_wp2
 exact ⟨rfl,_,results_cell_row rfl _ _ W.heap.size 65 _ (0,0) _ (by with_unfolding_all rfl) HT.out.h Tryz.underlying65 rfl (by rw [Tryz.sizeTrail];rfl),W.heap.size+1,rfl,by omega,HR.out,hb⟩
structure Mk [Gh] (w : World) (p gi gw n : Nat) (D : List MD) (e : Int) (dv : Value) : Prop where
 blk:w.heap[p]? = some (.cells #[.slice none 0 0,.slice none 0 0,.slice (some ⟨gi,0,none⟩) n n,dv,.int .i64 e,.slice (some ⟨gw,0,none⟩) n n] 68 (0,0))
 doms:∃ cs,Rw w 37 dv 6 cs∧Dr (XS p ⟨.slice none 0 0,.slice none 0 0,.slice (some ⟨gi,0,none⟩) n n,dv,.slice (some ⟨gw,0,none⟩) n n⟩) w cs D
 why:Rw w 3 (.slice (some ⟨gw,0,none⟩) n n) 1 (ivs (List.replicate n 0))
 since:Rw w 3 (.slice (some ⟨gi,0,none⟩) n n) 1 (ivs (List.replicate n 0))
 ne:gw≠gi
 yl:∀ b,Gh.Y b→b<w.heap.size∧w.heap[b]? = Gh.H b
 yo:∀ b,OX p ⟨.slice none 0 0,.slice none 0 0,.slice (some ⟨gi,0,none⟩) n n,dv,.slice (some ⟨gw,0,none⟩) n n⟩ b→¬Gh.Y b
theorem Mk.p_lt [Gh] {w:World} {p gi gw n:Nat} {D:List MD} {e:Int} {dv:Value} (h:Mk w p gi gw n D e dv):p<w.heap.size:=(Array.getElem?_eq_some_iff.1 h.blk).1
theorem Mk.sto [Gh] {w:World} {p gi gw n:Nat} {D:List MD} {e:Int} {dv:Value} (h:Mk w p gi gw n D e dv) (hl:D.length=n):Sto w p ⟨D,e,List.replicate n 0,List.replicate n 0,[],[]⟩ ⟨.slice none 0 0,.slice none 0 0,.slice (some ⟨gi,0,none⟩) n n,dv,.slice (some ⟨gw,0,none⟩) n n⟩ :=
 ⟨h.blk,h.doms,h.why,h.since,⟨[],⟨(fun c hc=>by simp at hc),World.ownsRow_nil _ _ _ _⟩,rfl,(fun i kc t h1 _=>by simp at h1)⟩,⟨(fun c hc=>by simp [ivs] at hc),World.ownsRow_nil _ _ _ _⟩,(fun b h1 h2=>h.ne (by injection h1 with h1;injection h2 with h2;exact h1.trans h2.symm)),(fun b _ h2=>by cases h2),(fun b _ h2=>by cases h2),(by simp [hl]),(by simp [hl]),h.yl,h.yo⟩
theorem Mk.kept [Gh] {w w':World} {p gi gw n:Nat} {D:List MD} {e:Int} {dv:Value} (h:Mk w p gi gw n D e dv) (hb:Below w.heap.size w w'):Mk w' p gi gw n D e dv:=by
 obtain ⟨cs,hd,hdr⟩:=h.doms
 exact ⟨(hb.block p h.p_lt).trans h.blk,⟨cs,hd.keep fun g hg=>hb.block g (hd.lt hg),hdr.kept (Kept.of_below hb)⟩,h.why.keep fun g hg=>hb.block g (h.why.lt hg),h.since.keep fun g hg=>hb.block g (h.since.lt hg),h.ne,(fun b q=>⟨Nat.lt_of_lt_of_le (h.yl b q).1 hb.size,(hb.block b (h.yl b q).1).trans (h.yl b q).2⟩),h.yo⟩
theorem Mk.set_e [Gh] {w:World} {p gi gw n:Nat} {D:List MD} {e:Int} {dv:Value} (h:Mk w p gi gw n D e dv) (x:Int):Mk (w.setCell ⟨p,4,none⟩ (.int .i64 x)) p gi gw n D x dv:=by
 obtain ⟨cs,hd,hdr⟩:=h.doms
 have k:Kept (fun b=>b=p) w (w.setCell ⟨p,4,none⟩ (.int .i64 x)):=Kept.one (a:=w) rfl
 exact ⟨heap_setCell_in h.blk (by simp),⟨cs,hd.stay k (hd.nep h.blk (by decide)),hdr.kept (k.mono (fun b e=>.inl e))⟩,h.why.stay k (h.why.nep h.blk (by decide)),h.since.stay k (h.since.nep h.blk (by decide)),h.ne,yk h.yl k (h.yo p (.inl rfl)),h.yo⟩
theorem Mk.app [Gh] {w w1:World} {p gi gw n:Nat} {D:List MD} {e:Int} {dv dv':Value} (h:Mk w p gi gw n D e dv) {cs:List (List Value)} (hd:Rw w 37 dv 6 cs) (hdr:Dr (XS p ⟨.slice none 0 0,.slice none 0 0,.slice (some ⟨gi,0,none⟩) n n,dv,.slice (some ⟨gw,0,none⟩) n n⟩) w cs D) {c:List Value} {d:MD} (hg:w.grownBy w1 dv.ownBlock) (hr:Rw w1 37 dv' 6 (cs++[c])) (hn:∀ b,dv'.ownBlock=some b→dv.ownBlock=some b∨w.heap.size≤b)
  (hc:Dc (XS p ⟨.slice none 0 0,.slice none 0 0,.slice (some ⟨gi,0,none⟩) n n,dv,.slice (some ⟨gw,0,none⟩) n n⟩) w c d):Mk (w1.setCell ⟨p,3,none⟩ dv') p gi gw n (D++[d]) e dv':=by
 have u:Up (XS p ⟨.slice none 0 0,.slice none 0 0,.slice (some ⟨gi,0,none⟩) n n,dv,.slice (some ⟨gw,0,none⟩) n n⟩) (XS p ⟨.slice none 0 0,.slice none 0 0,.slice (some ⟨gi,0,none⟩) n n,dv',.slice (some ⟨gw,0,none⟩) n n⟩) w:=fun b hb=>by
  rcases hb with q | q | q | q | q | q | q
  ·exact .inl (.inl q)
  ·cases q
  ·cases q
  ·exact .inl (.inr (.inr (.inr (.inl q))))
  ·rcases hn b q with q | q
   ·exact .inl (.inr (.inr (.inr (.inr (.inl q)))))
   ·exact .inr q
  ·exact .inl (.inr (.inr (.inr (.inr (.inr (.inl q))))))
  ·exact .inl (.inr (.inr (.inr (.inr (.inr (.inr q))))))
 have k1:Kept (XS p ⟨.slice none 0 0,.slice none 0 0,.slice (some ⟨gi,0,none⟩) n n,dv,.slice (some ⟨gw,0,none⟩) n n⟩) w w1:=⟨hg.os,hg.tape,hg.output,hg.size,fun b hb hx=>hg.block b hb (fun e=>hx (.inr (.inr (.inr (.inr (.inl e.symm))))))⟩
 have b1:∀ b,b<w.heap.size→dv.ownBlock≠some b→w1.heap[b]? = w.heap[b]?:=fun b hb hx=>hg.block b hb (fun e=>hx e.symm)
 have hp1:w1.heap[p]? = _:=(b1 p h.p_lt (hd.nep h.blk (by decide))).trans h.blk
 have r2:=h.why.keep (w':=w1) fun g q=>b1 g (h.why.lt q) (h.why.ne hd (by decide) q)
 have r3:=h.since.keep (w':=w1) fun g q=>b1 g (h.since.lt q) (h.since.ne hd (by decide) q)
 have k:Kept (fun b=>b=p) w1 (w1.setCell ⟨p,3,none⟩ dv'):=Kept.one (a:=w) rfl
 have kX:=k.mono (Y:=XS p ⟨.slice none 0 0,.slice none 0 0,.slice (some ⟨gi,0,none⟩) n n,dv',.slice (some ⟨gw,0,none⟩) n n⟩) (fun b e=>.inl e)
 refine ⟨heap_setCell_in hp1 (by simp),⟨cs++[c],hr.stay k (hr.nep hp1 (by decide)),by simp [hdr.1],fun i kc t h1 h2=>?_⟩,r2.stay k (r2.nep hp1 (by decide)),r3.stay k (r3.nep hp1 (by decide)),h.ne,yk (yg h.yl hg fun b q=>h.yo b (.inr (.inr (.inr (.inr (.inl q)))))) k (h.yo p (.inl rfl)),fun b hb hy=>by
   rcases hb with q | q | q | q | q | q
   ·exact h.yo b (.inl q) hy
   ·cases q
   ·cases q
   ·exact h.yo b (.inr (.inr (.inr (.inl q)))) hy
   ·rcases hn b q with q | q
    ·exact h.yo b (.inr (.inr (.inr (.inr (.inl q))))) hy
    ·have:=(h.yl b hy).1;omega
   ·exact h.yo b (.inr (.inr (.inr (.inr (.inr q))))) hy⟩
 by_cases hi:i<cs.length
 ·rw [List.getElem?_append_left hi] at h1
  rw [List.getElem?_append_left (by rw [←hdr.1];exact hi)] at h2
  exact ((hdr.2 i kc t h1 h2).go k1 u).kept kX
 ·have hl:=(List.getElem?_eq_some_iff.1 h1).1
  simp at hl
  have e:i=cs.length:=by omega
  subst e
  rw [List.getElem?_append_right (Nat.le_refl _),Nat.sub_self] at h1
  rw [hdr.1,List.getElem?_append_right (Nat.le_refl _),Nat.sub_self] at h2
  injection h1 with h1
  injection h2 with h2
  subst h1 h2
  exact (hc.go k1 u).kept kX
def Ld (W:World) (s:Value) (l:List MD):Prop:=∃ a c,s = .slice a l.length c∧(0<l.length→∃ (b off:Nat) (cs:List (List Value)),a=some ⟨b,off,none⟩∧b<W.heap.size∧cs.length=l.length∧∀ (i:Nat) ci di,cs[i]? = some ci→l[i]? = some di→W.rangeAt b (off+i*6) ci∧Dc (fun _=>False) W ci di)
def newM (l:List MD):StM:=⟨l.map (fun d=>bothW d d),(l.map (fun d=>emptI (emptyW d))).sum,List.replicate l.length 0,List.replicate l.length 0,[],[]⟩
theorem wp_ways3 {P:Program} {c:Code} {K:Act→World→Prop} {Q:Exit→Act→World→Prop} {a:Act} {w:World} {act:Nat→Nat→Nat→Act} (R:Nat→Nat→Nat→World→Prop) (h:c.wp P (Exit.then (fun a' w'=>∃ n m k,a'=act n m k∧R n m k w') (fun _ _ _=>False)) a w) (hK:∀ n m k w',R n m k w'→K (act n m k) w'):c.wp P (Exit.then K Q) a w :=
 Code.wp_mono (fun e b x q=>by
  cases e with
  | normal =>
   have q':∃ n m k,b=act n m k∧R n m k x:=q
   obtain ⟨n,m,k,e1,q2⟩:=q'
   rw [e1]
   exact hK _ _ _ _ q2
  | _=>exact (q:False).elim) h
theorem wp_waysQ {P:Program} {c:Code} {Q:Exit→Act→World→Prop} {a:Act} {w:World} {act:Act} (R:World→Prop) (h:c.wp P (Exit.then (fun a' w'=>a'=act∧R w') (fun _ _ _=>False)) a w) (hK:∀ w',R w'→Q .normal act w'):c.wp P Q a w :=
 Code.wp_mono (fun e b x q=>by
  cases e with
  | normal =>
   have q':b=act∧R x:=q
   obtain ⟨e1,q2⟩:=q'
   rw [e1]
   exact hK _ q2
  | _=>exact (q:False).elim) h
end Go.Proofs.YtghnfnieppfhgaaGreat
