/- What is proved here: slices.Clone of ranges and of words; dom.Each. What is proved here: what the library's iterator over a slice of ranges tells: all of them, in their order. -/
import Derived.Test.YtghnfnieppfhgaaGreatZXbj
import Derived.Lib.SliceRun
import Derived.Lib.Walk
import Derived.Test.YtghnfnieppfhgaaGreatZMathj
set_option linter.unusedSimpArgs false
set_option linter.unusedVariables false
set_option maxRecDepth 100000
set_option maxHeartbeats 1000000
namespace Go.Proofs.YtghnfnieppfhgaaGreat.Dm
open Go.RowKit Go.Shelf
theorem Tryz.info80:(Tryz.prog.info? 80).map (fun i=>(i.zero,i.size,i.bytes))=some (some (.agg #[.int .i64 0,.int .i64 0]),2,16):=by kernel_rfl
def flat (l:List Rg):List Value:=l.flatMap fun r=>[.int .i64 r.1,.int .i64 r.2]
theorem flat_length (l:List Rg):(flat l).length=l.length*2:=by
 unfold flat;induction l with
 | nil=>rfl
 | cons a t ih=>rw [List.flatMap_cons,List.length_append,ih];simp;omega
theorem flat_even (l:List Rg):∀ i,i<l.length→(flat l)[i*2]? = some (.int .i64 (lo l i))∧(flat l)[i*2+1]? = some (.int .i64 (hi l i)):=by
 induction l with
 | nil=>intro i hi;simp at hi
 | cons a t ih =>
  intro i hi'
  cases i with
  | zero=>simp [flat,lo,hi]
  | succ i =>
   have:=ih i (by simpa using hi')
   have e:flat (a :: t) = .int .i64 a.1 :: .int .i64 a.2 :: flat t:=by simp [flat]
   rw [e,show (i+1)*2=i*2+1+1 from by omega]
   simpa [lo,hi] using this
theorem clone_some (b off cap:Nat) (l:List Rg) (w:World) (hlen:l.length≤4096)
  (hcell:∀ i,i<l.length→w.cell? ⟨b,off+i*2,none⟩=some (.int .i64 (lo l i))∧w.cell? ⟨b,off+i*2+1,none⟩=some (.int .i64 (hi l i))) :
  Calls Tryz.prog 78 #[.slice (some ⟨b,off,none⟩) l.length cap] w fun e w'=>∃ s,e = .returned s∧w'.ownsRow w.heap.size 80 2 s l.length (flat l)∧Below w.heap.size w w':=by
 obtain ⟨i0,hi0,hz0,hz1,hz2⟩:=info_parts Tryz.info80
 have hnews:∀ j u,(flat l)[j]? = some u→w.cell? ⟨b,off+j,none⟩=some u:=by
  intro j u hj
  have hjl:j<l.length*2:=by rw [←flat_length];exact (List.getElem?_eq_some_iff.1 hj).1
  obtain ⟨e1,e2⟩:=flat_even l (j / 2) (by omega)
  obtain ⟨c1,c2⟩:=hcell (j / 2) (by omega)
  rcases Nat.mod_two_eq_zero_or_one j with hm | hm
  ·rw [show j / 2*2=j from by omega] at e1 c1
   rw [e1] at hj;injection hj with hj;subst hj
   exact c1
  ·rw [show j / 2*2+1=j from by omega] at e2
   rw [show off+j / 2*2+1=off+j from by omega] at c2
   rw [e2] at hj;injection hj with hj;subst hj
   exact c2
 have h1c:∀ u∈flat l,u.oneCell'=true:=by
  intro u hu
  unfold flat at hu
  rw [List.mem_flatMap] at hu
  obtain ⟨r,_,hu⟩:=hu
  simp at hu
  rcases hu with rfl | rfl<;>rfl
 have hl:(flat l).length=l.length*2:=flat_length l
 clear hcell
 obtain ⟨n,hn⟩:∃ n,l.length=n:=⟨_,rfl⟩
 obtain ⟨fl,hfl⟩:∃ fl,flat l=fl:=⟨_,rfl⟩
 rw [hfl] at hnews h1c hl ⊢
 rw [hn] at hl hlen ⊢
 have HNW:Hid (∀ j u,fl[j]? = some u→w.cell? ⟨b,off+j,none⟩=some u):=hnews
 have H1C:Hid (∀ u∈fl,u.oneCell'=true):=h1c
 have HL:Hid (fl.length=n*2):=hl
 clear hn hfl hnews h1c hl
 have q22:∀ (w:World) (a:Option Addr) (n c n' c':Nat),(binOp .eql 34 (.slice a n c) (.slice none n' c')).run Tryz.prog w = .ok (.bool a.isNone) w:=fun w a n c n' c'=>Lib.run_eql_slice_nil w _ _ a n c n' c' Tryz.underlying34
 go_enter Tryz.func78,Tryz.ntmps78
 go_wp2_with (at_builtin;refine wpList_append_own _ rfl _ _ 34 rfl w.heap.size 80 i0 (.agg #[.int .i64 0,.int .i64 0]) 2 16 Tryz.underlying34 hi0 hz0 hz1 hz2 rfl (by decide) _ _ _ rfl (World.ownsRow_made w #[] 0 (Nat.le_refl _) (Nat.zero_le _) rfl) ⟨b,off,none⟩ n cap fl rfl ?qc1 ?qc2 ?qc3 ?qc4 ?qc5 ?qc6 ?_)
 case qc1=>exact HL.out
 case qc2 =>
  intro j u hj
  rw [Addr.add_lit]
  exact Lib.cell?_alloc_some _ (HNW.out j u hj)
 case qc3=>exact H1C.out
 case qc4=>unfold maxLen;omega
 case qc5=>omega
 case qc6=>simp
 intro v' w1 hown hgrow hnil
 go_wp2
 go_ret
 refine ⟨v',rfl,by simpa using hown,?_⟩
 exact ((Below.refl _ w).alloc (Nat.le_refl _) _).grown hgrow (by simp) (by intro k hk;simp [Value.ownBlock] at hk;omega)
attribute [local go_sem] Oper.semAt_some
def Rok (r:Rg):Prop:=-1000000≤r.1∧r.1≤r.2∧r.2≤1000000
abbrev RgOk:={ r:Rg // Rok r }
def encR (x:RgOk):Array Value:=#[.agg #[.int .i64 x.1.1,.int .i64 x.1.2]]
end Go.Proofs.YtghnfnieppfhgaaGreat.Dm
