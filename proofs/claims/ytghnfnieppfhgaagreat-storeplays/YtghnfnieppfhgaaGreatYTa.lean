/- What is proved here: the reference's None, bare, Right, Empty and taken of any domain. the reference's Tight of any two sets of which one is within the other. -/
import Derived.Test.YtghnfnieppfhgaaGreatYNd
import Derived.Test.YtghnfnieppfhgaaGreatYSfj
import Derived.Test.YtghnfnieppfhgaaGreatYSdj
import Derived.Test.YtghnfnieppfhgaaGreatYSa
import Derived.Lib.ItoaLen
import Derived.Lib.ParseIntBTie
import Derived.Lib.SplitLaws
import Derived.Lib.SlTrimSet
import Derived.Lib.AppendStr
import Derived.Lib.AppendIntMem
import Derived.Lib.SmallJoins
import Derived.Laws.IdiomStrings
import Derived.Shelf.Strconv.Itoa4
import Derived.Laws.Concat
import Derived.Laws.Strings
import Derived.Maps.AppendAt
import Derived.Sort.Row
set_option linter.unusedVariables false
set_option linter.unusedSimpArgs false
set_option maxHeartbeats 4000000
set_option maxRecDepth 100000
namespace Go.Proofs.YtghnfnieppfhgaaGreat.St
open Go.RowKit Go.Shelf
theorem refnone_at (W:World):Calls Tryz.prog 85 #[] W fun e w'=>e = .returned (.agg #[.bool true,.slice none 0 0,.slice none 0 0,.slice none 0 0,.int .i64 1,.int .i64 0])∧Below W.heap.size W w':=by
 go_enter Tryz.func85,Tryz.ntmps85
 go_wp2
 refine ⟨rfl,_,results_cell_row (P:=Tryz.prog) rfl _ _ W.heap.size 37 _ (0,0) _ rfl (World.alloc_heap_new W _) Tryz.underlying37 rfl (by kernel_rfl),rfl,(Below.refl _ W).alloc (Nat.le_refl _) _⟩
def bareB (d:SD):Bool:=d.set&&decide (d.rn=0)&&decide (d.lo.length=0)&&decide (d.up.length=0)&&decide (d.least=1)&&decide (d.most=0)
theorem right_eq (d:SD):rightD d=(bareB d||(d.set&&decide (d.rn=0)&&setB d.lo&&setB d.up&&subB (tkS d.lo) (tkS d.up)&&decide ((d.lo.length:Int)≤d.least)&&decide (d.least≤d.most)&&decide (d.most≤(d.up.length:Int)))):=by
 rw [Bool.eq_iff_iff]
 unfold rightD bareB setB
 simp only [Bool.or_eq_true,Bool.and_eq_true,decide_eq_true_iff]
 constructor
 ·rintro ⟨h1,h2,h3,h4,h5,h6⟩
  rcases h6 with ⟨e1,e2,e3⟩ | ⟨e1,e2,e3⟩
  ·left
   have:d.lo.length≤d.up.length:=set_sub_len h3 h4 ((subB_iff _ _).1 h5)
   exact ⟨⟨⟨⟨⟨h1,h2⟩,by omega⟩,e3⟩,e1⟩,e2⟩
  ·right
   rw [tkS_yes h3,tkS_yes h4]
   exact ⟨⟨⟨⟨⟨⟨⟨h1,h2⟩,h3⟩,h4⟩,h5⟩,e1⟩,e2⟩,e3⟩
 ·rintro (⟨⟨⟨⟨⟨h1,h2⟩,h3⟩,h4⟩,h5⟩,h6⟩ | ⟨⟨⟨⟨⟨⟨⟨h1,h2⟩,h3⟩,h4⟩,h5⟩,e1⟩,e2⟩,e3⟩)
  ·have l1:=List.eq_nil_of_length_eq_zero h3
   have l2:=List.eq_nil_of_length_eq_zero h4
   exact ⟨h1,h2,by rw [l1];exact isSet_nil,by rw [l2];exact isSet_nil,by rw [l1,l2];rfl,.inl ⟨h5,h6,h4⟩⟩
  ·rw [tkS_yes h3,tkS_yes h4] at h5
   exact ⟨h1,h2,h3,h4,h5,.inr ⟨e1,e2,e3⟩⟩
theorem bare_any (v:Value) (d:SD) (W:World) (h:Di W v d) :
  Calls Tryz.prog 80 #[v] W fun e w'=>e = .returned (.bool (bareB d))∧Below W.heap.size W w':=by
 obtain ⟨x0a,raa,rna,rca,a1a,n1a,c1a,a2a,n2a,c2a,x4a,x5a,rfl,HEa,HLOa,HUPa⟩:=h.look
 have hH:bareB d=(d.set&&decide (d.rn=0)&&decide (d.lo.length=0)&&decide (d.up.length=0)&&decide (d.least=1)&&decide (d.most=0)):=rfl
 obtain ⟨e1,e2,e3,e4,e5,e6⟩:=HEa.out
 rw [e1,e2,e3,e4,e5,e6] at hH
 have HH:Hid _:=hH
 generalize bareB d=r at HH ⊢
 obtain ⟨w0,hW0⟩:∃ X,(W.alloc (Obj.cells #[.bool x0a,.slice raa rna rca,.slice a1a n1a c1a,.slice a2a n2a c2a,.int .i64 x4a,.int .i64 x5a] 37))=X:=⟨_,rfl⟩
 have HW0:Hid _:=hW0
 have hb0:Below W.heap.size W w0:=by rw [←hW0];exact ((Below.refl _ W).alloc (by simp<;>omega) _)
 have HA_0:Hid (R6 w0 W.heap.size (.bool x0a) (.slice raa rna rca) (.slice a1a n1a c1a) (.slice a2a n2a c2a) (.int .i64 x4a) (.int .i64 x5a)):=by rw [←hW0];exact (R6.new _ _ _ _ _ _ _)
 clear hW0
 clear h hH e1 e2 e3 e4 e5 e6 HEa HLOa HUPa
 cases x0a
 ·go_enter Tryz.func80,Tryz.ntmps80
  go_upto_region 1 with (fail)
  rw [HW0.out]
  obtain ⟨z0,z1,z2,z3,z4,z5⟩:=HA_0.out.cells
  go_wp2
  go_ret
  exact ⟨ret_bool (by rw [HH.out];first | (simp;done) | (simp [*];done) | (simp;omega)),hb0⟩
 ·by_cases q1:rna=0
  ·subst q1
   by_cases q2:n1a=0
   ·subst q2
    by_cases q3:n2a=0
    ·subst q3
     by_cases q4:x4a=1
     ·subst q4
      by_cases q5:x5a=0
      ·subst q5
       go_enter Tryz.func80,Tryz.ntmps80
       go_upto_region 1 with (fail)
       rw [HW0.out]
       obtain ⟨z0,z1,z2,z3,z4,z5⟩:=HA_0.out.cells
       go_wp2
       go_ret
       exact ⟨ret_bool (by rw [HH.out];first | (simp;done) | (simp [*];done) | (simp;omega)),hb0⟩
      ·have q5':(x5a==0)=false:=by simpa using q5
       go_enter Tryz.func80,Tryz.ntmps80
       go_upto_region 1 with (fail)
       rw [HW0.out]
       obtain ⟨z0,z1,z2,z3,z4,z5⟩:=HA_0.out.cells
       go_wp2
       go_ret
       exact ⟨ret_bool (by rw [HH.out];first | (simp;done) | (simp [*];done) | (simp;omega)),hb0⟩
     ·have q4':(x4a==1)=false:=by simpa using q4
      go_enter Tryz.func80,Tryz.ntmps80
      go_upto_region 1 with (fail)
      rw [HW0.out]
      obtain ⟨z0,z1,z2,z3,z4,z5⟩:=HA_0.out.cells
      go_wp2
      go_ret
      exact ⟨ret_bool (by rw [HH.out];first | (simp;done) | (simp [*];done) | (simp;omega)),hb0⟩
    ·have q3':((n2a:Int)==0)=false:=by simp;omega
     go_enter Tryz.func80,Tryz.ntmps80
     go_upto_region 1 with (fail)
     rw [HW0.out]
     obtain ⟨z0,z1,z2,z3,z4,z5⟩:=HA_0.out.cells
     go_wp2
     go_ret
     exact ⟨ret_bool (by rw [HH.out];first | (simp;done) | (simp [*];done) | (simp;omega)),hb0⟩
   ·have q2':((n1a:Int)==0)=false:=by simp;omega
    go_enter Tryz.func80,Tryz.ntmps80
    go_upto_region 1 with (fail)
    rw [HW0.out]
    obtain ⟨z0,z1,z2,z3,z4,z5⟩:=HA_0.out.cells
    go_wp2
    go_ret
    exact ⟨ret_bool (by rw [HH.out];first | (simp;done) | (simp [*];done) | (simp;omega)),hb0⟩
  ·have q1':((rna:Int)==0)=false:=by simp;omega
   go_enter Tryz.func80,Tryz.ntmps80
   go_upto_region 1 with (fail)
   rw [HW0.out]
   obtain ⟨z0,z1,z2,z3,z4,z5⟩:=HA_0.out.cells
   go_wp2
   go_ret
   exact ⟨ret_bool (by rw [HH.out];first | (simp;done) | (simp [*];done) | (simp;omega)),hb0⟩
theorem refright_any (v:Value) (d:SD) (W:World) (h:Di W v d) :
  Calls Tryz.prog 59 #[v] W fun e w'=>e = .returned (.bool (rightD d))∧Below W.heap.size W w':=by
 have k78:=fun X (hX:Below W.heap.size W X)=>bare_any v d X (h.below hX)
 obtain ⟨x0a,raa,rna,rca,a1a,n1a,c1a,a2a,n2a,c2a,x4a,x5a,rfl,HEa,HLOa,HUPa⟩:=h.look
 have k30a:=fun X (hX:Below W.heap.size W X)=>refset_any (.slice a1a n1a c1a) d.lo X (HLOa.out.below hX)
 have k30b:=fun X (hX:Below W.heap.size W X)=>refset_any (.slice a2a n2a c2a) d.up X (HUPa.out.below hX)
 have k28:=fun X (hX:Below W.heap.size W X)=>refsub_any (.slice a1a n1a c1a) (.slice a2a n2a c2a) d.lo d.up X (HLOa.out.below hX) (HUPa.out.below hX)
 have hH:=right_eq d
 obtain ⟨e1,e2,e3,e4,e5,e6⟩:=HEa.out
 rw [e1,e2,e3,e4,e5,e6] at hH
 generalize rightD d=r at hH ⊢
 generalize bareB d=rb at hH k78
 generalize setB d.lo=s1 at hH k30a
 generalize setB d.up=s2 at hH k30b
 generalize subB (tkS d.lo) (tkS d.up)=s3 at hH k28
 have HH:Hid _:=hH
 obtain ⟨w0,hW0⟩:∃ X,(W.alloc (Obj.cells #[.bool x0a,.slice raa rna rca,.slice a1a n1a c1a,.slice a2a n2a c2a,.int .i64 x4a,.int .i64 x5a] 37))=X:=⟨_,rfl⟩
 have HW0:Hid _:=hW0
 have hb0:Below W.heap.size W w0:=by rw [←hW0];exact ((Below.refl _ W).alloc (by simp<;>omega) _)
 have HA_0:Hid (R6 w0 W.heap.size (.bool x0a) (.slice raa rna rca) (.slice a1a n1a c1a) (.slice a2a n2a c2a) (.int .i64 x4a) (.int .i64 x5a)):=by rw [←hW0];exact (R6.new _ _ _ _ _ _ _)
 clear hW0
 clear h hH e1 e2 e3 e4 e5 e6 HEa HLOa HUPa
 go_enter Tryz.func59,Tryz.ntmps59
 go_upto_region 1 with (fail)
 rw [HW0.out]
 obtain ⟨zA0,zA1,zA2,zA3,zA4,zA5⟩:=HA_0.out.cells
 go_wp2_with fail
 refine (k78 w0 hb0).mono ?_
 rintro e w1 ⟨rfl,hb⟩
 have hb1:Below W.heap.size W w1:=hb0.trans (hb.mono hb0.size)
 have HA_1:Hid _:=HA_0.out.below hb
 clear zA0 zA1 zA2 zA3 zA4 zA5
 clear hb hb0 HA_0
 obtain ⟨zA0,zA1,zA2,zA3,zA4,zA5⟩:=HA_1.out.cells
 cases rb
 ·cases x0a
  ·go_wp2
   go_ret
   exact ⟨ret_bool (by rw [HH.out];first | (simp;done) | (simp [*];done) | (simp;omega)),hb1⟩
  ·by_cases q1:rna=0
   ·subst q1
    cases s1
    ·go_wp2_with fail
     refine (k30a w1 hb1).mono ?_
     rintro e w2 ⟨rfl,qd,hdw⟩
     have hb:Below w1.heap.size w1 w2:=by rw [hdw];exact below_drewN (Below.refl _ _) _
     clear hdw
     have hb2:Below W.heap.size W w2:=hb1.trans (hb.mono hb1.size)
     have HA_2:Hid _:=HA_1.out.below hb
     clear zA0 zA1 zA2 zA3 zA4 zA5
     clear hb hb1 HA_1
     obtain ⟨zA0,zA1,zA2,zA3,zA4,zA5⟩:=HA_2.out.cells
     go_wp2
     go_ret
     exact ⟨ret_bool (by rw [HH.out];first | (simp;done) | (simp [*];done) | (simp;omega)),hb2⟩
    ·go_wp2_with fail
     refine (k30a w1 hb1).mono ?_
     rintro e w2 ⟨rfl,qd,hdw⟩
     have hb:Below w1.heap.size w1 w2:=by rw [hdw];exact below_drewN (Below.refl _ _) _
     clear hdw
     have hb2:Below W.heap.size W w2:=hb1.trans (hb.mono hb1.size)
     have HA_2:Hid _:=HA_1.out.below hb
     clear zA0 zA1 zA2 zA3 zA4 zA5
     clear hb hb1 HA_1
     obtain ⟨zA0,zA1,zA2,zA3,zA4,zA5⟩:=HA_2.out.cells
     cases s2
     ·go_wp2_with fail
      refine (k30b w2 hb2).mono ?_
      rintro e w3 ⟨rfl,qd,hdw⟩
      have hb:Below w2.heap.size w2 w3:=by rw [hdw];exact below_drewN (Below.refl _ _) _
      clear hdw
      have hb3:Below W.heap.size W w3:=hb2.trans (hb.mono hb2.size)
      have HA_3:Hid _:=HA_2.out.below hb
      clear zA0 zA1 zA2 zA3 zA4 zA5
      clear hb hb2 HA_2
      obtain ⟨zA0,zA1,zA2,zA3,zA4,zA5⟩:=HA_3.out.cells
      go_wp2
      go_ret
      exact ⟨ret_bool (by rw [HH.out];first | (simp;done) | (simp [*];done) | (simp;omega)),hb3⟩
     ·go_wp2_with fail
      refine (k30b w2 hb2).mono ?_
      rintro e w3 ⟨rfl,qd,hdw⟩
      have hb:Below w2.heap.size w2 w3:=by rw [hdw];exact below_drewN (Below.refl _ _) _
      clear hdw
      have hb3:Below W.heap.size W w3:=hb2.trans (hb.mono hb2.size)
      have HA_3:Hid _:=HA_2.out.below hb
      clear zA0 zA1 zA2 zA3 zA4 zA5
      clear hb hb2 HA_2
      obtain ⟨zA0,zA1,zA2,zA3,zA4,zA5⟩:=HA_3.out.cells
      cases s3
      ·go_wp2_with fail
       refine (k28 w3 hb3).mono ?_
       rintro e w4 ⟨rfl,qd,hdw⟩
       have hb:Below w3.heap.size w3 w4:=by rw [hdw];exact below_drewN (Below.refl _ _) _
       clear hdw
       have hb4:Below W.heap.size W w4:=hb3.trans (hb.mono hb3.size)
       have HA_4:Hid _:=HA_3.out.below hb
       clear zA0 zA1 zA2 zA3 zA4 zA5
       clear hb hb3 HA_3
       obtain ⟨zA0,zA1,zA2,zA3,zA4,zA5⟩:=HA_4.out.cells
       go_wp2
       go_ret
       exact ⟨ret_bool (by rw [HH.out];first | (simp;done) | (simp [*];done) | (simp;omega)),hb4⟩
      ·go_wp2_with fail
       refine (k28 w3 hb3).mono ?_
       rintro e w4 ⟨rfl,qd,hdw⟩
       have hb:Below w3.heap.size w3 w4:=by rw [hdw];exact below_drewN (Below.refl _ _) _
       clear hdw
       have hb4:Below W.heap.size W w4:=hb3.trans (hb.mono hb3.size)
       have HA_4:Hid _:=HA_3.out.below hb
       clear zA0 zA1 zA2 zA3 zA4 zA5
       clear hb hb3 HA_3
       obtain ⟨zA0,zA1,zA2,zA3,zA4,zA5⟩:=HA_4.out.cells
       by_cases q5:(n1a:Int)≤x4a
       ·by_cases q6:x4a≤x5a
        ·by_cases q7:x5a≤(n2a:Int)
         ·go_wp2
          go_ret
          exact ⟨ret_bool (by rw [HH.out];first | (simp;done) | (simp [*];done) | (simp;omega)),hb4⟩
         ·go_wp2
          go_ret
          exact ⟨ret_bool (by rw [HH.out];first | (simp;done) | (simp [*];done) | (simp;omega)),hb4⟩
        ·go_wp2
         go_ret
         exact ⟨ret_bool (by rw [HH.out];first | (simp;done) | (simp [*];done) | (simp;omega)),hb4⟩
       ·go_wp2
        go_ret
        exact ⟨ret_bool (by rw [HH.out];first | (simp;done) | (simp [*];done) | (simp;omega)),hb4⟩
   ·have q1':((rna:Int)==0)=false:=by simp;omega
    go_wp2
    go_ret
    exact ⟨ret_bool (by rw [HH.out];first | (simp;done) | (simp [*];done) | (simp;omega)),hb1⟩
 ·go_wp2
  go_ret
  exact ⟨ret_bool (by rw [HH.out];first | (simp;done) | (simp [*];done) | (simp;omega)),hb1⟩
theorem refempty_any (v:Value) (d:SD) (W:World) (h:Di W v d) :
  Calls Tryz.prog 64 #[v] W fun e w'=>e = .returned (.bool (emptyD d))∧Below W.heap.size W w':=by
 have hr:=fun X (hX:Below W.heap.size W X)=>refright_any v d X (h.below hX)
 obtain ⟨ra,rc,slo,sup,rfl,h1,h2⟩:=h
 obtain ⟨a1,c1,rfl,_⟩:=h1
 obtain ⟨a2,c2,rfl,_⟩:=h2
 have he:emptyD d=(!rightD d||decide (d.most<d.least)):=rfl
 obtain ⟨st,rn,lo,up,least,most⟩:=d
 simp only at hr he ⊢
 obtain ⟨n1,hn1⟩:∃ n,lo.length=n:=⟨_,rfl⟩
 obtain ⟨n2,hn2⟩:∃ n,up.length=n:=⟨_,rfl⟩
 simp only [hn1,hn2] at hr ⊢
 obtain ⟨r,hrd⟩:∃ r,rightD ⟨st,rn,lo,up,least,most⟩=r:=⟨_,rfl⟩
 rw [hrd] at he
 simp only [hrd] at hr
 have HE:Hid (emptyD ⟨st,rn,lo,up,least,most⟩=(!r||decide (most<least))):=he
 have hb0:Below W.heap.size W (W.alloc (Obj.cells #[.bool st,.slice ra rn rc,.slice a1 n1 c1,.slice a2 n2 c2,.int .i64 least,.int .i64 most] 37)):=(Below.refl _ W).alloc (Nat.le_refl _) _
 have hR0:=World.alloc_heap_new W (Obj.cells #[.bool st,.slice ra rn rc,.slice a1 n1 c1,.slice a2 n2 c2,.int .i64 least,.int .i64 most] 37)
 have hr0:=hr _ hb0
 clear he hrd hn1 hn2 hr
 by_cases hrr:r=true
 ·subst hrr
  by_cases hlm:most<least
  ·go_enter Tryz.func64,Tryz.ntmps64
   go_wp2_with fail
   refine hr0.mono ?_
   rintro e w1 ⟨rfl,hb1⟩
   obtain ⟨c0,c1',c2',c3,c4,c5⟩:=six_cells ((hb1.block W.heap.size (by simp)).trans hR0)
   have hB1:Below W.heap.size W w1:=hb0.trans (hb1.mono hb0.size)
   clear hr0 hR0 hb1 hb0
   go_wp2
   go_ret
   exact ⟨ret_bool (by rw [HE.out];simp [hlm]),hB1⟩
  ·go_enter Tryz.func64,Tryz.ntmps64
   go_wp2_with fail
   refine hr0.mono ?_
   rintro e w1 ⟨rfl,hb1⟩
   obtain ⟨c0,c1',c2',c3,c4,c5⟩:=six_cells ((hb1.block W.heap.size (by simp)).trans hR0)
   have hB1:Below W.heap.size W w1:=hb0.trans (hb1.mono hb0.size)
   clear hr0 hR0 hb1 hb0
   go_wp2
   go_ret
   exact ⟨ret_bool (by rw [HE.out];simp [hlm]),hB1⟩
 ·have hrr':r=false:=by simpa using hrr
  subst hrr'
  go_enter Tryz.func64,Tryz.ntmps64
  go_wp2_with fail
  refine hr0.mono ?_
  rintro e w1 ⟨rfl,hb1⟩
  have hB1:Below W.heap.size W w1:=hb0.trans (hb1.mono hb0.size)
  clear hr0 hR0 hb1 hb0
  go_wp2
  go_ret
  exact ⟨ret_bool (by rw [HE.out];simp),hB1⟩
def rtakenD (d:SD):SD:=if emptyD d then noneD else d
theorem reftaken_dom (v:Value) (d:SD) (Wb W:World) (hd0:Di Wb v d) (hbW:Below Wb.heap.size Wb W) :
  Calls Tryz.prog 84 #[v] W fun e w'=>∃ v',e = .returned v'∧(∀ X,Below Wb.heap.size Wb X→Di X v' (rtakenD d))∧Below W.heap.size W w':=by
 have h:=hd0.below hbW
 have k43:=fun X (hX:Below W.heap.size W X)=>refempty_any v d X (h.below hX)
 have hdi:=fun X (hX:Below Wb.heap.size Wb X)=>hd0.below hX
 obtain ⟨x0a,raa,rna,rca,a1a,n1a,c1a,a2a,n2a,c2a,x4a,x5a,rfl,HEa,HLOa,HUPa⟩:=h.look
 have HDI:Hid _:=hdi
 have hT:rtakenD d=if emptyD d then noneD else d:=rfl
 generalize rtakenD d=r at hT ⊢
 generalize emptyD d=em at hT k43
 have HT:Hid _:=hT
 obtain ⟨w0,hW0⟩:∃ X,((W.alloc (Obj.cells #[.bool x0a,.slice raa rna rca,.slice a1a n1a c1a,.slice a2a n2a c2a,.int .i64 x4a,.int .i64 x5a] 37)).alloc (Obj.cells #[.bool false,.slice none 0 0,.slice none 0 0,.slice none 0 0,.int .i64 0,.int .i64 0] 37))=X:=⟨_,rfl⟩
 have HW0:Hid _:=hW0
 have hb0:Below W.heap.size W w0:=by rw [←hW0];exact (((Below.refl _ W).alloc (by simp<;>omega) _).alloc (by simp<;>omega) _)
 have HA_0:Hid (R6 w0 W.heap.size (.bool x0a) (.slice raa rna rca) (.slice a1a n1a c1a) (.slice a2a n2a c2a) (.int .i64 x4a) (.int .i64 x5a)):=by rw [←hW0];exact ((R6.new _ _ _ _ _ _ _).alloc _)
 have HZ_0:Hid (R6 w0 (W.heap.size+1) (.bool false) (.slice none 0 0) (.slice none 0 0) (.slice none 0 0) (.int .i64 0) (.int .i64 0)):=by rw [←hW0];exact (R6.new1 _ _ _ _ _ _ _ _)
 clear hW0
 clear h hd0 hbW hT hdi HEa HLOa HUPa
 go_enter Tryz.func84,Tryz.ntmps84
 go_upto_region 1 with (fail)
 rw [HW0.out]
 obtain ⟨zA0,zA1,zA2,zA3,zA4,zA5⟩:=HA_0.out.cells
 obtain ⟨zZ0,zZ1,zZ2,zZ3,zZ4,zZ5⟩:=HZ_0.out.cells
 go_wp2_with fail
 refine (k43 w0 hb0).mono ?_
 rintro e w1 ⟨rfl,hb⟩
 have hb1:Below W.heap.size W w1:=hb0.trans (hb.mono hb0.size)
 have HA_1:Hid _:=HA_0.out.below hb
 have HZ_1:Hid _:=HZ_0.out.below hb
 clear zA0 zA1 zA2 zA3 zA4 zA5 zZ0 zZ1 zZ2 zZ3 zZ4 zZ5
 clear hb hb0 HA_0 HZ_0
 obtain ⟨zA0,zA1,zA2,zA3,zA4,zA5⟩:=HA_1.out.cells
 obtain ⟨zZ0,zZ1,zZ2,zZ3,zZ4,zZ5⟩:=HZ_1.out.cells
 cases em
 ·go_wp2_with (with_reducible refine st37 rfl (.tmp 2) (.tmp 6) rfl (W.heap.size+1) _ _ _ _ _ _ (by with_unfolding_all rfl) (by with_unfolding_all rfl) HZ_1.out (six_dom _ _ _ _ _ _ _ _ _ _ _ _) ?_)
  refine ⟨rfl,_,R6.res rfl _ (HZ_1.out.set (.bool x0a) (.slice raa rna rca) (.slice a1a n1a c1a) (.slice a2a n2a c2a) (.int .i64 x4a) (.int .i64 x5a)) rfl,⟨_,rfl,?_,below_setRow hb1 (by omega) _⟩⟩
  rw [HT.out]
  simp only [Bool.false_eq_true,if_false]
  exact HDI.out
 ·go_wp2_with fail
  refine (refnone_at w1).mono ?_
  rintro e w2 ⟨rfl,hb⟩
  have hb2:Below W.heap.size W w2:=hb1.trans (hb.mono hb1.size)
  have HA_2:Hid _:=HA_1.out.below hb
  have HZ_2:Hid _:=HZ_1.out.below hb
  clear zA0 zA1 zA2 zA3 zA4 zA5 zZ0 zZ1 zZ2 zZ3 zZ4 zZ5
  clear hb hb1 HA_1 HZ_1
  go_wp2_with (with_reducible refine st37 rfl (.tmp 2) (.tmp 5) rfl (W.heap.size+1) _ _ _ _ _ _ (by with_unfolding_all rfl) (by with_unfolding_all rfl) HZ_2.out (six_dom _ _ _ _ _ _ _ _ _ _ _ _) ?_)
  refine ⟨rfl,_,R6.res rfl _ (HZ_2.out.set (.bool true) (.slice none 0 0) (.slice none 0 0) (.slice none 0 0) (.int .i64 1) (.int .i64 0)) rfl,⟨_,rfl,?_,below_setRow hb2 (by omega) _⟩⟩
  rw [HT.out]
  exact fun X _=>(none_dv 0 X).di
theorem R6.setc1 {w:World} {g:Nat} {x0 x1 x2 x3 x4 x5:Value} (h:R6 w g x0 x1 x2 x3 x4 x5) (y:Value):w.setCell ⟨g,1,none⟩ y=w.setRow g #[x0,y,x2,x3,x4,x5]:=by
 rw [Sort.setCell_eq]
 exact Sort.mapBlock_congr w g _ (fun _=>#[x0,y,x2,x3,x4,x5]) fun c e fr hc=>by
  rw [h.h] at hc
  injection hc with hc
  injection hc with hc
  subst hc
  rfl
theorem R6.setc2 {w:World} {g:Nat} {x0 x1 x2 x3 x4 x5:Value} (h:R6 w g x0 x1 x2 x3 x4 x5) (y:Value):w.setCell ⟨g,2,none⟩ y=w.setRow g #[x0,x1,y,x3,x4,x5]:=by
 rw [Sort.setCell_eq]
 exact Sort.mapBlock_congr w g _ (fun _=>#[x0,x1,y,x3,x4,x5]) fun c e fr hc=>by
  rw [h.h] at hc
  injection hc with hc
  injection hc with hc
  subst hc
  rfl
theorem R6.setc3 {w:World} {g:Nat} {x0 x1 x2 x3 x4 x5:Value} (h:R6 w g x0 x1 x2 x3 x4 x5) (y:Value):w.setCell ⟨g,3,none⟩ y=w.setRow g #[x0,x1,x2,y,x4,x5]:=by
 rw [Sort.setCell_eq]
 exact Sort.mapBlock_congr w g _ (fun _=>#[x0,x1,x2,y,x4,x5]) fun c e fr hc=>by
  rw [h.h] at hc
  injection hc with hc
  injection hc with hc
  subst hc
  rfl
theorem R6.frozen {w:World} {g:Nat} {x0 x1 x2 x3 x4 x5:Value} (h:R6 w g x0 x1 x2 x3 x4 x5) (i:Nat):w.frozen? ⟨g,i,none⟩=false:=by simp [World.frozen?,h.h]
theorem agg6 {x0 x1 x2 x3:Value} {a b a' b':Int} (h4:a=a') (h5:b=b'):Value.agg #[x0,x1,x2,x3,.int .i64 a,.int .i64 b]=Value.agg #[x0,x1,x2,x3,.int .i64 a',.int .i64 b']:=by rw [h4,h5]
theorem reftight_none (s1 s2:Value) (lo up:List Int) (least most:Int) (W:World) (hS1:Si W s1 lo) (hS2:Si W s2 up) (h1:IsSet lo) (h2:IsSet up) (hs:∀ x∈lo,x∈up) (hc:tightD lo up least most=noneD∧min most up.length<max least lo.length) :
  Calls Tryz.prog 88 #[s1,s2,.int .i64 least,.int .i64 most] W fun e w'=>∃ v,e = .returned v∧Dv W.heap.size w' v (tightD lo up least most)∧Below W.heap.size W w':=by
 have l1:=h1.1
 have l2:=h2.1
 have l12:=set_sub_len h1 h2 hs
 obtain ⟨a1,n1,c1,rfl,HS1,HN1⟩:=si_look hS1
 obtain ⟨a2,n2,c2,rfl,HS2,HN2⟩:=si_look hS2
 rw [HN1.out] at l1 l12 hc
 rw [HN2.out] at l2 l12 hc
 obtain ⟨w0,hW0⟩:∃ X,W.alloc (Obj.cells #[.bool false,.slice none 0 0,.slice none 0 0,.slice none 0 0,.int .i64 0,.int .i64 0] 37)=X:=⟨_,rfl⟩
 have HW0:Hid _:=hW0
 have hb0:Below W.heap.size W w0:=by rw [←hW0];exact (Below.refl _ W).alloc (Nat.le_refl _) _
 have HZ_0:Hid (R6 w0 W.heap.size (.bool false) (.slice none 0 0) (.slice none 0 0) (.slice none 0 0) (.int .i64 0) (.int .i64 0)):=by rw [←hW0];exact R6.new _ _ _ _ _ _ _
 have HSZ0:Hid (w0.heap.size=W.heap.size+1):=by unfold Hid;rw [←hW0];simp
 have HD:Hid (tightD lo up least most=noneD):=hc.1
 have hc2:=hc.2
 clear hW0 hS1 hS2 hs hc
 by_cases hp1:least<(n1:Int)
 ·by_cases hp2:(n2:Int)<most
  ·have q:(n2:Int)<(n1:Int):=by omega
   have q2:decide ((n2:Int)<(n1:Int))=true:=by simpa using q
   go_enter Tryz.func88,Tryz.ntmps88
   go_upto_region 1 with (fail)
   rw [HW0.out]
   go_wp2_with fail
   refine (refnone_at w0).mono ?_
   rintro e w1 ⟨rfl,hb⟩
   have hb1:Below W.heap.size W w1:=hb0.trans (hb.mono hb0.size)
   have HZ_1:Hid _:=HZ_0.out.below hb
   clear hb hb0 HZ_0
   go_wp2_with (with_reducible refine st37 rfl (.tmp 8) (.tmp 25) rfl W.heap.size _ _ _ _ _ _ (by with_unfolding_all rfl) (by with_unfolding_all rfl) HZ_1.out (six_dom _ _ _ _ _ _ _ _ _ _ _ _) ?_)
   refine ⟨rfl,_,R6.res rfl _ (HZ_1.out.set (.bool true) (.slice none 0 0) (.slice none 0 0) (.slice none 0 0) (.int .i64 1) (.int .i64 0)) rfl,⟨_,rfl,?_,below_setRow hb1 (by omega) _⟩⟩
   rw [HD.out]
   exact none_dv _ _
  ·have q:most<(n1:Int):=by omega
   have q2:decide (most<(n1:Int))=true:=by simpa using q
   go_enter Tryz.func88,Tryz.ntmps88
   go_upto_region 1 with (fail)
   rw [HW0.out]
   go_wp2_with fail
   refine (refnone_at w0).mono ?_
   rintro e w1 ⟨rfl,hb⟩
   have hb1:Below W.heap.size W w1:=hb0.trans (hb.mono hb0.size)
   have HZ_1:Hid _:=HZ_0.out.below hb
   clear hb hb0 HZ_0
   go_wp2_with (with_reducible refine st37 rfl (.tmp 8) (.tmp 25) rfl W.heap.size _ _ _ _ _ _ (by with_unfolding_all rfl) (by with_unfolding_all rfl) HZ_1.out (six_dom _ _ _ _ _ _ _ _ _ _ _ _) ?_)
   refine ⟨rfl,_,R6.res rfl _ (HZ_1.out.set (.bool true) (.slice none 0 0) (.slice none 0 0) (.slice none 0 0) (.int .i64 1) (.int .i64 0)) rfl,⟨_,rfl,?_,below_setRow hb1 (by omega) _⟩⟩
   rw [HD.out]
   exact none_dv _ _
 ·by_cases hp2:(n2:Int)<most
  ·have q:(n2:Int)<least:=by omega
   have q2:decide ((n2:Int)<least)=true:=by simpa using q
   go_enter Tryz.func88,Tryz.ntmps88
   go_upto_region 1 with (fail)
   rw [HW0.out]
   go_wp2_with fail
   refine (refnone_at w0).mono ?_
   rintro e w1 ⟨rfl,hb⟩
   have hb1:Below W.heap.size W w1:=hb0.trans (hb.mono hb0.size)
   have HZ_1:Hid _:=HZ_0.out.below hb
   clear hb hb0 HZ_0
   go_wp2_with (with_reducible refine st37 rfl (.tmp 8) (.tmp 25) rfl W.heap.size _ _ _ _ _ _ (by with_unfolding_all rfl) (by with_unfolding_all rfl) HZ_1.out (six_dom _ _ _ _ _ _ _ _ _ _ _ _) ?_)
   refine ⟨rfl,_,R6.res rfl _ (HZ_1.out.set (.bool true) (.slice none 0 0) (.slice none 0 0) (.slice none 0 0) (.int .i64 1) (.int .i64 0)) rfl,⟨_,rfl,?_,below_setRow hb1 (by omega) _⟩⟩
   rw [HD.out]
   exact none_dv _ _
  ·have q:most<least:=by omega
   have q2:decide (most<least)=true:=by simpa using q
   go_enter Tryz.func88,Tryz.ntmps88
   go_upto_region 1 with (fail)
   rw [HW0.out]
   go_wp2_with fail
   refine (refnone_at w0).mono ?_
   rintro e w1 ⟨rfl,hb⟩
   have hb1:Below W.heap.size W w1:=hb0.trans (hb.mono hb0.size)
   have HZ_1:Hid _:=HZ_0.out.below hb
   clear hb hb0 HZ_0
   go_wp2_with (with_reducible refine st37 rfl (.tmp 8) (.tmp 25) rfl W.heap.size _ _ _ _ _ _ (by with_unfolding_all rfl) (by with_unfolding_all rfl) HZ_1.out (six_dom _ _ _ _ _ _ _ _ _ _ _ _) ?_)
   refine ⟨rfl,_,R6.res rfl _ (HZ_1.out.set (.bool true) (.slice none 0 0) (.slice none 0 0) (.slice none 0 0) (.int .i64 1) (.int .i64 0)) rfl,⟨_,rfl,?_,below_setRow hb1 (by omega) _⟩⟩
   rw [HD.out]
   exact none_dv _ _
theorem reftight_up (s1 s2:Value) (lo up:List Int) (least most:Int) (W:World) (hS1:Si W s1 lo) (hS2:Si W s2 up) (h1:IsSet lo) (h2:IsSet up) (hs:∀ x∈lo,x∈up) (hc:tightD lo up least most=TD up up up.length up.length∧max least lo.length=up.length∧(up.length:Int)≤most) :
  Calls Tryz.prog 88 #[s1,s2,.int .i64 least,.int .i64 most] W fun e w'=>∃ v,e = .returned v∧Dv W.heap.size w' v (tightD lo up least most)∧Below W.heap.size W w':=by
 have l1:=h1.1
 have l2:=h2.1
 have l12:=set_sub_len h1 h2 hs
 obtain ⟨a1,n1,c1,rfl,HS1,HN1⟩:=si_look hS1
 obtain ⟨a2,n2,c2,rfl,HS2,HN2⟩:=si_look hS2
 rw [HN1.out] at l1 l12 hc
 rw [HN2.out] at l2 l12 hc
 obtain ⟨w0,hW0⟩:∃ X,W.alloc (Obj.cells #[.bool false,.slice none 0 0,.slice none 0 0,.slice none 0 0,.int .i64 0,.int .i64 0] 37)=X:=⟨_,rfl⟩
 have HW0:Hid _:=hW0
 have hb0:Below W.heap.size W w0:=by rw [←hW0];exact (Below.refl _ W).alloc (Nat.le_refl _) _
 have HZ_0:Hid (R6 w0 W.heap.size (.bool false) (.slice none 0 0) (.slice none 0 0) (.slice none 0 0) (.int .i64 0) (.int .i64 0)):=by rw [←hW0];exact R6.new _ _ _ _ _ _ _
 have HSZ0:Hid (w0.heap.size=W.heap.size+1):=by unfold Hid;rw [←hW0];simp
 have HD:Hid (tightD lo up least most=TD up up n2 n2):=hc.1
 have hc2:=hc.2
 clear hW0 hS1 hS2 hs hc
 by_cases hp1:least<(n1:Int)
 ·by_cases hp2:(n2:Int)<most
  ·have q5:¬(n2:Int)<(n1:Int):=by omega
   have q7:((n1:Int)==(n2:Int))=true:=by simp<;>omega
   have q9:((n2:Int)==(n2:Int))=true:=by simp<;>omega
   have q11:¬(n1:Int)<(n2:Int):=by omega
   have q13:¬(n2:Int)<(n2:Int):=by omega
   have HLQ:Hid ((n2:Int)=(n1:Int)):=by unfold Hid;omega
   have HMQ:Hid ((n2:Int)=(n2:Int)):=by unfold Hid;omega
   go_enter Tryz.func88,Tryz.ntmps88
   go_upto_region 1 with (fail)
   rw [HW0.out]
   have hzb:=(Below.refl w0.heap.size w0).alloc (Nat.le_refl _) (Obj.cells #[.bool true,.slice none 0 0,.slice none 0 0,.slice none 0 0,.int .i64 (n1:Int),.int .i64 (n2:Int)] 37)
   have hb1:=hb0.trans (hzb.mono hb0.size)
   have HG_1:Hid _:=R6.new w0 (.bool true) (.slice none 0 0) (.slice none 0 0) (.slice none 0 0) (.int .i64 (n1:Int)) (.int .i64 (n2:Int))
   have HZ_1:Hid _:=HZ_0.out.below hzb
   go_upto_region 16 with (fail)
   clear hb0 HZ_0 hzb HW0
   generalize w0.alloc (Obj.cells #[.bool true,.slice none 0 0,.slice none 0 0,.slice none 0 0,.int .i64 (n1:Int),.int .i64 (n2:Int)] 37)=w1 at hb1 HG_1 HZ_1 ⊢
   have hGW:W.heap.size<w0.heap.size:=by rw [HSZ0.out];omega
   generalize w0.heap.size=G at HG_1 hGW ⊢
   clear HSZ0
   obtain ⟨z0,z1,z2,z3,z4,z5⟩:=HG_1.out.cells
   have hnil:w1.ownsRow w1.heap.size 2 1 (.slice none 0 0) 0 (intv []):=by simpa [intv] using World.ownsRow_nil _ _ _ _
   have hsi:Si w1 (.slice a2 n2 c2) up:=HS2.out.below hb1
   go_upto_region 17 with (at_builtin;refine wpList_app_sr _ rfl _ _ rfl w1.heap.size _ 0 [] rfl hnil rfl _ up rfl hsi (by have:=h1.1;have:=h2.1;simp<;>omega) (Nat.le_refl _) ?_;intro v9 w2 hr hbel;have hrow:w2.ownsRow w1.heap.size 2 1 v9 up.length (intv up):=(by simpa using hr);obtain ⟨p1,d1,rfl⟩:=own_slice hrow;have HG_2:Hid _:=HG_1.out.below hbel;have HZ_2:Hid _:=HZ_1.out.below hbel;have O1_2:Hid _:=own_base hrow hb1.size;have hb2:=hb1.trans (hbel.mono hb1.size);clear z0 z1 z2 z3 z4 z5 hr hrow hbel;obtain ⟨z0,z1,z2,z3,z4,z5⟩:=HG_2.out.cells;have fz:=HG_2.out.frozen 2)
   rw [HG_2.out.setc2]
   clear hnil hsi z0 z1 z2 z3 z4 z5 fz
   have HG_3:Hid _:=HG_2.out.set (.bool true) (.slice none 0 0) (.slice p1 up.length d1) (.slice none 0 0) (.int .i64 (n1:Int)) (.int .i64 (n2:Int))
   have HZ_3:Hid _:=HZ_2.out.other (show W.heap.size≠G by omega) #[.bool true,.slice none 0 0,.slice p1 up.length d1,.slice none 0 0,.int .i64 (n1:Int),.int .i64 (n2:Int)]
   have O1_3:Hid _:=own_setRow O1_2.out G #[.bool true,.slice none 0 0,.slice p1 up.length d1,.slice none 0 0,.int .i64 (n1:Int),.int .i64 (n2:Int)] HG_2.out.h
   have hb3:=below_setRow hb2 (show W.heap.size≤G by omega) #[.bool true,.slice none 0 0,.slice p1 up.length d1,.slice none 0 0,.int .i64 (n1:Int),.int .i64 (n2:Int)]
   clear HG_1 HZ_1 HG_2 HZ_2 O1_2 hb1 hb2
   generalize w2.setRow G #[.bool true,.slice none 0 0,.slice p1 up.length d1,.slice none 0 0,.int .i64 (n1:Int),.int .i64 (n2:Int)]=w3 at HG_3 HZ_3 O1_3 hb3 ⊢
   obtain ⟨z0,z1,z2,z3,z4,z5⟩:=HG_3.out.cells
   have hnil:w3.ownsRow w3.heap.size 2 1 (.slice none 0 0) 0 (intv []):=by simpa [intv] using World.ownsRow_nil _ _ _ _
   have hsi:Si w3 (.slice a2 n2 c2) up:=HS2.out.below hb3
   go_upto_region 18 with (at_builtin;refine wpList_app_sr _ rfl _ _ rfl w3.heap.size _ 0 [] rfl hnil rfl _ up rfl hsi (by have:=h1.1;have:=h2.1;simp<;>omega) (Nat.le_refl _) ?_;intro v9 w4 hr hbel;have hrow:w4.ownsRow w3.heap.size 2 1 v9 up.length (intv up):=(by simpa using hr);obtain ⟨p3,d3,rfl⟩:=own_slice hrow;have HG_4:Hid _:=HG_3.out.below hbel;have HZ_4:Hid _:=HZ_3.out.below hbel;have O3_4:Hid _:=own_base hrow hb3.size;have hb4:=hb3.trans (hbel.mono hb3.size);have O1_4:Hid _:=own_keepB O1_3.out hbel;clear z0 z1 z2 z3 z4 z5 hr hrow hbel;obtain ⟨z0,z1,z2,z3,z4,z5⟩:=HG_4.out.cells;have fz:=HG_4.out.frozen 3)
   rw [HG_4.out.setc3]
   clear hnil hsi z0 z1 z2 z3 z4 z5 fz
   have HG_5:Hid _:=HG_4.out.set (.bool true) (.slice none 0 0) (.slice p1 up.length d1) (.slice p3 up.length d3) (.int .i64 (n1:Int)) (.int .i64 (n2:Int))
   have HZ_5:Hid _:=HZ_4.out.other (show W.heap.size≠G by omega) #[.bool true,.slice none 0 0,.slice p1 up.length d1,.slice p3 up.length d3,.int .i64 (n1:Int),.int .i64 (n2:Int)]
   have O1_5:Hid _:=own_setRow O1_4.out G #[.bool true,.slice none 0 0,.slice p1 up.length d1,.slice p3 up.length d3,.int .i64 (n1:Int),.int .i64 (n2:Int)] HG_4.out.h
   have O3_5:Hid _:=own_setRow O3_4.out G #[.bool true,.slice none 0 0,.slice p1 up.length d1,.slice p3 up.length d3,.int .i64 (n1:Int),.int .i64 (n2:Int)] HG_4.out.h
   have hb5:=below_setRow hb4 (show W.heap.size≤G by omega) #[.bool true,.slice none 0 0,.slice p1 up.length d1,.slice p3 up.length d3,.int .i64 (n1:Int),.int .i64 (n2:Int)]
   clear HG_3 HZ_3 HG_4 HZ_4 O1_3 O1_4 O3_4 hb3 hb4
   generalize w4.setRow G #[.bool true,.slice none 0 0,.slice p1 up.length d1,.slice p3 up.length d3,.int .i64 (n1:Int),.int .i64 (n2:Int)]=w5 at HG_5 HZ_5 O1_5 O3_5 hb5 ⊢
   obtain ⟨z0,z1,z2,z3,z4,z5⟩:=HG_5.out.cells
   go_wp2_with (with_reducible refine st37 rfl (.tmp 8) (.tmp 61) rfl W.heap.size _ _ _ _ _ _ (by with_unfolding_all rfl) (by with_unfolding_all rfl) HZ_5.out (six_dom _ _ _ _ _ _ _ _ _ _ _ _) ?_)
   refine ⟨rfl,_,R6.res rfl _ (HZ_5.out.set (.bool true) (.slice none 0 0) (.slice p1 up.length d1) (.slice p3 up.length d3) (.int .i64 (n1:Int)) (.int .i64 (n2:Int))) rfl,⟨_,rfl,?_,below_setRow hb5 (Nat.le_refl _) _⟩⟩
   rw [HD.out]
   exact ⟨_,_,agg6 (by first | rfl | exact HLQ.out.symm | omega) (by first | rfl | exact HMQ.out.symm | omega),rfl,own_setRow O1_5.out _ _ HZ_5.out.h,own_setRow O3_5.out _ _ HZ_5.out.h⟩
  ·have q5:¬most<(n1:Int):=by omega
   have q7:((n1:Int)==(n2:Int))=true:=by simp<;>omega
   have q9:(most==(n2:Int))=true:=by simp<;>omega
   have q11:¬(n1:Int)<(n2:Int):=by omega
   have q13:¬(n2:Int)<most:=by omega
   have HLQ:Hid ((n2:Int)=(n1:Int)):=by unfold Hid;omega
   have HMQ:Hid ((n2:Int)=most):=by unfold Hid;omega
   go_enter Tryz.func88,Tryz.ntmps88
   go_upto_region 1 with (fail)
   rw [HW0.out]
   have hzb:=(Below.refl w0.heap.size w0).alloc (Nat.le_refl _) (Obj.cells #[.bool true,.slice none 0 0,.slice none 0 0,.slice none 0 0,.int .i64 (n1:Int),.int .i64 most] 37)
   have hb1:=hb0.trans (hzb.mono hb0.size)
   have HG_1:Hid _:=R6.new w0 (.bool true) (.slice none 0 0) (.slice none 0 0) (.slice none 0 0) (.int .i64 (n1:Int)) (.int .i64 most)
   have HZ_1:Hid _:=HZ_0.out.below hzb
   go_upto_region 16 with (fail)
   clear hb0 HZ_0 hzb HW0
   generalize w0.alloc (Obj.cells #[.bool true,.slice none 0 0,.slice none 0 0,.slice none 0 0,.int .i64 (n1:Int),.int .i64 most] 37)=w1 at hb1 HG_1 HZ_1 ⊢
   have hGW:W.heap.size<w0.heap.size:=by rw [HSZ0.out];omega
   generalize w0.heap.size=G at HG_1 hGW ⊢
   clear HSZ0
   obtain ⟨z0,z1,z2,z3,z4,z5⟩:=HG_1.out.cells
   have hnil:w1.ownsRow w1.heap.size 2 1 (.slice none 0 0) 0 (intv []):=by simpa [intv] using World.ownsRow_nil _ _ _ _
   have hsi:Si w1 (.slice a2 n2 c2) up:=HS2.out.below hb1
   go_upto_region 17 with (at_builtin;refine wpList_app_sr _ rfl _ _ rfl w1.heap.size _ 0 [] rfl hnil rfl _ up rfl hsi (by have:=h1.1;have:=h2.1;simp<;>omega) (Nat.le_refl _) ?_;intro v9 w2 hr hbel;have hrow:w2.ownsRow w1.heap.size 2 1 v9 up.length (intv up):=(by simpa using hr);obtain ⟨p1,d1,rfl⟩:=own_slice hrow;have HG_2:Hid _:=HG_1.out.below hbel;have HZ_2:Hid _:=HZ_1.out.below hbel;have O1_2:Hid _:=own_base hrow hb1.size;have hb2:=hb1.trans (hbel.mono hb1.size);clear z0 z1 z2 z3 z4 z5 hr hrow hbel;obtain ⟨z0,z1,z2,z3,z4,z5⟩:=HG_2.out.cells;have fz:=HG_2.out.frozen 2)
   rw [HG_2.out.setc2]
   clear hnil hsi z0 z1 z2 z3 z4 z5 fz
   have HG_3:Hid _:=HG_2.out.set (.bool true) (.slice none 0 0) (.slice p1 up.length d1) (.slice none 0 0) (.int .i64 (n1:Int)) (.int .i64 most)
   have HZ_3:Hid _:=HZ_2.out.other (show W.heap.size≠G by omega) #[.bool true,.slice none 0 0,.slice p1 up.length d1,.slice none 0 0,.int .i64 (n1:Int),.int .i64 most]
   have O1_3:Hid _:=own_setRow O1_2.out G #[.bool true,.slice none 0 0,.slice p1 up.length d1,.slice none 0 0,.int .i64 (n1:Int),.int .i64 most] HG_2.out.h
   have hb3:=below_setRow hb2 (show W.heap.size≤G by omega) #[.bool true,.slice none 0 0,.slice p1 up.length d1,.slice none 0 0,.int .i64 (n1:Int),.int .i64 most]
   clear HG_1 HZ_1 HG_2 HZ_2 O1_2 hb1 hb2
   generalize w2.setRow G #[.bool true,.slice none 0 0,.slice p1 up.length d1,.slice none 0 0,.int .i64 (n1:Int),.int .i64 most]=w3 at HG_3 HZ_3 O1_3 hb3 ⊢
   obtain ⟨z0,z1,z2,z3,z4,z5⟩:=HG_3.out.cells
   have hnil:w3.ownsRow w3.heap.size 2 1 (.slice none 0 0) 0 (intv []):=by simpa [intv] using World.ownsRow_nil _ _ _ _
   have hsi:Si w3 (.slice a2 n2 c2) up:=HS2.out.below hb3
   go_upto_region 18 with (at_builtin;refine wpList_app_sr _ rfl _ _ rfl w3.heap.size _ 0 [] rfl hnil rfl _ up rfl hsi (by have:=h1.1;have:=h2.1;simp<;>omega) (Nat.le_refl _) ?_;intro v9 w4 hr hbel;have hrow:w4.ownsRow w3.heap.size 2 1 v9 up.length (intv up):=(by simpa using hr);obtain ⟨p3,d3,rfl⟩:=own_slice hrow;have HG_4:Hid _:=HG_3.out.below hbel;have HZ_4:Hid _:=HZ_3.out.below hbel;have O3_4:Hid _:=own_base hrow hb3.size;have hb4:=hb3.trans (hbel.mono hb3.size);have O1_4:Hid _:=own_keepB O1_3.out hbel;clear z0 z1 z2 z3 z4 z5 hr hrow hbel;obtain ⟨z0,z1,z2,z3,z4,z5⟩:=HG_4.out.cells;have fz:=HG_4.out.frozen 3)
   rw [HG_4.out.setc3]
   clear hnil hsi z0 z1 z2 z3 z4 z5 fz
   have HG_5:Hid _:=HG_4.out.set (.bool true) (.slice none 0 0) (.slice p1 up.length d1) (.slice p3 up.length d3) (.int .i64 (n1:Int)) (.int .i64 most)
   have HZ_5:Hid _:=HZ_4.out.other (show W.heap.size≠G by omega) #[.bool true,.slice none 0 0,.slice p1 up.length d1,.slice p3 up.length d3,.int .i64 (n1:Int),.int .i64 most]
   have O1_5:Hid _:=own_setRow O1_4.out G #[.bool true,.slice none 0 0,.slice p1 up.length d1,.slice p3 up.length d3,.int .i64 (n1:Int),.int .i64 most] HG_4.out.h
   have O3_5:Hid _:=own_setRow O3_4.out G #[.bool true,.slice none 0 0,.slice p1 up.length d1,.slice p3 up.length d3,.int .i64 (n1:Int),.int .i64 most] HG_4.out.h
   have hb5:=below_setRow hb4 (show W.heap.size≤G by omega) #[.bool true,.slice none 0 0,.slice p1 up.length d1,.slice p3 up.length d3,.int .i64 (n1:Int),.int .i64 most]
   clear HG_3 HZ_3 HG_4 HZ_4 O1_3 O1_4 O3_4 hb3 hb4
   generalize w4.setRow G #[.bool true,.slice none 0 0,.slice p1 up.length d1,.slice p3 up.length d3,.int .i64 (n1:Int),.int .i64 most]=w5 at HG_5 HZ_5 O1_5 O3_5 hb5 ⊢
   obtain ⟨z0,z1,z2,z3,z4,z5⟩:=HG_5.out.cells
   go_wp2_with (with_reducible refine st37 rfl (.tmp 8) (.tmp 61) rfl W.heap.size _ _ _ _ _ _ (by with_unfolding_all rfl) (by with_unfolding_all rfl) HZ_5.out (six_dom _ _ _ _ _ _ _ _ _ _ _ _) ?_)
   refine ⟨rfl,_,R6.res rfl _ (HZ_5.out.set (.bool true) (.slice none 0 0) (.slice p1 up.length d1) (.slice p3 up.length d3) (.int .i64 (n1:Int)) (.int .i64 most)) rfl,⟨_,rfl,?_,below_setRow hb5 (Nat.le_refl _) _⟩⟩
   rw [HD.out]
   exact ⟨_,_,agg6 (by first | rfl | exact HLQ.out.symm | omega) (by first | rfl | exact HMQ.out.symm | omega),rfl,own_setRow O1_5.out _ _ HZ_5.out.h,own_setRow O3_5.out _ _ HZ_5.out.h⟩
 ·by_cases hp2:(n2:Int)<most
  ·have q5:¬(n2:Int)<least:=by omega
   have q7:(least==(n2:Int))=true:=by simp<;>omega
   have q9:((n2:Int)==(n2:Int))=true:=by simp<;>omega
   have q11:¬least<(n2:Int):=by omega
   have q13:¬(n2:Int)<(n2:Int):=by omega
   have HLQ:Hid ((n2:Int)=least):=by unfold Hid;omega
   have HMQ:Hid ((n2:Int)=(n2:Int)):=by unfold Hid;omega
   go_enter Tryz.func88,Tryz.ntmps88
   go_upto_region 1 with (fail)
   rw [HW0.out]
   have hzb:=(Below.refl w0.heap.size w0).alloc (Nat.le_refl _) (Obj.cells #[.bool true,.slice none 0 0,.slice none 0 0,.slice none 0 0,.int .i64 least,.int .i64 (n2:Int)] 37)
   have hb1:=hb0.trans (hzb.mono hb0.size)
   have HG_1:Hid _:=R6.new w0 (.bool true) (.slice none 0 0) (.slice none 0 0) (.slice none 0 0) (.int .i64 least) (.int .i64 (n2:Int))
   have HZ_1:Hid _:=HZ_0.out.below hzb
   go_upto_region 16 with (fail)
   clear hb0 HZ_0 hzb HW0
   generalize w0.alloc (Obj.cells #[.bool true,.slice none 0 0,.slice none 0 0,.slice none 0 0,.int .i64 least,.int .i64 (n2:Int)] 37)=w1 at hb1 HG_1 HZ_1 ⊢
   have hGW:W.heap.size<w0.heap.size:=by rw [HSZ0.out];omega
   generalize w0.heap.size=G at HG_1 hGW ⊢
   clear HSZ0
   obtain ⟨z0,z1,z2,z3,z4,z5⟩:=HG_1.out.cells
   have hnil:w1.ownsRow w1.heap.size 2 1 (.slice none 0 0) 0 (intv []):=by simpa [intv] using World.ownsRow_nil _ _ _ _
   have hsi:Si w1 (.slice a2 n2 c2) up:=HS2.out.below hb1
   go_upto_region 17 with (at_builtin;refine wpList_app_sr _ rfl _ _ rfl w1.heap.size _ 0 [] rfl hnil rfl _ up rfl hsi (by have:=h1.1;have:=h2.1;simp<;>omega) (Nat.le_refl _) ?_;intro v9 w2 hr hbel;have hrow:w2.ownsRow w1.heap.size 2 1 v9 up.length (intv up):=(by simpa using hr);obtain ⟨p1,d1,rfl⟩:=own_slice hrow;have HG_2:Hid _:=HG_1.out.below hbel;have HZ_2:Hid _:=HZ_1.out.below hbel;have O1_2:Hid _:=own_base hrow hb1.size;have hb2:=hb1.trans (hbel.mono hb1.size);clear z0 z1 z2 z3 z4 z5 hr hrow hbel;obtain ⟨z0,z1,z2,z3,z4,z5⟩:=HG_2.out.cells;have fz:=HG_2.out.frozen 2)
   rw [HG_2.out.setc2]
   clear hnil hsi z0 z1 z2 z3 z4 z5 fz
   have HG_3:Hid _:=HG_2.out.set (.bool true) (.slice none 0 0) (.slice p1 up.length d1) (.slice none 0 0) (.int .i64 least) (.int .i64 (n2:Int))
   have HZ_3:Hid _:=HZ_2.out.other (show W.heap.size≠G by omega) #[.bool true,.slice none 0 0,.slice p1 up.length d1,.slice none 0 0,.int .i64 least,.int .i64 (n2:Int)]
   have O1_3:Hid _:=own_setRow O1_2.out G #[.bool true,.slice none 0 0,.slice p1 up.length d1,.slice none 0 0,.int .i64 least,.int .i64 (n2:Int)] HG_2.out.h
   have hb3:=below_setRow hb2 (show W.heap.size≤G by omega) #[.bool true,.slice none 0 0,.slice p1 up.length d1,.slice none 0 0,.int .i64 least,.int .i64 (n2:Int)]
   clear HG_1 HZ_1 HG_2 HZ_2 O1_2 hb1 hb2
   generalize w2.setRow G #[.bool true,.slice none 0 0,.slice p1 up.length d1,.slice none 0 0,.int .i64 least,.int .i64 (n2:Int)]=w3 at HG_3 HZ_3 O1_3 hb3 ⊢
   obtain ⟨z0,z1,z2,z3,z4,z5⟩:=HG_3.out.cells
   have hnil:w3.ownsRow w3.heap.size 2 1 (.slice none 0 0) 0 (intv []):=by simpa [intv] using World.ownsRow_nil _ _ _ _
   have hsi:Si w3 (.slice a2 n2 c2) up:=HS2.out.below hb3
   go_upto_region 18 with (at_builtin;refine wpList_app_sr _ rfl _ _ rfl w3.heap.size _ 0 [] rfl hnil rfl _ up rfl hsi (by have:=h1.1;have:=h2.1;simp<;>omega) (Nat.le_refl _) ?_;intro v9 w4 hr hbel;have hrow:w4.ownsRow w3.heap.size 2 1 v9 up.length (intv up):=(by simpa using hr);obtain ⟨p3,d3,rfl⟩:=own_slice hrow;have HG_4:Hid _:=HG_3.out.below hbel;have HZ_4:Hid _:=HZ_3.out.below hbel;have O3_4:Hid _:=own_base hrow hb3.size;have hb4:=hb3.trans (hbel.mono hb3.size);have O1_4:Hid _:=own_keepB O1_3.out hbel;clear z0 z1 z2 z3 z4 z5 hr hrow hbel;obtain ⟨z0,z1,z2,z3,z4,z5⟩:=HG_4.out.cells;have fz:=HG_4.out.frozen 3)
   rw [HG_4.out.setc3]
   clear hnil hsi z0 z1 z2 z3 z4 z5 fz
   have HG_5:Hid _:=HG_4.out.set (.bool true) (.slice none 0 0) (.slice p1 up.length d1) (.slice p3 up.length d3) (.int .i64 least) (.int .i64 (n2:Int))
   have HZ_5:Hid _:=HZ_4.out.other (show W.heap.size≠G by omega) #[.bool true,.slice none 0 0,.slice p1 up.length d1,.slice p3 up.length d3,.int .i64 least,.int .i64 (n2:Int)]
   have O1_5:Hid _:=own_setRow O1_4.out G #[.bool true,.slice none 0 0,.slice p1 up.length d1,.slice p3 up.length d3,.int .i64 least,.int .i64 (n2:Int)] HG_4.out.h
   have O3_5:Hid _:=own_setRow O3_4.out G #[.bool true,.slice none 0 0,.slice p1 up.length d1,.slice p3 up.length d3,.int .i64 least,.int .i64 (n2:Int)] HG_4.out.h
   have hb5:=below_setRow hb4 (show W.heap.size≤G by omega) #[.bool true,.slice none 0 0,.slice p1 up.length d1,.slice p3 up.length d3,.int .i64 least,.int .i64 (n2:Int)]
   clear HG_3 HZ_3 HG_4 HZ_4 O1_3 O1_4 O3_4 hb3 hb4
   generalize w4.setRow G #[.bool true,.slice none 0 0,.slice p1 up.length d1,.slice p3 up.length d3,.int .i64 least,.int .i64 (n2:Int)]=w5 at HG_5 HZ_5 O1_5 O3_5 hb5 ⊢
   obtain ⟨z0,z1,z2,z3,z4,z5⟩:=HG_5.out.cells
   go_wp2_with (with_reducible refine st37 rfl (.tmp 8) (.tmp 61) rfl W.heap.size _ _ _ _ _ _ (by with_unfolding_all rfl) (by with_unfolding_all rfl) HZ_5.out (six_dom _ _ _ _ _ _ _ _ _ _ _ _) ?_)
   refine ⟨rfl,_,R6.res rfl _ (HZ_5.out.set (.bool true) (.slice none 0 0) (.slice p1 up.length d1) (.slice p3 up.length d3) (.int .i64 least) (.int .i64 (n2:Int))) rfl,⟨_,rfl,?_,below_setRow hb5 (Nat.le_refl _) _⟩⟩
   rw [HD.out]
   exact ⟨_,_,agg6 (by first | rfl | exact HLQ.out.symm | omega) (by first | rfl | exact HMQ.out.symm | omega),rfl,own_setRow O1_5.out _ _ HZ_5.out.h,own_setRow O3_5.out _ _ HZ_5.out.h⟩
  ·have q5:¬most<least:=by omega
   have q7:(least==(n2:Int))=true:=by simp<;>omega
   have q9:(most==(n2:Int))=true:=by simp<;>omega
   have q11:¬least<(n2:Int):=by omega
   have q13:¬(n2:Int)<most:=by omega
   have HLQ:Hid ((n2:Int)=least):=by unfold Hid;omega
   have HMQ:Hid ((n2:Int)=most):=by unfold Hid;omega
   go_enter Tryz.func88,Tryz.ntmps88
   go_upto_region 1 with (fail)
   rw [HW0.out]
   have hzb:=(Below.refl w0.heap.size w0).alloc (Nat.le_refl _) (Obj.cells #[.bool true,.slice none 0 0,.slice none 0 0,.slice none 0 0,.int .i64 least,.int .i64 most] 37)
   have hb1:=hb0.trans (hzb.mono hb0.size)
   have HG_1:Hid _:=R6.new w0 (.bool true) (.slice none 0 0) (.slice none 0 0) (.slice none 0 0) (.int .i64 least) (.int .i64 most)
   have HZ_1:Hid _:=HZ_0.out.below hzb
   go_upto_region 16 with (fail)
   clear hb0 HZ_0 hzb HW0
   generalize w0.alloc (Obj.cells #[.bool true,.slice none 0 0,.slice none 0 0,.slice none 0 0,.int .i64 least,.int .i64 most] 37)=w1 at hb1 HG_1 HZ_1 ⊢
   have hGW:W.heap.size<w0.heap.size:=by rw [HSZ0.out];omega
   generalize w0.heap.size=G at HG_1 hGW ⊢
   clear HSZ0
   obtain ⟨z0,z1,z2,z3,z4,z5⟩:=HG_1.out.cells
   have hnil:w1.ownsRow w1.heap.size 2 1 (.slice none 0 0) 0 (intv []):=by simpa [intv] using World.ownsRow_nil _ _ _ _
   have hsi:Si w1 (.slice a2 n2 c2) up:=HS2.out.below hb1
   go_upto_region 17 with (at_builtin;refine wpList_app_sr _ rfl _ _ rfl w1.heap.size _ 0 [] rfl hnil rfl _ up rfl hsi (by have:=h1.1;have:=h2.1;simp<;>omega) (Nat.le_refl _) ?_;intro v9 w2 hr hbel;have hrow:w2.ownsRow w1.heap.size 2 1 v9 up.length (intv up):=(by simpa using hr);obtain ⟨p1,d1,rfl⟩:=own_slice hrow;have HG_2:Hid _:=HG_1.out.below hbel;have HZ_2:Hid _:=HZ_1.out.below hbel;have O1_2:Hid _:=own_base hrow hb1.size;have hb2:=hb1.trans (hbel.mono hb1.size);clear z0 z1 z2 z3 z4 z5 hr hrow hbel;obtain ⟨z0,z1,z2,z3,z4,z5⟩:=HG_2.out.cells;have fz:=HG_2.out.frozen 2)
   rw [HG_2.out.setc2]
   clear hnil hsi z0 z1 z2 z3 z4 z5 fz
   have HG_3:Hid _:=HG_2.out.set (.bool true) (.slice none 0 0) (.slice p1 up.length d1) (.slice none 0 0) (.int .i64 least) (.int .i64 most)
   have HZ_3:Hid _:=HZ_2.out.other (show W.heap.size≠G by omega) #[.bool true,.slice none 0 0,.slice p1 up.length d1,.slice none 0 0,.int .i64 least,.int .i64 most]
   have O1_3:Hid _:=own_setRow O1_2.out G #[.bool true,.slice none 0 0,.slice p1 up.length d1,.slice none 0 0,.int .i64 least,.int .i64 most] HG_2.out.h
   have hb3:=below_setRow hb2 (show W.heap.size≤G by omega) #[.bool true,.slice none 0 0,.slice p1 up.length d1,.slice none 0 0,.int .i64 least,.int .i64 most]
   clear HG_1 HZ_1 HG_2 HZ_2 O1_2 hb1 hb2
   generalize w2.setRow G #[.bool true,.slice none 0 0,.slice p1 up.length d1,.slice none 0 0,.int .i64 least,.int .i64 most]=w3 at HG_3 HZ_3 O1_3 hb3 ⊢
   obtain ⟨z0,z1,z2,z3,z4,z5⟩:=HG_3.out.cells
   have hnil:w3.ownsRow w3.heap.size 2 1 (.slice none 0 0) 0 (intv []):=by simpa [intv] using World.ownsRow_nil _ _ _ _
   have hsi:Si w3 (.slice a2 n2 c2) up:=HS2.out.below hb3
   go_upto_region 18 with (at_builtin;refine wpList_app_sr _ rfl _ _ rfl w3.heap.size _ 0 [] rfl hnil rfl _ up rfl hsi (by have:=h1.1;have:=h2.1;simp<;>omega) (Nat.le_refl _) ?_;intro v9 w4 hr hbel;have hrow:w4.ownsRow w3.heap.size 2 1 v9 up.length (intv up):=(by simpa using hr);obtain ⟨p3,d3,rfl⟩:=own_slice hrow;have HG_4:Hid _:=HG_3.out.below hbel;have HZ_4:Hid _:=HZ_3.out.below hbel;have O3_4:Hid _:=own_base hrow hb3.size;have hb4:=hb3.trans (hbel.mono hb3.size);have O1_4:Hid _:=own_keepB O1_3.out hbel;clear z0 z1 z2 z3 z4 z5 hr hrow hbel;obtain ⟨z0,z1,z2,z3,z4,z5⟩:=HG_4.out.cells;have fz:=HG_4.out.frozen 3)
   rw [HG_4.out.setc3]
   clear hnil hsi z0 z1 z2 z3 z4 z5 fz
   have HG_5:Hid _:=HG_4.out.set (.bool true) (.slice none 0 0) (.slice p1 up.length d1) (.slice p3 up.length d3) (.int .i64 least) (.int .i64 most)
   have HZ_5:Hid _:=HZ_4.out.other (show W.heap.size≠G by omega) #[.bool true,.slice none 0 0,.slice p1 up.length d1,.slice p3 up.length d3,.int .i64 least,.int .i64 most]
   have O1_5:Hid _:=own_setRow O1_4.out G #[.bool true,.slice none 0 0,.slice p1 up.length d1,.slice p3 up.length d3,.int .i64 least,.int .i64 most] HG_4.out.h
   have O3_5:Hid _:=own_setRow O3_4.out G #[.bool true,.slice none 0 0,.slice p1 up.length d1,.slice p3 up.length d3,.int .i64 least,.int .i64 most] HG_4.out.h
   have hb5:=below_setRow hb4 (show W.heap.size≤G by omega) #[.bool true,.slice none 0 0,.slice p1 up.length d1,.slice p3 up.length d3,.int .i64 least,.int .i64 most]
   clear HG_3 HZ_3 HG_4 HZ_4 O1_3 O1_4 O3_4 hb3 hb4
   generalize w4.setRow G #[.bool true,.slice none 0 0,.slice p1 up.length d1,.slice p3 up.length d3,.int .i64 least,.int .i64 most]=w5 at HG_5 HZ_5 O1_5 O3_5 hb5 ⊢
   obtain ⟨z0,z1,z2,z3,z4,z5⟩:=HG_5.out.cells
   go_wp2_with (with_reducible refine st37 rfl (.tmp 8) (.tmp 61) rfl W.heap.size _ _ _ _ _ _ (by with_unfolding_all rfl) (by with_unfolding_all rfl) HZ_5.out (six_dom _ _ _ _ _ _ _ _ _ _ _ _) ?_)
   refine ⟨rfl,_,R6.res rfl _ (HZ_5.out.set (.bool true) (.slice none 0 0) (.slice p1 up.length d1) (.slice p3 up.length d3) (.int .i64 least) (.int .i64 most)) rfl,⟨_,rfl,?_,below_setRow hb5 (Nat.le_refl _) _⟩⟩
   rw [HD.out]
   exact ⟨_,_,agg6 (by first | rfl | exact HLQ.out.symm | omega) (by first | rfl | exact HMQ.out.symm | omega),rfl,own_setRow O1_5.out _ _ HZ_5.out.h,own_setRow O3_5.out _ _ HZ_5.out.h⟩
theorem reftight_lo (s1 s2:Value) (lo up:List Int) (least most:Int) (W:World) (hS1:Si W s1 lo) (hS2:Si W s2 up) (h1:IsSet lo) (h2:IsSet up) (hs:∀ x∈lo,x∈up) (hc:tightD lo up least most=TD lo lo lo.length lo.length∧min most up.length=lo.length∧least≤lo.length∧lo.length<up.length) :
  Calls Tryz.prog 88 #[s1,s2,.int .i64 least,.int .i64 most] W fun e w'=>∃ v,e = .returned v∧Dv W.heap.size w' v (tightD lo up least most)∧Below W.heap.size W w':=by
 have l1:=h1.1
 have l2:=h2.1
 have l12:=set_sub_len h1 h2 hs
 obtain ⟨a1,n1,c1,rfl,HS1,HN1⟩:=si_look hS1
 obtain ⟨a2,n2,c2,rfl,HS2,HN2⟩:=si_look hS2
 rw [HN1.out] at l1 l12 hc
 rw [HN2.out] at l2 l12 hc
 obtain ⟨w0,hW0⟩:∃ X,W.alloc (Obj.cells #[.bool false,.slice none 0 0,.slice none 0 0,.slice none 0 0,.int .i64 0,.int .i64 0] 37)=X:=⟨_,rfl⟩
 have HW0:Hid _:=hW0
 have hb0:Below W.heap.size W w0:=by rw [←hW0];exact (Below.refl _ W).alloc (Nat.le_refl _) _
 have HZ_0:Hid (R6 w0 W.heap.size (.bool false) (.slice none 0 0) (.slice none 0 0) (.slice none 0 0) (.int .i64 0) (.int .i64 0)):=by rw [←hW0];exact R6.new _ _ _ _ _ _ _
 have HSZ0:Hid (w0.heap.size=W.heap.size+1):=by unfold Hid;rw [←hW0];simp
 have HD:Hid (tightD lo up least most=TD lo lo n1 n1):=hc.1
 have hc2:=hc.2
 clear hW0 hS1 hS2 hs hc
 by_cases hp1:least<(n1:Int)
 ·by_cases hp2:(n2:Int)<most
  ·exfalso
   omega
  ·have q5:¬most<(n1:Int):=by omega
   have q7:((n1:Int)==(n2:Int))=false:=by simp<;>omega
   have q9:(most==(n1:Int))=true:=by simp<;>omega
   have q11:¬(n1:Int)<(n1:Int):=by omega
   have q13:¬(n1:Int)<most:=by omega
   have HLQ:Hid ((n1:Int)=(n1:Int)):=by unfold Hid;omega
   have HMQ:Hid ((n1:Int)=most):=by unfold Hid;omega
   go_enter Tryz.func88,Tryz.ntmps88
   go_upto_region 1 with (fail)
   rw [HW0.out]
   have hzb:=(Below.refl w0.heap.size w0).alloc (Nat.le_refl _) (Obj.cells #[.bool true,.slice none 0 0,.slice none 0 0,.slice none 0 0,.int .i64 (n1:Int),.int .i64 most] 37)
   have hb1:=hb0.trans (hzb.mono hb0.size)
   have HG_1:Hid _:=R6.new w0 (.bool true) (.slice none 0 0) (.slice none 0 0) (.slice none 0 0) (.int .i64 (n1:Int)) (.int .i64 most)
   have HZ_1:Hid _:=HZ_0.out.below hzb
   go_upto_region 16 with (fail)
   clear hb0 HZ_0 hzb HW0
   generalize w0.alloc (Obj.cells #[.bool true,.slice none 0 0,.slice none 0 0,.slice none 0 0,.int .i64 (n1:Int),.int .i64 most] 37)=w1 at hb1 HG_1 HZ_1 ⊢
   have hGW:W.heap.size<w0.heap.size:=by rw [HSZ0.out];omega
   generalize w0.heap.size=G at HG_1 hGW ⊢
   clear HSZ0
   obtain ⟨z0,z1,z2,z3,z4,z5⟩:=HG_1.out.cells
   have hnil:w1.ownsRow w1.heap.size 2 1 (.slice none 0 0) 0 (intv []):=by simpa [intv] using World.ownsRow_nil _ _ _ _
   have hsi:Si w1 (.slice a1 n1 c1) lo:=HS1.out.below hb1
   go_upto_region 17 with (at_builtin;refine wpList_app_sr _ rfl _ _ rfl w1.heap.size _ 0 [] rfl hnil rfl _ lo rfl hsi (by have:=h1.1;have:=h2.1;simp<;>omega) (Nat.le_refl _) ?_;intro v9 w2 hr hbel;have hrow:w2.ownsRow w1.heap.size 2 1 v9 lo.length (intv lo):=(by simpa using hr);obtain ⟨p1,d1,rfl⟩:=own_slice hrow;have HG_2:Hid _:=HG_1.out.below hbel;have HZ_2:Hid _:=HZ_1.out.below hbel;have O1_2:Hid _:=own_base hrow hb1.size;have hb2:=hb1.trans (hbel.mono hb1.size);clear z0 z1 z2 z3 z4 z5 hr hrow hbel;obtain ⟨z0,z1,z2,z3,z4,z5⟩:=HG_2.out.cells;have fz:=HG_2.out.frozen 2)
   rw [HG_2.out.setc2]
   clear hnil hsi z0 z1 z2 z3 z4 z5 fz
   have HG_3:Hid _:=HG_2.out.set (.bool true) (.slice none 0 0) (.slice p1 lo.length d1) (.slice none 0 0) (.int .i64 (n1:Int)) (.int .i64 most)
   have HZ_3:Hid _:=HZ_2.out.other (show W.heap.size≠G by omega) #[.bool true,.slice none 0 0,.slice p1 lo.length d1,.slice none 0 0,.int .i64 (n1:Int),.int .i64 most]
   have O1_3:Hid _:=own_setRow O1_2.out G #[.bool true,.slice none 0 0,.slice p1 lo.length d1,.slice none 0 0,.int .i64 (n1:Int),.int .i64 most] HG_2.out.h
   have hb3:=below_setRow hb2 (show W.heap.size≤G by omega) #[.bool true,.slice none 0 0,.slice p1 lo.length d1,.slice none 0 0,.int .i64 (n1:Int),.int .i64 most]
   clear HG_1 HZ_1 HG_2 HZ_2 O1_2 hb1 hb2
   generalize w2.setRow G #[.bool true,.slice none 0 0,.slice p1 lo.length d1,.slice none 0 0,.int .i64 (n1:Int),.int .i64 most]=w3 at HG_3 HZ_3 O1_3 hb3 ⊢
   obtain ⟨z0,z1,z2,z3,z4,z5⟩:=HG_3.out.cells
   have hnil:w3.ownsRow w3.heap.size 2 1 (.slice none 0 0) 0 (intv []):=by simpa [intv] using World.ownsRow_nil _ _ _ _
   have hsi:Si w3 (.slice a1 n1 c1) lo:=HS1.out.below hb3
   go_upto_region 18 with (at_builtin;refine wpList_app_sr _ rfl _ _ rfl w3.heap.size _ 0 [] rfl hnil rfl _ lo rfl hsi (by have:=h1.1;have:=h2.1;simp<;>omega) (Nat.le_refl _) ?_;intro v9 w4 hr hbel;have hrow:w4.ownsRow w3.heap.size 2 1 v9 lo.length (intv lo):=(by simpa using hr);obtain ⟨p3,d3,rfl⟩:=own_slice hrow;have HG_4:Hid _:=HG_3.out.below hbel;have HZ_4:Hid _:=HZ_3.out.below hbel;have O3_4:Hid _:=own_base hrow hb3.size;have hb4:=hb3.trans (hbel.mono hb3.size);have O1_4:Hid _:=own_keepB O1_3.out hbel;clear z0 z1 z2 z3 z4 z5 hr hrow hbel;obtain ⟨z0,z1,z2,z3,z4,z5⟩:=HG_4.out.cells;have fz:=HG_4.out.frozen 3)
   rw [HG_4.out.setc3]
   clear hnil hsi z0 z1 z2 z3 z4 z5 fz
   have HG_5:Hid _:=HG_4.out.set (.bool true) (.slice none 0 0) (.slice p1 lo.length d1) (.slice p3 lo.length d3) (.int .i64 (n1:Int)) (.int .i64 most)
   have HZ_5:Hid _:=HZ_4.out.other (show W.heap.size≠G by omega) #[.bool true,.slice none 0 0,.slice p1 lo.length d1,.slice p3 lo.length d3,.int .i64 (n1:Int),.int .i64 most]
   have O1_5:Hid _:=own_setRow O1_4.out G #[.bool true,.slice none 0 0,.slice p1 lo.length d1,.slice p3 lo.length d3,.int .i64 (n1:Int),.int .i64 most] HG_4.out.h
   have O3_5:Hid _:=own_setRow O3_4.out G #[.bool true,.slice none 0 0,.slice p1 lo.length d1,.slice p3 lo.length d3,.int .i64 (n1:Int),.int .i64 most] HG_4.out.h
   have hb5:=below_setRow hb4 (show W.heap.size≤G by omega) #[.bool true,.slice none 0 0,.slice p1 lo.length d1,.slice p3 lo.length d3,.int .i64 (n1:Int),.int .i64 most]
   clear HG_3 HZ_3 HG_4 HZ_4 O1_3 O1_4 O3_4 hb3 hb4
   generalize w4.setRow G #[.bool true,.slice none 0 0,.slice p1 lo.length d1,.slice p3 lo.length d3,.int .i64 (n1:Int),.int .i64 most]=w5 at HG_5 HZ_5 O1_5 O3_5 hb5 ⊢
   obtain ⟨z0,z1,z2,z3,z4,z5⟩:=HG_5.out.cells
   go_wp2_with (with_reducible refine st37 rfl (.tmp 8) (.tmp 61) rfl W.heap.size _ _ _ _ _ _ (by with_unfolding_all rfl) (by with_unfolding_all rfl) HZ_5.out (six_dom _ _ _ _ _ _ _ _ _ _ _ _) ?_)
   refine ⟨rfl,_,R6.res rfl _ (HZ_5.out.set (.bool true) (.slice none 0 0) (.slice p1 lo.length d1) (.slice p3 lo.length d3) (.int .i64 (n1:Int)) (.int .i64 most)) rfl,⟨_,rfl,?_,below_setRow hb5 (Nat.le_refl _) _⟩⟩
   rw [HD.out]
   exact ⟨_,_,agg6 (by first | rfl | exact HLQ.out.symm | omega) (by first | rfl | exact HMQ.out.symm | omega),rfl,own_setRow O1_5.out _ _ HZ_5.out.h,own_setRow O3_5.out _ _ HZ_5.out.h⟩
 ·by_cases hp2:(n2:Int)<most
  ·exfalso
   omega
  ·have q5:¬most<least:=by omega
   have q7:(least==(n2:Int))=false:=by simp<;>omega
   have q9:(most==(n1:Int))=true:=by simp<;>omega
   have q11:¬least<(n1:Int):=by omega
   have q13:¬(n1:Int)<most:=by omega
   have HLQ:Hid ((n1:Int)=least):=by unfold Hid;omega
   have HMQ:Hid ((n1:Int)=most):=by unfold Hid;omega
   go_enter Tryz.func88,Tryz.ntmps88
   go_upto_region 1 with (fail)
   rw [HW0.out]
   have hzb:=(Below.refl w0.heap.size w0).alloc (Nat.le_refl _) (Obj.cells #[.bool true,.slice none 0 0,.slice none 0 0,.slice none 0 0,.int .i64 least,.int .i64 most] 37)
   have hb1:=hb0.trans (hzb.mono hb0.size)
   have HG_1:Hid _:=R6.new w0 (.bool true) (.slice none 0 0) (.slice none 0 0) (.slice none 0 0) (.int .i64 least) (.int .i64 most)
   have HZ_1:Hid _:=HZ_0.out.below hzb
   go_upto_region 16 with (fail)
   clear hb0 HZ_0 hzb HW0
   generalize w0.alloc (Obj.cells #[.bool true,.slice none 0 0,.slice none 0 0,.slice none 0 0,.int .i64 least,.int .i64 most] 37)=w1 at hb1 HG_1 HZ_1 ⊢
   have hGW:W.heap.size<w0.heap.size:=by rw [HSZ0.out];omega
   generalize w0.heap.size=G at HG_1 hGW ⊢
   clear HSZ0
   obtain ⟨z0,z1,z2,z3,z4,z5⟩:=HG_1.out.cells
   have hnil:w1.ownsRow w1.heap.size 2 1 (.slice none 0 0) 0 (intv []):=by simpa [intv] using World.ownsRow_nil _ _ _ _
   have hsi:Si w1 (.slice a1 n1 c1) lo:=HS1.out.below hb1
   go_upto_region 17 with (at_builtin;refine wpList_app_sr _ rfl _ _ rfl w1.heap.size _ 0 [] rfl hnil rfl _ lo rfl hsi (by have:=h1.1;have:=h2.1;simp<;>omega) (Nat.le_refl _) ?_;intro v9 w2 hr hbel;have hrow:w2.ownsRow w1.heap.size 2 1 v9 lo.length (intv lo):=(by simpa using hr);obtain ⟨p1,d1,rfl⟩:=own_slice hrow;have HG_2:Hid _:=HG_1.out.below hbel;have HZ_2:Hid _:=HZ_1.out.below hbel;have O1_2:Hid _:=own_base hrow hb1.size;have hb2:=hb1.trans (hbel.mono hb1.size);clear z0 z1 z2 z3 z4 z5 hr hrow hbel;obtain ⟨z0,z1,z2,z3,z4,z5⟩:=HG_2.out.cells;have fz:=HG_2.out.frozen 2)
   rw [HG_2.out.setc2]
   clear hnil hsi z0 z1 z2 z3 z4 z5 fz
   have HG_3:Hid _:=HG_2.out.set (.bool true) (.slice none 0 0) (.slice p1 lo.length d1) (.slice none 0 0) (.int .i64 least) (.int .i64 most)
   have HZ_3:Hid _:=HZ_2.out.other (show W.heap.size≠G by omega) #[.bool true,.slice none 0 0,.slice p1 lo.length d1,.slice none 0 0,.int .i64 least,.int .i64 most]
   have O1_3:Hid _:=own_setRow O1_2.out G #[.bool true,.slice none 0 0,.slice p1 lo.length d1,.slice none 0 0,.int .i64 least,.int .i64 most] HG_2.out.h
   have hb3:=below_setRow hb2 (show W.heap.size≤G by omega) #[.bool true,.slice none 0 0,.slice p1 lo.length d1,.slice none 0 0,.int .i64 least,.int .i64 most]
   clear HG_1 HZ_1 HG_2 HZ_2 O1_2 hb1 hb2
   generalize w2.setRow G #[.bool true,.slice none 0 0,.slice p1 lo.length d1,.slice none 0 0,.int .i64 least,.int .i64 most]=w3 at HG_3 HZ_3 O1_3 hb3 ⊢
   obtain ⟨z0,z1,z2,z3,z4,z5⟩:=HG_3.out.cells
   have hnil:w3.ownsRow w3.heap.size 2 1 (.slice none 0 0) 0 (intv []):=by simpa [intv] using World.ownsRow_nil _ _ _ _
   have hsi:Si w3 (.slice a1 n1 c1) lo:=HS1.out.below hb3
   go_upto_region 18 with (at_builtin;refine wpList_app_sr _ rfl _ _ rfl w3.heap.size _ 0 [] rfl hnil rfl _ lo rfl hsi (by have:=h1.1;have:=h2.1;simp<;>omega) (Nat.le_refl _) ?_;intro v9 w4 hr hbel;have hrow:w4.ownsRow w3.heap.size 2 1 v9 lo.length (intv lo):=(by simpa using hr);obtain ⟨p3,d3,rfl⟩:=own_slice hrow;have HG_4:Hid _:=HG_3.out.below hbel;have HZ_4:Hid _:=HZ_3.out.below hbel;have O3_4:Hid _:=own_base hrow hb3.size;have hb4:=hb3.trans (hbel.mono hb3.size);have O1_4:Hid _:=own_keepB O1_3.out hbel;clear z0 z1 z2 z3 z4 z5 hr hrow hbel;obtain ⟨z0,z1,z2,z3,z4,z5⟩:=HG_4.out.cells;have fz:=HG_4.out.frozen 3)
   rw [HG_4.out.setc3]
   clear hnil hsi z0 z1 z2 z3 z4 z5 fz
   have HG_5:Hid _:=HG_4.out.set (.bool true) (.slice none 0 0) (.slice p1 lo.length d1) (.slice p3 lo.length d3) (.int .i64 least) (.int .i64 most)
   have HZ_5:Hid _:=HZ_4.out.other (show W.heap.size≠G by omega) #[.bool true,.slice none 0 0,.slice p1 lo.length d1,.slice p3 lo.length d3,.int .i64 least,.int .i64 most]
   have O1_5:Hid _:=own_setRow O1_4.out G #[.bool true,.slice none 0 0,.slice p1 lo.length d1,.slice p3 lo.length d3,.int .i64 least,.int .i64 most] HG_4.out.h
   have O3_5:Hid _:=own_setRow O3_4.out G #[.bool true,.slice none 0 0,.slice p1 lo.length d1,.slice p3 lo.length d3,.int .i64 least,.int .i64 most] HG_4.out.h
   have hb5:=below_setRow hb4 (show W.heap.size≤G by omega) #[.bool true,.slice none 0 0,.slice p1 lo.length d1,.slice p3 lo.length d3,.int .i64 least,.int .i64 most]
   clear HG_3 HZ_3 HG_4 HZ_4 O1_3 O1_4 O3_4 hb3 hb4
   generalize w4.setRow G #[.bool true,.slice none 0 0,.slice p1 lo.length d1,.slice p3 lo.length d3,.int .i64 least,.int .i64 most]=w5 at HG_5 HZ_5 O1_5 O3_5 hb5 ⊢
   obtain ⟨z0,z1,z2,z3,z4,z5⟩:=HG_5.out.cells
   go_wp2_with (with_reducible refine st37 rfl (.tmp 8) (.tmp 61) rfl W.heap.size _ _ _ _ _ _ (by with_unfolding_all rfl) (by with_unfolding_all rfl) HZ_5.out (six_dom _ _ _ _ _ _ _ _ _ _ _ _) ?_)
   refine ⟨rfl,_,R6.res rfl _ (HZ_5.out.set (.bool true) (.slice none 0 0) (.slice p1 lo.length d1) (.slice p3 lo.length d3) (.int .i64 least) (.int .i64 most)) rfl,⟨_,rfl,?_,below_setRow hb5 (Nat.le_refl _) _⟩⟩
   rw [HD.out]
   exact ⟨_,_,agg6 (by first | rfl | exact HLQ.out.symm | omega) (by first | rfl | exact HMQ.out.symm | omega),rfl,own_setRow O1_5.out _ _ HZ_5.out.h,own_setRow O3_5.out _ _ HZ_5.out.h⟩
theorem reftight_mid (s1 s2:Value) (lo up:List Int) (least most:Int) (W:World) (hS1:Si W s1 lo) (hS2:Si W s2 up) (h1:IsSet lo) (h2:IsSet up) (hs:∀ x∈lo,x∈up) (hc:tightD lo up least most=TD lo up (max least lo.length) (min most up.length)∧max least lo.length≤min most up.length∧lo.length<up.length∧¬max least lo.length=up.length∧¬min most up.length=lo.length) :
  Calls Tryz.prog 88 #[s1,s2,.int .i64 least,.int .i64 most] W fun e w'=>∃ v,e = .returned v∧Dv W.heap.size w' v (tightD lo up least most)∧Below W.heap.size W w':=by
 have l1:=h1.1
 have l2:=h2.1
 have l12:=set_sub_len h1 h2 hs
 obtain ⟨a1,n1,c1,rfl,HS1,HN1⟩:=si_look hS1
 obtain ⟨a2,n2,c2,rfl,HS2,HN2⟩:=si_look hS2
 rw [HN1.out] at l1 l12 hc
 rw [HN2.out] at l2 l12 hc
 obtain ⟨w0,hW0⟩:∃ X,W.alloc (Obj.cells #[.bool false,.slice none 0 0,.slice none 0 0,.slice none 0 0,.int .i64 0,.int .i64 0] 37)=X:=⟨_,rfl⟩
 have HW0:Hid _:=hW0
 have hb0:Below W.heap.size W w0:=by rw [←hW0];exact (Below.refl _ W).alloc (Nat.le_refl _) _
 have HZ_0:Hid (R6 w0 W.heap.size (.bool false) (.slice none 0 0) (.slice none 0 0) (.slice none 0 0) (.int .i64 0) (.int .i64 0)):=by rw [←hW0];exact R6.new _ _ _ _ _ _ _
 have HSZ0:Hid (w0.heap.size=W.heap.size+1):=by unfold Hid;rw [←hW0];simp
 have HD:Hid (tightD lo up least most=TD lo up (max least n1) (min most n2)):=hc.1
 have hc2:=hc.2
 clear hW0 hS1 hS2 hs hc
 by_cases hp1:least<(n1:Int)
 ·by_cases hp2:(n2:Int)<most
  ·have q5:¬(n2:Int)<(n1:Int):=by omega
   have q7:((n1:Int)==(n2:Int))=false:=by simp<;>omega
   have q9:((n2:Int)==(n1:Int))=false:=by simp<;>omega
   have q11:¬(n1:Int)<(n1:Int):=by omega
   have q13:¬(n2:Int)<(n2:Int):=by omega
   have HLQ:Hid (max least (n1:Int)=(n1:Int)):=by unfold Hid;omega
   have HMQ:Hid (min most (n2:Int)=(n2:Int)):=by unfold Hid;omega
   go_enter Tryz.func88,Tryz.ntmps88
   go_upto_region 1 with (fail)
   rw [HW0.out]
   have hzb:=(Below.refl w0.heap.size w0).alloc (Nat.le_refl _) (Obj.cells #[.bool true,.slice none 0 0,.slice none 0 0,.slice none 0 0,.int .i64 (n1:Int),.int .i64 (n2:Int)] 37)
   have hb1:=hb0.trans (hzb.mono hb0.size)
   have HG_1:Hid _:=R6.new w0 (.bool true) (.slice none 0 0) (.slice none 0 0) (.slice none 0 0) (.int .i64 (n1:Int)) (.int .i64 (n2:Int))
   have HZ_1:Hid _:=HZ_0.out.below hzb
   go_upto_region 16 with (fail)
   clear hb0 HZ_0 hzb HW0
   generalize w0.alloc (Obj.cells #[.bool true,.slice none 0 0,.slice none 0 0,.slice none 0 0,.int .i64 (n1:Int),.int .i64 (n2:Int)] 37)=w1 at hb1 HG_1 HZ_1 ⊢
   have hGW:W.heap.size<w0.heap.size:=by rw [HSZ0.out];omega
   generalize w0.heap.size=G at HG_1 hGW ⊢
   clear HSZ0
   obtain ⟨z0,z1,z2,z3,z4,z5⟩:=HG_1.out.cells
   have hnil:w1.ownsRow w1.heap.size 2 1 (.slice none 0 0) 0 (intv []):=by simpa [intv] using World.ownsRow_nil _ _ _ _
   have hsi:Si w1 (.slice a1 n1 c1) lo:=HS1.out.below hb1
   go_upto_region 17 with (at_builtin;refine wpList_app_sr _ rfl _ _ rfl w1.heap.size _ 0 [] rfl hnil rfl _ lo rfl hsi (by have:=h1.1;have:=h2.1;simp<;>omega) (Nat.le_refl _) ?_;intro v9 w2 hr hbel;have hrow:w2.ownsRow w1.heap.size 2 1 v9 lo.length (intv lo):=(by simpa using hr);obtain ⟨p1,d1,rfl⟩:=own_slice hrow;have HG_2:Hid _:=HG_1.out.below hbel;have HZ_2:Hid _:=HZ_1.out.below hbel;have O1_2:Hid _:=own_base hrow hb1.size;have hb2:=hb1.trans (hbel.mono hb1.size);clear z0 z1 z2 z3 z4 z5 hr hrow hbel;obtain ⟨z0,z1,z2,z3,z4,z5⟩:=HG_2.out.cells;have fz:=HG_2.out.frozen 2)
   rw [HG_2.out.setc2]
   clear hnil hsi z0 z1 z2 z3 z4 z5 fz
   have HG_3:Hid _:=HG_2.out.set (.bool true) (.slice none 0 0) (.slice p1 lo.length d1) (.slice none 0 0) (.int .i64 (n1:Int)) (.int .i64 (n2:Int))
   have HZ_3:Hid _:=HZ_2.out.other (show W.heap.size≠G by omega) #[.bool true,.slice none 0 0,.slice p1 lo.length d1,.slice none 0 0,.int .i64 (n1:Int),.int .i64 (n2:Int)]
   have O1_3:Hid _:=own_setRow O1_2.out G #[.bool true,.slice none 0 0,.slice p1 lo.length d1,.slice none 0 0,.int .i64 (n1:Int),.int .i64 (n2:Int)] HG_2.out.h
   have hb3:=below_setRow hb2 (show W.heap.size≤G by omega) #[.bool true,.slice none 0 0,.slice p1 lo.length d1,.slice none 0 0,.int .i64 (n1:Int),.int .i64 (n2:Int)]
   clear HG_1 HZ_1 HG_2 HZ_2 O1_2 hb1 hb2
   generalize w2.setRow G #[.bool true,.slice none 0 0,.slice p1 lo.length d1,.slice none 0 0,.int .i64 (n1:Int),.int .i64 (n2:Int)]=w3 at HG_3 HZ_3 O1_3 hb3 ⊢
   obtain ⟨z0,z1,z2,z3,z4,z5⟩:=HG_3.out.cells
   have hnil:w3.ownsRow w3.heap.size 2 1 (.slice none 0 0) 0 (intv []):=by simpa [intv] using World.ownsRow_nil _ _ _ _
   have hsi:Si w3 (.slice a2 n2 c2) up:=HS2.out.below hb3
   go_upto_region 18 with (at_builtin;refine wpList_app_sr _ rfl _ _ rfl w3.heap.size _ 0 [] rfl hnil rfl _ up rfl hsi (by have:=h1.1;have:=h2.1;simp<;>omega) (Nat.le_refl _) ?_;intro v9 w4 hr hbel;have hrow:w4.ownsRow w3.heap.size 2 1 v9 up.length (intv up):=(by simpa using hr);obtain ⟨p3,d3,rfl⟩:=own_slice hrow;have HG_4:Hid _:=HG_3.out.below hbel;have HZ_4:Hid _:=HZ_3.out.below hbel;have O3_4:Hid _:=own_base hrow hb3.size;have hb4:=hb3.trans (hbel.mono hb3.size);have O1_4:Hid _:=own_keepB O1_3.out hbel;clear z0 z1 z2 z3 z4 z5 hr hrow hbel;obtain ⟨z0,z1,z2,z3,z4,z5⟩:=HG_4.out.cells;have fz:=HG_4.out.frozen 3)
   rw [HG_4.out.setc3]
   clear hnil hsi z0 z1 z2 z3 z4 z5 fz
   have HG_5:Hid _:=HG_4.out.set (.bool true) (.slice none 0 0) (.slice p1 lo.length d1) (.slice p3 up.length d3) (.int .i64 (n1:Int)) (.int .i64 (n2:Int))
   have HZ_5:Hid _:=HZ_4.out.other (show W.heap.size≠G by omega) #[.bool true,.slice none 0 0,.slice p1 lo.length d1,.slice p3 up.length d3,.int .i64 (n1:Int),.int .i64 (n2:Int)]
   have O1_5:Hid _:=own_setRow O1_4.out G #[.bool true,.slice none 0 0,.slice p1 lo.length d1,.slice p3 up.length d3,.int .i64 (n1:Int),.int .i64 (n2:Int)] HG_4.out.h
   have O3_5:Hid _:=own_setRow O3_4.out G #[.bool true,.slice none 0 0,.slice p1 lo.length d1,.slice p3 up.length d3,.int .i64 (n1:Int),.int .i64 (n2:Int)] HG_4.out.h
   have hb5:=below_setRow hb4 (show W.heap.size≤G by omega) #[.bool true,.slice none 0 0,.slice p1 lo.length d1,.slice p3 up.length d3,.int .i64 (n1:Int),.int .i64 (n2:Int)]
   clear HG_3 HZ_3 HG_4 HZ_4 O1_3 O1_4 O3_4 hb3 hb4
   generalize w4.setRow G #[.bool true,.slice none 0 0,.slice p1 lo.length d1,.slice p3 up.length d3,.int .i64 (n1:Int),.int .i64 (n2:Int)]=w5 at HG_5 HZ_5 O1_5 O3_5 hb5 ⊢
   obtain ⟨z0,z1,z2,z3,z4,z5⟩:=HG_5.out.cells
   go_wp2_with (with_reducible refine st37 rfl (.tmp 8) (.tmp 61) rfl W.heap.size _ _ _ _ _ _ (by with_unfolding_all rfl) (by with_unfolding_all rfl) HZ_5.out (six_dom _ _ _ _ _ _ _ _ _ _ _ _) ?_)
   refine ⟨rfl,_,R6.res rfl _ (HZ_5.out.set (.bool true) (.slice none 0 0) (.slice p1 lo.length d1) (.slice p3 up.length d3) (.int .i64 (n1:Int)) (.int .i64 (n2:Int))) rfl,⟨_,rfl,?_,below_setRow hb5 (Nat.le_refl _) _⟩⟩
   rw [HD.out]
   exact ⟨_,_,agg6 (by first | rfl | exact HLQ.out.symm | omega) (by first | rfl | exact HMQ.out.symm | omega),rfl,own_setRow O1_5.out _ _ HZ_5.out.h,own_setRow O3_5.out _ _ HZ_5.out.h⟩
  ·have q5:¬most<(n1:Int):=by omega
   have q7:((n1:Int)==(n2:Int))=false:=by simp<;>omega
   have q9:(most==(n1:Int))=false:=by simp<;>omega
   have q11:¬(n1:Int)<(n1:Int):=by omega
   have q13:¬(n2:Int)<most:=by omega
   have HLQ:Hid (max least (n1:Int)=(n1:Int)):=by unfold Hid;omega
   have HMQ:Hid (min most (n2:Int)=most):=by unfold Hid;omega
   go_enter Tryz.func88,Tryz.ntmps88
   go_upto_region 1 with (fail)
   rw [HW0.out]
   have hzb:=(Below.refl w0.heap.size w0).alloc (Nat.le_refl _) (Obj.cells #[.bool true,.slice none 0 0,.slice none 0 0,.slice none 0 0,.int .i64 (n1:Int),.int .i64 most] 37)
   have hb1:=hb0.trans (hzb.mono hb0.size)
   have HG_1:Hid _:=R6.new w0 (.bool true) (.slice none 0 0) (.slice none 0 0) (.slice none 0 0) (.int .i64 (n1:Int)) (.int .i64 most)
   have HZ_1:Hid _:=HZ_0.out.below hzb
   go_upto_region 16 with (fail)
   clear hb0 HZ_0 hzb HW0
   generalize w0.alloc (Obj.cells #[.bool true,.slice none 0 0,.slice none 0 0,.slice none 0 0,.int .i64 (n1:Int),.int .i64 most] 37)=w1 at hb1 HG_1 HZ_1 ⊢
   have hGW:W.heap.size<w0.heap.size:=by rw [HSZ0.out];omega
   generalize w0.heap.size=G at HG_1 hGW ⊢
   clear HSZ0
   obtain ⟨z0,z1,z2,z3,z4,z5⟩:=HG_1.out.cells
   have hnil:w1.ownsRow w1.heap.size 2 1 (.slice none 0 0) 0 (intv []):=by simpa [intv] using World.ownsRow_nil _ _ _ _
   have hsi:Si w1 (.slice a1 n1 c1) lo:=HS1.out.below hb1
   go_upto_region 17 with (at_builtin;refine wpList_app_sr _ rfl _ _ rfl w1.heap.size _ 0 [] rfl hnil rfl _ lo rfl hsi (by have:=h1.1;have:=h2.1;simp<;>omega) (Nat.le_refl _) ?_;intro v9 w2 hr hbel;have hrow:w2.ownsRow w1.heap.size 2 1 v9 lo.length (intv lo):=(by simpa using hr);obtain ⟨p1,d1,rfl⟩:=own_slice hrow;have HG_2:Hid _:=HG_1.out.below hbel;have HZ_2:Hid _:=HZ_1.out.below hbel;have O1_2:Hid _:=own_base hrow hb1.size;have hb2:=hb1.trans (hbel.mono hb1.size);clear z0 z1 z2 z3 z4 z5 hr hrow hbel;obtain ⟨z0,z1,z2,z3,z4,z5⟩:=HG_2.out.cells;have fz:=HG_2.out.frozen 2)
   rw [HG_2.out.setc2]
   clear hnil hsi z0 z1 z2 z3 z4 z5 fz
   have HG_3:Hid _:=HG_2.out.set (.bool true) (.slice none 0 0) (.slice p1 lo.length d1) (.slice none 0 0) (.int .i64 (n1:Int)) (.int .i64 most)
   have HZ_3:Hid _:=HZ_2.out.other (show W.heap.size≠G by omega) #[.bool true,.slice none 0 0,.slice p1 lo.length d1,.slice none 0 0,.int .i64 (n1:Int),.int .i64 most]
   have O1_3:Hid _:=own_setRow O1_2.out G #[.bool true,.slice none 0 0,.slice p1 lo.length d1,.slice none 0 0,.int .i64 (n1:Int),.int .i64 most] HG_2.out.h
   have hb3:=below_setRow hb2 (show W.heap.size≤G by omega) #[.bool true,.slice none 0 0,.slice p1 lo.length d1,.slice none 0 0,.int .i64 (n1:Int),.int .i64 most]
   clear HG_1 HZ_1 HG_2 HZ_2 O1_2 hb1 hb2
   generalize w2.setRow G #[.bool true,.slice none 0 0,.slice p1 lo.length d1,.slice none 0 0,.int .i64 (n1:Int),.int .i64 most]=w3 at HG_3 HZ_3 O1_3 hb3 ⊢
   obtain ⟨z0,z1,z2,z3,z4,z5⟩:=HG_3.out.cells
   have hnil:w3.ownsRow w3.heap.size 2 1 (.slice none 0 0) 0 (intv []):=by simpa [intv] using World.ownsRow_nil _ _ _ _
   have hsi:Si w3 (.slice a2 n2 c2) up:=HS2.out.below hb3
   go_upto_region 18 with (at_builtin;refine wpList_app_sr _ rfl _ _ rfl w3.heap.size _ 0 [] rfl hnil rfl _ up rfl hsi (by have:=h1.1;have:=h2.1;simp<;>omega) (Nat.le_refl _) ?_;intro v9 w4 hr hbel;have hrow:w4.ownsRow w3.heap.size 2 1 v9 up.length (intv up):=(by simpa using hr);obtain ⟨p3,d3,rfl⟩:=own_slice hrow;have HG_4:Hid _:=HG_3.out.below hbel;have HZ_4:Hid _:=HZ_3.out.below hbel;have O3_4:Hid _:=own_base hrow hb3.size;have hb4:=hb3.trans (hbel.mono hb3.size);have O1_4:Hid _:=own_keepB O1_3.out hbel;clear z0 z1 z2 z3 z4 z5 hr hrow hbel;obtain ⟨z0,z1,z2,z3,z4,z5⟩:=HG_4.out.cells;have fz:=HG_4.out.frozen 3)
   rw [HG_4.out.setc3]
   clear hnil hsi z0 z1 z2 z3 z4 z5 fz
   have HG_5:Hid _:=HG_4.out.set (.bool true) (.slice none 0 0) (.slice p1 lo.length d1) (.slice p3 up.length d3) (.int .i64 (n1:Int)) (.int .i64 most)
   have HZ_5:Hid _:=HZ_4.out.other (show W.heap.size≠G by omega) #[.bool true,.slice none 0 0,.slice p1 lo.length d1,.slice p3 up.length d3,.int .i64 (n1:Int),.int .i64 most]
   have O1_5:Hid _:=own_setRow O1_4.out G #[.bool true,.slice none 0 0,.slice p1 lo.length d1,.slice p3 up.length d3,.int .i64 (n1:Int),.int .i64 most] HG_4.out.h
   have O3_5:Hid _:=own_setRow O3_4.out G #[.bool true,.slice none 0 0,.slice p1 lo.length d1,.slice p3 up.length d3,.int .i64 (n1:Int),.int .i64 most] HG_4.out.h
   have hb5:=below_setRow hb4 (show W.heap.size≤G by omega) #[.bool true,.slice none 0 0,.slice p1 lo.length d1,.slice p3 up.length d3,.int .i64 (n1:Int),.int .i64 most]
   clear HG_3 HZ_3 HG_4 HZ_4 O1_3 O1_4 O3_4 hb3 hb4
   generalize w4.setRow G #[.bool true,.slice none 0 0,.slice p1 lo.length d1,.slice p3 up.length d3,.int .i64 (n1:Int),.int .i64 most]=w5 at HG_5 HZ_5 O1_5 O3_5 hb5 ⊢
   obtain ⟨z0,z1,z2,z3,z4,z5⟩:=HG_5.out.cells
   go_wp2_with (with_reducible refine st37 rfl (.tmp 8) (.tmp 61) rfl W.heap.size _ _ _ _ _ _ (by with_unfolding_all rfl) (by with_unfolding_all rfl) HZ_5.out (six_dom _ _ _ _ _ _ _ _ _ _ _ _) ?_)
   refine ⟨rfl,_,R6.res rfl _ (HZ_5.out.set (.bool true) (.slice none 0 0) (.slice p1 lo.length d1) (.slice p3 up.length d3) (.int .i64 (n1:Int)) (.int .i64 most)) rfl,⟨_,rfl,?_,below_setRow hb5 (Nat.le_refl _) _⟩⟩
   rw [HD.out]
   exact ⟨_,_,agg6 (by first | rfl | exact HLQ.out.symm | omega) (by first | rfl | exact HMQ.out.symm | omega),rfl,own_setRow O1_5.out _ _ HZ_5.out.h,own_setRow O3_5.out _ _ HZ_5.out.h⟩
 ·by_cases hp2:(n2:Int)<most
  ·have q5:¬(n2:Int)<least:=by omega
   have q7:(least==(n2:Int))=false:=by simp<;>omega
   have q9:((n2:Int)==(n1:Int))=false:=by simp<;>omega
   have q11:¬least<(n1:Int):=by omega
   have q13:¬(n2:Int)<(n2:Int):=by omega
   have HLQ:Hid (max least (n1:Int)=least):=by unfold Hid;omega
   have HMQ:Hid (min most (n2:Int)=(n2:Int)):=by unfold Hid;omega
   go_enter Tryz.func88,Tryz.ntmps88
   go_upto_region 1 with (fail)
   rw [HW0.out]
   have hzb:=(Below.refl w0.heap.size w0).alloc (Nat.le_refl _) (Obj.cells #[.bool true,.slice none 0 0,.slice none 0 0,.slice none 0 0,.int .i64 least,.int .i64 (n2:Int)] 37)
   have hb1:=hb0.trans (hzb.mono hb0.size)
   have HG_1:Hid _:=R6.new w0 (.bool true) (.slice none 0 0) (.slice none 0 0) (.slice none 0 0) (.int .i64 least) (.int .i64 (n2:Int))
   have HZ_1:Hid _:=HZ_0.out.below hzb
   go_upto_region 16 with (fail)
   clear hb0 HZ_0 hzb HW0
   generalize w0.alloc (Obj.cells #[.bool true,.slice none 0 0,.slice none 0 0,.slice none 0 0,.int .i64 least,.int .i64 (n2:Int)] 37)=w1 at hb1 HG_1 HZ_1 ⊢
   have hGW:W.heap.size<w0.heap.size:=by rw [HSZ0.out];omega
   generalize w0.heap.size=G at HG_1 hGW ⊢
   clear HSZ0
   obtain ⟨z0,z1,z2,z3,z4,z5⟩:=HG_1.out.cells
   have hnil:w1.ownsRow w1.heap.size 2 1 (.slice none 0 0) 0 (intv []):=by simpa [intv] using World.ownsRow_nil _ _ _ _
   have hsi:Si w1 (.slice a1 n1 c1) lo:=HS1.out.below hb1
   go_upto_region 17 with (at_builtin;refine wpList_app_sr _ rfl _ _ rfl w1.heap.size _ 0 [] rfl hnil rfl _ lo rfl hsi (by have:=h1.1;have:=h2.1;simp<;>omega) (Nat.le_refl _) ?_;intro v9 w2 hr hbel;have hrow:w2.ownsRow w1.heap.size 2 1 v9 lo.length (intv lo):=(by simpa using hr);obtain ⟨p1,d1,rfl⟩:=own_slice hrow;have HG_2:Hid _:=HG_1.out.below hbel;have HZ_2:Hid _:=HZ_1.out.below hbel;have O1_2:Hid _:=own_base hrow hb1.size;have hb2:=hb1.trans (hbel.mono hb1.size);clear z0 z1 z2 z3 z4 z5 hr hrow hbel;obtain ⟨z0,z1,z2,z3,z4,z5⟩:=HG_2.out.cells;have fz:=HG_2.out.frozen 2)
   rw [HG_2.out.setc2]
   clear hnil hsi z0 z1 z2 z3 z4 z5 fz
   have HG_3:Hid _:=HG_2.out.set (.bool true) (.slice none 0 0) (.slice p1 lo.length d1) (.slice none 0 0) (.int .i64 least) (.int .i64 (n2:Int))
   have HZ_3:Hid _:=HZ_2.out.other (show W.heap.size≠G by omega) #[.bool true,.slice none 0 0,.slice p1 lo.length d1,.slice none 0 0,.int .i64 least,.int .i64 (n2:Int)]
   have O1_3:Hid _:=own_setRow O1_2.out G #[.bool true,.slice none 0 0,.slice p1 lo.length d1,.slice none 0 0,.int .i64 least,.int .i64 (n2:Int)] HG_2.out.h
   have hb3:=below_setRow hb2 (show W.heap.size≤G by omega) #[.bool true,.slice none 0 0,.slice p1 lo.length d1,.slice none 0 0,.int .i64 least,.int .i64 (n2:Int)]
   clear HG_1 HZ_1 HG_2 HZ_2 O1_2 hb1 hb2
   generalize w2.setRow G #[.bool true,.slice none 0 0,.slice p1 lo.length d1,.slice none 0 0,.int .i64 least,.int .i64 (n2:Int)]=w3 at HG_3 HZ_3 O1_3 hb3 ⊢
   obtain ⟨z0,z1,z2,z3,z4,z5⟩:=HG_3.out.cells
   have hnil:w3.ownsRow w3.heap.size 2 1 (.slice none 0 0) 0 (intv []):=by simpa [intv] using World.ownsRow_nil _ _ _ _
   have hsi:Si w3 (.slice a2 n2 c2) up:=HS2.out.below hb3
   go_upto_region 18 with (at_builtin;refine wpList_app_sr _ rfl _ _ rfl w3.heap.size _ 0 [] rfl hnil rfl _ up rfl hsi (by have:=h1.1;have:=h2.1;simp<;>omega) (Nat.le_refl _) ?_;intro v9 w4 hr hbel;have hrow:w4.ownsRow w3.heap.size 2 1 v9 up.length (intv up):=(by simpa using hr);obtain ⟨p3,d3,rfl⟩:=own_slice hrow;have HG_4:Hid _:=HG_3.out.below hbel;have HZ_4:Hid _:=HZ_3.out.below hbel;have O3_4:Hid _:=own_base hrow hb3.size;have hb4:=hb3.trans (hbel.mono hb3.size);have O1_4:Hid _:=own_keepB O1_3.out hbel;clear z0 z1 z2 z3 z4 z5 hr hrow hbel;obtain ⟨z0,z1,z2,z3,z4,z5⟩:=HG_4.out.cells;have fz:=HG_4.out.frozen 3)
   rw [HG_4.out.setc3]
   clear hnil hsi z0 z1 z2 z3 z4 z5 fz
   have HG_5:Hid _:=HG_4.out.set (.bool true) (.slice none 0 0) (.slice p1 lo.length d1) (.slice p3 up.length d3) (.int .i64 least) (.int .i64 (n2:Int))
   have HZ_5:Hid _:=HZ_4.out.other (show W.heap.size≠G by omega) #[.bool true,.slice none 0 0,.slice p1 lo.length d1,.slice p3 up.length d3,.int .i64 least,.int .i64 (n2:Int)]
   have O1_5:Hid _:=own_setRow O1_4.out G #[.bool true,.slice none 0 0,.slice p1 lo.length d1,.slice p3 up.length d3,.int .i64 least,.int .i64 (n2:Int)] HG_4.out.h
   have O3_5:Hid _:=own_setRow O3_4.out G #[.bool true,.slice none 0 0,.slice p1 lo.length d1,.slice p3 up.length d3,.int .i64 least,.int .i64 (n2:Int)] HG_4.out.h
   have hb5:=below_setRow hb4 (show W.heap.size≤G by omega) #[.bool true,.slice none 0 0,.slice p1 lo.length d1,.slice p3 up.length d3,.int .i64 least,.int .i64 (n2:Int)]
   clear HG_3 HZ_3 HG_4 HZ_4 O1_3 O1_4 O3_4 hb3 hb4
   generalize w4.setRow G #[.bool true,.slice none 0 0,.slice p1 lo.length d1,.slice p3 up.length d3,.int .i64 least,.int .i64 (n2:Int)]=w5 at HG_5 HZ_5 O1_5 O3_5 hb5 ⊢
   obtain ⟨z0,z1,z2,z3,z4,z5⟩:=HG_5.out.cells
   go_wp2_with (with_reducible refine st37 rfl (.tmp 8) (.tmp 61) rfl W.heap.size _ _ _ _ _ _ (by with_unfolding_all rfl) (by with_unfolding_all rfl) HZ_5.out (six_dom _ _ _ _ _ _ _ _ _ _ _ _) ?_)
   refine ⟨rfl,_,R6.res rfl _ (HZ_5.out.set (.bool true) (.slice none 0 0) (.slice p1 lo.length d1) (.slice p3 up.length d3) (.int .i64 least) (.int .i64 (n2:Int))) rfl,⟨_,rfl,?_,below_setRow hb5 (Nat.le_refl _) _⟩⟩
   rw [HD.out]
   exact ⟨_,_,agg6 (by first | rfl | exact HLQ.out.symm | omega) (by first | rfl | exact HMQ.out.symm | omega),rfl,own_setRow O1_5.out _ _ HZ_5.out.h,own_setRow O3_5.out _ _ HZ_5.out.h⟩
  ·have q5:¬most<least:=by omega
   have q7:(least==(n2:Int))=false:=by simp<;>omega
   have q9:(most==(n1:Int))=false:=by simp<;>omega
   have q11:¬least<(n1:Int):=by omega
   have q13:¬(n2:Int)<most:=by omega
   have HLQ:Hid (max least (n1:Int)=least):=by unfold Hid;omega
   have HMQ:Hid (min most (n2:Int)=most):=by unfold Hid;omega
   go_enter Tryz.func88,Tryz.ntmps88
   go_upto_region 1 with (fail)
   rw [HW0.out]
   have hzb:=(Below.refl w0.heap.size w0).alloc (Nat.le_refl _) (Obj.cells #[.bool true,.slice none 0 0,.slice none 0 0,.slice none 0 0,.int .i64 least,.int .i64 most] 37)
   have hb1:=hb0.trans (hzb.mono hb0.size)
   have HG_1:Hid _:=R6.new w0 (.bool true) (.slice none 0 0) (.slice none 0 0) (.slice none 0 0) (.int .i64 least) (.int .i64 most)
   have HZ_1:Hid _:=HZ_0.out.below hzb
   go_upto_region 16 with (fail)
   clear hb0 HZ_0 hzb HW0
   generalize w0.alloc (Obj.cells #[.bool true,.slice none 0 0,.slice none 0 0,.slice none 0 0,.int .i64 least,.int .i64 most] 37)=w1 at hb1 HG_1 HZ_1 ⊢
   have hGW:W.heap.size<w0.heap.size:=by rw [HSZ0.out];omega
   generalize w0.heap.size=G at HG_1 hGW ⊢
   clear HSZ0
   obtain ⟨z0,z1,z2,z3,z4,z5⟩:=HG_1.out.cells
   have hnil:w1.ownsRow w1.heap.size 2 1 (.slice none 0 0) 0 (intv []):=by simpa [intv] using World.ownsRow_nil _ _ _ _
   have hsi:Si w1 (.slice a1 n1 c1) lo:=HS1.out.below hb1
   go_upto_region 17 with (at_builtin;refine wpList_app_sr _ rfl _ _ rfl w1.heap.size _ 0 [] rfl hnil rfl _ lo rfl hsi (by have:=h1.1;have:=h2.1;simp<;>omega) (Nat.le_refl _) ?_;intro v9 w2 hr hbel;have hrow:w2.ownsRow w1.heap.size 2 1 v9 lo.length (intv lo):=(by simpa using hr);obtain ⟨p1,d1,rfl⟩:=own_slice hrow;have HG_2:Hid _:=HG_1.out.below hbel;have HZ_2:Hid _:=HZ_1.out.below hbel;have O1_2:Hid _:=own_base hrow hb1.size;have hb2:=hb1.trans (hbel.mono hb1.size);clear z0 z1 z2 z3 z4 z5 hr hrow hbel;obtain ⟨z0,z1,z2,z3,z4,z5⟩:=HG_2.out.cells;have fz:=HG_2.out.frozen 2)
   rw [HG_2.out.setc2]
   clear hnil hsi z0 z1 z2 z3 z4 z5 fz
   have HG_3:Hid _:=HG_2.out.set (.bool true) (.slice none 0 0) (.slice p1 lo.length d1) (.slice none 0 0) (.int .i64 least) (.int .i64 most)
   have HZ_3:Hid _:=HZ_2.out.other (show W.heap.size≠G by omega) #[.bool true,.slice none 0 0,.slice p1 lo.length d1,.slice none 0 0,.int .i64 least,.int .i64 most]
   have O1_3:Hid _:=own_setRow O1_2.out G #[.bool true,.slice none 0 0,.slice p1 lo.length d1,.slice none 0 0,.int .i64 least,.int .i64 most] HG_2.out.h
   have hb3:=below_setRow hb2 (show W.heap.size≤G by omega) #[.bool true,.slice none 0 0,.slice p1 lo.length d1,.slice none 0 0,.int .i64 least,.int .i64 most]
   clear HG_1 HZ_1 HG_2 HZ_2 O1_2 hb1 hb2
   generalize w2.setRow G #[.bool true,.slice none 0 0,.slice p1 lo.length d1,.slice none 0 0,.int .i64 least,.int .i64 most]=w3 at HG_3 HZ_3 O1_3 hb3 ⊢
   obtain ⟨z0,z1,z2,z3,z4,z5⟩:=HG_3.out.cells
   have hnil:w3.ownsRow w3.heap.size 2 1 (.slice none 0 0) 0 (intv []):=by simpa [intv] using World.ownsRow_nil _ _ _ _
   have hsi:Si w3 (.slice a2 n2 c2) up:=HS2.out.below hb3
   go_upto_region 18 with (at_builtin;refine wpList_app_sr _ rfl _ _ rfl w3.heap.size _ 0 [] rfl hnil rfl _ up rfl hsi (by have:=h1.1;have:=h2.1;simp<;>omega) (Nat.le_refl _) ?_;intro v9 w4 hr hbel;have hrow:w4.ownsRow w3.heap.size 2 1 v9 up.length (intv up):=(by simpa using hr);obtain ⟨p3,d3,rfl⟩:=own_slice hrow;have HG_4:Hid _:=HG_3.out.below hbel;have HZ_4:Hid _:=HZ_3.out.below hbel;have O3_4:Hid _:=own_base hrow hb3.size;have hb4:=hb3.trans (hbel.mono hb3.size);have O1_4:Hid _:=own_keepB O1_3.out hbel;clear z0 z1 z2 z3 z4 z5 hr hrow hbel;obtain ⟨z0,z1,z2,z3,z4,z5⟩:=HG_4.out.cells;have fz:=HG_4.out.frozen 3)
   rw [HG_4.out.setc3]
   clear hnil hsi z0 z1 z2 z3 z4 z5 fz
   have HG_5:Hid _:=HG_4.out.set (.bool true) (.slice none 0 0) (.slice p1 lo.length d1) (.slice p3 up.length d3) (.int .i64 least) (.int .i64 most)
   have HZ_5:Hid _:=HZ_4.out.other (show W.heap.size≠G by omega) #[.bool true,.slice none 0 0,.slice p1 lo.length d1,.slice p3 up.length d3,.int .i64 least,.int .i64 most]
   have O1_5:Hid _:=own_setRow O1_4.out G #[.bool true,.slice none 0 0,.slice p1 lo.length d1,.slice p3 up.length d3,.int .i64 least,.int .i64 most] HG_4.out.h
   have O3_5:Hid _:=own_setRow O3_4.out G #[.bool true,.slice none 0 0,.slice p1 lo.length d1,.slice p3 up.length d3,.int .i64 least,.int .i64 most] HG_4.out.h
   have hb5:=below_setRow hb4 (show W.heap.size≤G by omega) #[.bool true,.slice none 0 0,.slice p1 lo.length d1,.slice p3 up.length d3,.int .i64 least,.int .i64 most]
   clear HG_3 HZ_3 HG_4 HZ_4 O1_3 O1_4 O3_4 hb3 hb4
   generalize w4.setRow G #[.bool true,.slice none 0 0,.slice p1 lo.length d1,.slice p3 up.length d3,.int .i64 least,.int .i64 most]=w5 at HG_5 HZ_5 O1_5 O3_5 hb5 ⊢
   obtain ⟨z0,z1,z2,z3,z4,z5⟩:=HG_5.out.cells
   go_wp2_with (with_reducible refine st37 rfl (.tmp 8) (.tmp 61) rfl W.heap.size _ _ _ _ _ _ (by with_unfolding_all rfl) (by with_unfolding_all rfl) HZ_5.out (six_dom _ _ _ _ _ _ _ _ _ _ _ _) ?_)
   refine ⟨rfl,_,R6.res rfl _ (HZ_5.out.set (.bool true) (.slice none 0 0) (.slice p1 lo.length d1) (.slice p3 up.length d3) (.int .i64 least) (.int .i64 most)) rfl,⟨_,rfl,?_,below_setRow hb5 (Nat.le_refl _) _⟩⟩
   rw [HD.out]
   exact ⟨_,_,agg6 (by first | rfl | exact HLQ.out.symm | omega) (by first | rfl | exact HMQ.out.symm | omega),rfl,own_setRow O1_5.out _ _ HZ_5.out.h,own_setRow O3_5.out _ _ HZ_5.out.h⟩
theorem tight_cases2 {lo up:List Int} (least most:Int) (h1:IsSet lo) (h2:IsSet up) (hs:∀ x∈lo,x∈up) :
  (tightD lo up least most=noneD∧min most up.length<max least lo.length) ∨
  (tightD lo up least most=TD up up up.length up.length∧max least lo.length=up.length∧(up.length:Int)≤most) ∨
  (tightD lo up least most=TD lo lo lo.length lo.length∧min most up.length=lo.length∧least≤lo.length∧lo.length<up.length) ∨
  (tightD lo up least most=TD lo up (max least lo.length) (min most up.length)∧max least lo.length≤min most up.length∧lo.length<up.length∧¬max least lo.length=up.length∧¬min most up.length=lo.length):=by
 have hl:=set_sub_len h1 h2 hs
 unfold tightD
 dsimp only
 by_cases a:min most (up.length:Int)<max least (lo.length:Int)
 ·rw [if_pos a];exact .inl ⟨rfl,a⟩
 ·rw [if_neg a]
  by_cases b:max least (lo.length:Int)=(up.length:Int)
  ·have c:min most (up.length:Int)=(up.length:Int):=by omega
   simp only [b,c,if_true]
   exact .inr (.inl ⟨by unfold TD;congr 1<;>omega,trivial,by omega⟩)
  ·simp only [if_neg b]
   by_cases c:min most (up.length:Int)=(lo.length:Int)
   ·simp only [c,if_true]
    exact .inr (.inr (.inl ⟨by unfold TD;congr 1<;>omega,trivial,by omega,by omega⟩))
   ·simp only [if_neg c]
    exact .inr (.inr (.inr ⟨by unfold TD;congr 1<;>omega,by omega,by omega,b,c⟩))
theorem reftight_any (s1 s2:Value) (lo up:List Int) (least most:Int) (W:World) (hS1:Si W s1 lo) (hS2:Si W s2 up) (h1:IsSet lo) (h2:IsSet up) (hs:∀ x∈lo,x∈up) :
  Calls Tryz.prog 88 #[s1,s2,.int .i64 least,.int .i64 most] W fun e w'=>∃ v,e = .returned v∧Dv W.heap.size w' v (tightD lo up least most)∧Below W.heap.size W w':=by
 rcases tight_cases2 least most h1 h2 hs with hc | hc | hc | hc
 ·exact reftight_none s1 s2 lo up least most W hS1 hS2 h1 h2 hs hc
 ·exact reftight_up s1 s2 lo up least most W hS1 hS2 h1 h2 hs hc
 ·exact reftight_lo s1 s2 lo up least most W hS1 hS2 h1 h2 hs hc
 ·exact reftight_mid s1 s2 lo up least most W hS1 hS2 h1 h2 hs hc
theorem reftight_look (s1 s2:Value) (lo up:List Int) (least most:Int) (W:World) (hS1:Si W s1 lo) (hS2:Si W s2 up) (h1:IsSet lo) (h2:IsSet up) (hs:∀ x∈lo,x∈up) :
  Calls Tryz.prog 88 #[s1,s2,.int .i64 least,.int .i64 most] W fun e w'=>∃ x0 p1 m1 k1 p2 m2 k2 x4 x5,e = .returned (.agg #[.bool x0,.slice none 0 0,.slice p1 m1 k1,.slice p2 m2 k2,.int .i64 x4,.int .i64 x5])∧Hid (Dv W.heap.size w' (.agg #[.bool x0,.slice none 0 0,.slice p1 m1 k1,.slice p2 m2 k2,.int .i64 x4,.int .i64 x5]) (tightD lo up least most))∧Below W.heap.size W w' :=
 (reftight_any s1 s2 lo up least most W hS1 hS2 h1 h2 hs).mono fun e w' ⟨v,he,hD,hb⟩=>by
  obtain ⟨x0,p1,m1,k1,p2,m2,k2,x4,x5,rfl,_⟩:=hD.look
  exact ⟨_,_,_,_,_,_,_,_,_,he,hD,hb⟩
end Go.Proofs.YtghnfnieppfhgaaGreat.St
