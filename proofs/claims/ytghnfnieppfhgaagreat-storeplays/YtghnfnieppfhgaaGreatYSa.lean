/- What is proved here: what sets.Set, sets.known and the reference's Set and Taken return of any list of numbers. -/
import Derived.Test.YtghnfnieppfhgaaGreatRows
import Derived.RangeFuncNested
import Derived.RangeFuncBound
import Derived.RangeFuncCalls
import Derived.RangeFuncLeaves
import Derived.Shelf.Abstract
import Derived.Shelf.RegionOpen
import Derived.WalkKit
import Derived.OwnWalk
import Derived.OwnWalkIn
import Derived.TacticsInMore
import Derived.LoopNIn
import Derived.LoopIn
import Derived.Laws.Externs
import Derived.Deep.QuietTactic
import Derived.BigQuiet
set_option linter.unusedVariables false
set_option linter.unusedSimpArgs false
set_option maxRecDepth 100000
set_option maxHeartbeats 2000000
namespace Go.Proofs.YtghnfnieppfhgaaGreat.St
open Go.RowKit
def nth (l:List Int) (i:Nat):Int:=l.getD i 0
def SetAt (l:List Int) (i:Nat):Prop:=-1000000≤nth l i∧nth l i≤1000000∧(0<i→nth l (i-1)<nth l i)
instance (l : List Int) (i : Nat) : Decidable (SetAt l i) := by unfold SetAt; infer_instance
def IsSet (l:List Int):Prop:=l.length≤64∧∀ i,i<l.length→SetAt l i
instance (l : List Int) : Decidable (IsSet l) := by unfold IsSet; infer_instance
def setB (l:List Int):Bool:=decide (IsSet l)
theorem setB_yes {l:List Int} (h:IsSet l):setB l=true:=by unfold setB;simpa using h
theorem setB_no {l:List Int} (h:¬IsSet l):setB l=false:=by unfold setB;simpa using h
def tkS (l:List Int):List Int:=if IsSet l then l else []
theorem tkS_yes {l:List Int} (h:IsSet l):tkS l=l:=by unfold tkS;rw [if_pos h]
theorem tkS_no {l:List Int} (h:¬IsSet l):tkS l=[]:=by unfold tkS;rw [if_neg h]
theorem isSet_nil:IsSet []:=⟨by simp,fun i h=>by simp at h⟩
theorem tkS_set (l:List Int):IsSet (tkS l):=by
 by_cases h:IsSet l
 ·rw [tkS_yes h];exact h
 ·rw [tkS_no h];exact isSet_nil
def Si (W:World) (s:Value) (l:List Int):Prop :=
 ∃ a cap,s = .slice a l.length cap∧(0<l.length→∃ b off,a=some ⟨b,off,none⟩∧b<W.heap.size∧∀ i,i<l.length→W.cell? ⟨b,off+i,none⟩=some (.int .i64 (nth l i)))
theorem Si.below {W W':World} {s:Value} {l:List Int} (h:Si W s l) (hb:Below W.heap.size W W'):Si W' s l:=by
 obtain ⟨a,cap,e,hc⟩:=h
 refine ⟨a,cap,e,fun h0=>?_⟩
 obtain ⟨b,off,e1,hlt,hcell⟩:=hc h0
 exact ⟨b,off,e1,Nat.lt_of_lt_of_le hlt hb.size,fun i hi=>(hb.cell (p:=⟨b,off+i,none⟩) hlt).trans (hcell i hi)⟩
theorem Si.nil (W:World):Si W (.slice none 0 0) []:=⟨none,0,rfl,fun h=>absurd h (by decide)⟩
theorem below_drewN {B:Nat} {a w:World} (h:Below B a w) (n:Nat):Below B a (w.drewN n):=h.trans ⟨rfl,rfl,rfl,Nat.le_refl _,fun _ _=>rfl⟩
theorem ret_bool {a b:Bool} (h:a=b):Ending.returned (.bool a)=Ending.returned (.bool b):=by rw [h]
theorem set_any (s:Value) (l:List Int) (w:World) (h:Si w s l) :
  Calls Tryz.prog 94 #[s] w fun e w'=>e = .returned (.bool (setB l))∧∃ n,w'=w.drewN n:=by
 obtain ⟨a,cap,rfl,hc⟩:=h
 obtain ⟨n,hn⟩:∃ n,l.length=n:=⟨_,rfl⟩
 have HN:Hid (l.length=n):=hn
 rw [hn] at hc ⊢
 have HC:Hid _:=hc
 clear hn hc
 by_cases hlen:n≤64
 ·have hn':¬(64<(n:Int)):=by omega
  go_enter Tryz.func94,Tryz.ntmps94
  go_wp2
  go_loopw [10] (fun i wr=>∃ k:Nat,k≤n∧i = .int .i64 k∧(∀ j,j<k→SetAt l j)∧∃ m,wr=w.drewN m) (fun i _=>n-(intOf i).toNat)
  case atStart=>exact ⟨0,Nat.zero_le _,rfl,fun j hj=>absurd hj (by omega),0,rfl⟩
  case round =>
   obtain ⟨k,hk,rfl,hok,m,rfl⟩:=hrel
   have HOK:Hid (∀ j,j<k→SetAt l j):=hok
   clear hok
   by_cases hlt2:k<n
   ·obtain ⟨b,off,rfl,hb,hcell⟩:=HC.out (by omega)
    obtain ⟨W2,hW2⟩:∃ W2,w.drewN m=W2:=⟨_,rfl⟩
    have HW2:Hid (w.drewN m=W2):=hW2
    have HC2:Hid (∀ i,i<n→W2.cell? ⟨b,off+i,none⟩=some (.int .i64 (nth l i))):=by rw [←hW2];exact hcell
    rw [hW2]
    clear hW2 hcell
    have d1:=HC2.out k hlt2
    have hlt':(k:Int)<(n:Int):=by omega
    obtain ⟨x,hx⟩:∃ x,nth l k=x:=⟨_,rfl⟩
    have HX:Hid (nth l k=x):=hx
    rw [hx] at d1
    have hnot:¬SetAt l k→setB l=false:=fun h=>setB_no fun hR=>h (hR.2 k (by rw [HN.out];exact hlt2))
    have HNOT:Hid (¬SetAt l k→setB l=false):=hnot
    clear hx hnot
    by_cases hA1 : -1000000≤x
    ·have hA1':decide (x < -1000000)=false:=by simp;omega
     by_cases hA2:x≤1000000
     ·have hA2':decide (1000000<x)=false:=by simp;omega
      by_cases hk0:0<k
      ·have d3:=HC2.out (k-1) (by omega)
       obtain ⟨z,hz⟩:∃ z,nth l (k-1)=z:=⟨_,rfl⟩
       have HZ:Hid (nth l (k-1)=z):=hz
       rw [hz] at d3
       have hd0:decide (0<k)=true:=by simpa using hk0
       have hk1:(k:Int)-1=((k-1:Nat):Int):=by omega
       clear hz
       by_cases hD:x≤z
       ·have hd2:decide (x≤z)=true:=by simpa using hD
        go_wp2
        go_ret
        exact ⟨ret_bool (HNOT.out (fun h=>by have:=h.2.2 hk0;rw [HX.out,HZ.out] at this;omega)).symm,_,HW2.out.symm⟩
       ·have hd2:decide (x≤z)=false:=by simp;omega
        have HOK2:Hid (SetAt l k):=⟨by rw [HX.out];exact hA1,by rw [HX.out];exact hA2,fun _=>by rw [HX.out,HZ.out];omega⟩
        go_wp2
        go_roundw
        case rel=>exact ⟨k+1,by omega,by go_num,fun j hj=>if h:j=k then by subst h;exact HOK2.out else HOK.out j (by omega),_,HW2.out.symm⟩
        case measure=>simp [intOf];omega
      ·have hd0:decide (0<k)=false:=by simp;omega
       have HOK2:Hid (SetAt l k):=⟨by rw [HX.out];exact hA1,by rw [HX.out];exact hA2,fun h=>absurd h hk0⟩
       go_wp2
       go_roundw
       case rel=>exact ⟨k+1,by omega,by go_num,fun j hj=>if h:j=k then by subst h;exact HOK2.out else HOK.out j (by omega),_,HW2.out.symm⟩
       case measure=>simp [intOf];omega
     ·have hA2':decide (1000000<x)=true:=by simp;omega
      go_wp2
      go_ret
      exact ⟨ret_bool (HNOT.out (fun h=>by have:=h.2.1;rw [HX.out] at this;omega)).symm,_,HW2.out.symm⟩
    ·have hA1':decide (x < -1000000)=true:=by simp;omega
     go_wp2
     go_ret
     exact ⟨ret_bool (HNOT.out (fun h=>by have:=h.1;rw [HX.out] at this;omega)).symm,_,HW2.out.symm⟩
   ·have hlt':¬(k:Int)<(n:Int):=by omega
    go_wp2
    go_ret
    exact ⟨ret_bool (setB_yes ⟨by rw [HN.out];exact hlen,fun i hi=>HOK.out i (by rw [HN.out] at hi;omega)⟩).symm,_,rfl⟩
 ·have hn':64<(n:Int):=by omega
  go_enter Tryz.func94,Tryz.ntmps94
  go_wp2
  go_ret
  exact ⟨ret_bool (setB_no fun h=>hlen (by rw [←HN.out];exact h.1)).symm,0,rfl⟩
theorem refset_any (s:Value) (l:List Int) (w:World) (h:Si w s l) :
  Calls Tryz.prog 81 #[s] w fun e w'=>e = .returned (.bool (setB l))∧∃ n,w'=w.drewN n:=by
 obtain ⟨a,cap,rfl,hc⟩:=h
 obtain ⟨n,hn⟩:∃ n,l.length=n:=⟨_,rfl⟩
 have HN:Hid (l.length=n):=hn
 rw [hn] at hc ⊢
 have HC:Hid _:=hc
 clear hn hc
 by_cases hlen:n≤64
 ·have hn':¬(64<(n:Int)):=by omega
  go_enter Tryz.func81,Tryz.ntmps81
  go_wp2
  go_loopw [3] (fun i wr=>∃ k:Nat,k≤n∧i = .int .i64 k∧(∀ j,j<k→SetAt l j)∧∃ m,wr=w.drewN m) (fun i _=>n-(intOf i).toNat)
  case atStart=>exact ⟨0,Nat.zero_le _,rfl,fun j hj=>absurd hj (by omega),0,rfl⟩
  case round =>
   obtain ⟨k,hk,rfl,hok,m,rfl⟩:=hrel
   have HOK:Hid (∀ j,j<k→SetAt l j):=hok
   clear hok
   by_cases hlt2:k<n
   ·obtain ⟨b,off,rfl,hb,hcell⟩:=HC.out (by omega)
    obtain ⟨W2,hW2⟩:∃ W2,w.drewN m=W2:=⟨_,rfl⟩
    have HW2:Hid (w.drewN m=W2):=hW2
    have HC2:Hid (∀ i,i<n→W2.cell? ⟨b,off+i,none⟩=some (.int .i64 (nth l i))):=by rw [←hW2];exact hcell
    rw [hW2]
    clear hW2 hcell
    have d1:=HC2.out k hlt2
    have hlt':(k:Int)<(n:Int):=by omega
    obtain ⟨x,hx⟩:∃ x,nth l k=x:=⟨_,rfl⟩
    have HX:Hid (nth l k=x):=hx
    rw [hx] at d1
    have hnot:¬SetAt l k→setB l=false:=fun h=>setB_no fun hR=>h (hR.2 k (by rw [HN.out];exact hlt2))
    have HNOT:Hid (¬SetAt l k→setB l=false):=hnot
    clear hx hnot
    by_cases hA1 : -1000000≤x
    ·have hA1':decide (x < -1000000)=false:=by simp;omega
     by_cases hA2:x≤1000000
     ·have hA2':decide (1000000<x)=false:=by simp;omega
      by_cases hk0:0<k
      ·have d3:=HC2.out (k-1) (by omega)
       obtain ⟨z,hz⟩:∃ z,nth l (k-1)=z:=⟨_,rfl⟩
       have HZ:Hid (nth l (k-1)=z):=hz
       rw [hz] at d3
       have hd0:decide (0<k)=true:=by simpa using hk0
       have hk1:(k:Int)-1=((k-1:Nat):Int):=by omega
       clear hz
       by_cases hD:x≤z
       ·have hd2:decide (x≤z)=true:=by simpa using hD
        go_wp2
        go_quiet (fail)
        go_wp2
        go_ret
        exact ⟨ret_bool (HNOT.out (fun h=>by have:=h.2.2 hk0;rw [HX.out,HZ.out] at this;omega)).symm,_,by rw [←HW2.out,World.drewN_drewN]⟩
       ·have hd2:decide (x≤z)=false:=by simp;omega
        have HOK2:Hid (SetAt l k):=⟨by rw [HX.out];exact hA1,by rw [HX.out];exact hA2,fun _=>by rw [HX.out,HZ.out];omega⟩
        go_wp2
        go_quiet (fail)
        go_wp2
        go_roundw
        case rel=>exact ⟨k+1,by omega,by go_num,fun j hj=>if h:j=k then by subst h;exact HOK2.out else HOK.out j (by omega),_,by rw [←HW2.out,World.drewN_drewN]⟩
        case measure=>simp [intOf];omega
      ·have hd0:decide (0<k)=false:=by simp;omega
       have HOK2:Hid (SetAt l k):=⟨by rw [HX.out];exact hA1,by rw [HX.out];exact hA2,fun h=>absurd h hk0⟩
       go_wp2
       go_quiet (fail)
       go_wp2
       go_roundw
       case rel=>exact ⟨k+1,by omega,by go_num,fun j hj=>if h:j=k then by subst h;exact HOK2.out else HOK.out j (by omega),_,by rw [←HW2.out,World.drewN_drewN]⟩
       case measure=>simp [intOf];omega
     ·have hA2':decide (1000000<x)=true:=by simp;omega
      go_wp2
      go_quiet (fail)
      go_wp2
      go_ret
      exact ⟨ret_bool (HNOT.out (fun h=>by have:=h.2.1;rw [HX.out] at this;omega)).symm,_,by rw [←HW2.out,World.drewN_drewN]⟩
    ·have hA1':decide (x < -1000000)=true:=by simp;omega
     go_wp2
     go_quiet (fail)
     go_wp2
     go_ret
     exact ⟨ret_bool (HNOT.out (fun h=>by have:=h.1;rw [HX.out] at this;omega)).symm,_,by rw [←HW2.out,World.drewN_drewN]⟩
   ·have hlt':¬(k:Int)<(n:Int):=by omega
    go_wp2
    go_ret
    exact ⟨ret_bool (setB_yes ⟨by rw [HN.out];exact hlen,fun i hi=>HOK.out i (by rw [HN.out] at hi;omega)⟩).symm,_,rfl⟩
 ·have hn':64<(n:Int):=by omega
  go_enter Tryz.func81,Tryz.ntmps81
  go_wp2
  go_ret
  exact ⟨ret_bool (setB_no fun h=>hlen (by rw [←HN.out];exact h.1)).symm,0,rfl⟩
theorem known_yes (s:Value) (l:List Int) (w:World) (h:Si w s l) (hR:IsSet l) :
  Calls Tryz.prog 122 #[s] w fun e w'=>e = .returned s∧∃ n,w'=w.drewN n:=by
 have hc:=set_any s l w h
 rw [setB_yes hR] at hc
 obtain ⟨a,cap,rfl,_⟩:=h
 go_enter Tryz.func122,Tryz.ntmps122
 go_wp2_with (go_at_call 94;refine hc.mono ?_;rintro e w1 ⟨rfl,n1,rfl⟩)
 go_ret
 exact ⟨rfl,_,rfl⟩
theorem known_no (s:Value) (l:List Int) (w:World) (h:Si w s l) (hR:¬IsSet l) :
  Calls Tryz.prog 122 #[s] w fun e w'=>e = .returned (.slice none 0 0)∧∃ n,w'=w.drewN n:=by
 have hc:=set_any s l w h
 rw [setB_no hR] at hc
 obtain ⟨a,cap,rfl,_⟩:=h
 go_enter Tryz.func122,Tryz.ntmps122
 go_wp2_with (go_at_call 94;refine hc.mono ?_;rintro e w1 ⟨rfl,n1,rfl⟩)
 go_ret
 exact ⟨rfl,_,rfl⟩
theorem known_any (s:Value) (l:List Int) (w:World) (h:Si w s l) :
  Calls Tryz.prog 122 #[s] w fun e w'=>∃ a n c,e = .returned (.slice a n c)∧Hid (Si w (.slice a n c) (tkS l))∧Hid (n=(tkS l).length)∧∃ n,w'=w.drewN n:=by
 by_cases hR:IsSet l
 ·have h2:=h
  obtain ⟨a,cap,rfl,_⟩:=h2
  exact (known_yes _ l w h hR).mono fun e w' ⟨he,hw⟩=>⟨a,_,cap,he,by rw [tkS_yes hR];exact h,by rw [tkS_yes hR];exact rfl,hw⟩
 ·exact (known_no _ l w h hR).mono fun e w' ⟨he,hw⟩=>⟨none,0,0,he,by rw [tkS_no hR];exact Si.nil _,by rw [tkS_no hR];exact rfl,hw⟩
theorem taken_yes (s:Value) (l:List Int) (w:World) (h:Si w s l) (hR:IsSet l) :
  Calls Tryz.prog 105 #[s] w fun e w'=>e = .returned s∧∃ n,w'=w.drewN n:=by
 have hc:=refset_any s l w h
 rw [setB_yes hR] at hc
 obtain ⟨a,cap,rfl,_⟩:=h
 go_enter Tryz.func105,Tryz.ntmps105
 go_wp2_with (go_at_call 81;refine hc.mono ?_;rintro e w1 ⟨rfl,n1,rfl⟩)
 go_ret
 exact ⟨rfl,_,rfl⟩
theorem taken_no (s:Value) (l:List Int) (w:World) (h:Si w s l) (hR:¬IsSet l) :
  Calls Tryz.prog 105 #[s] w fun e w'=>e = .returned (.slice none 0 0)∧∃ n,w'=w.drewN n:=by
 have hc:=refset_any s l w h
 rw [setB_no hR] at hc
 obtain ⟨a,cap,rfl,_⟩:=h
 go_enter Tryz.func105,Tryz.ntmps105
 go_wp2_with (go_at_call 81;refine hc.mono ?_;rintro e w1 ⟨rfl,n1,rfl⟩)
 go_ret
 exact ⟨rfl,_,rfl⟩
theorem taken_any (s:Value) (l:List Int) (w:World) (h:Si w s l) :
  Calls Tryz.prog 105 #[s] w fun e w'=>∃ a n c,e = .returned (.slice a n c)∧Hid (Si w (.slice a n c) (tkS l))∧Hid (n=(tkS l).length)∧∃ n,w'=w.drewN n:=by
 by_cases hR:IsSet l
 ·have h2:=h
  obtain ⟨a,cap,rfl,_⟩:=h2
  exact (taken_yes _ l w h hR).mono fun e w' ⟨he,hw⟩=>⟨a,_,cap,he,by rw [tkS_yes hR];exact h,by rw [tkS_yes hR];exact rfl,hw⟩
 ·exact (taken_no _ l w h hR).mono fun e w' ⟨he,hw⟩=>⟨none,0,0,he,by rw [tkS_no hR];exact Si.nil _,by rw [tkS_no hR];exact rfl,hw⟩
end Go.Proofs.YtghnfnieppfhgaaGreat.St
