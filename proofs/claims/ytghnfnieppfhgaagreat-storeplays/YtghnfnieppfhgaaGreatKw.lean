/- What is proved here: what becomes of the store of the fixed calls. -/
import Derived.Test.YtghnfnieppfhgaaGreatKaj
import Derived.Test.YtghnfnieppfhgaaGreatKlj
import Derived.Test.YtghnfnieppfhgaaGreatMbj
import Derived.Test.YtghnfnieppfhgaaGreatMgj
set_option linter.unusedVariables false
set_option linter.unusedSimpArgs false
namespace Go.Proofs.YtghnfnieppfhgaaGreat
open Go.RowKit Go.Shelf
abbrev dW (r:List Dm.Rg):MD:=⟨false,r,[],[],0,0⟩
theorem kn_rt1:Dm.Right [(1,9)]:=by decide
theorem kn_rt2:Dm.Right [(0,1)]:=by decide
theorem kn_rt3:Dm.Right [(3,3)]:=by decide
theorem kn_b1:Dm.bothR [(1,9)] [(1,9)]=[(1,9)]:=by unfold Dm.bothR;rw [Dm.tk_yes kn_rt1];rw [Dm.ov,Dm.ovF,Dm.ovF];simp [Dm.ov1,Dm.mx,Dm.mn,Dm.lo,Dm.hi,Dm.ovF_no [(1,9)] [(1,9)] 0 1 (by simp)]
theorem kn_b2:Dm.bothR [(0,1)] [(0,1)]=[(0,1)]:=by unfold Dm.bothR;rw [Dm.tk_yes kn_rt2];rw [Dm.ov,Dm.ovF,Dm.ovF];simp [Dm.ov1,Dm.mx,Dm.mn,Dm.lo,Dm.hi,Dm.ovF_no [(0,1)] [(0,1)] 0 1 (by simp)]
theorem kn_b3:Dm.bothR [(1,9)] [(3,3)]=[(3,3)]:=by unfold Dm.bothR;rw [Dm.tk_yes kn_rt1,Dm.tk_yes kn_rt3];rw [Dm.ov,Dm.ovF,Dm.ovF];simp [Dm.ov1,Dm.mx,Dm.mn,Dm.lo,Dm.hi,Dm.ovF_no [(1,9)] [(3,3)] 0 1 (by simp)]
theorem kn_b4:Dm.bothR [(0,1)] []=[]:=by unfold Dm.bothR;rw [Dm.tk_yes kn_rt2,Dm.tk_yes Dm.right_nil];rw [Dm.ov,Dm.ovF];simp
theorem kn_o3:onlyW (dW [(3,3)])=(3,true):=by decide
theorem kn_n1:¬Dm.tk [(1,9)]=Dm.tk [(3,3)]:=by decide
theorem kn_n2:¬Dm.tk [(0,1)]=Dm.tk []:=by decide
theorem kn_e1:emptyW (dW [(1,9)])=false:=by decide
theorem kn_fit (x y:Int) (h1 : -1000000≤x) (h2:x≤1000000) (h3 : -1000000≤y) (h4:y≤1000000):Dm.FitsR [(x,y)]:=by
 intro i hi
 simp at hi
 subst hi
 simp [Dm.Fits,Dm.lo,Dm.hi]
 omega
abbrev d19:MD:=dW [(1,9)]
abbrev d01:MD:=dW [(0,1)]
abbrev d33:MD:=dW [(3,3)]
abbrev dE:MD:=dW []
theorem kn_w1:bothW d19 d19=d19:=by unfold bothW;show (⟨false,Dm.bothR [(1,9)] [(1,9)],[],[],0,0⟩:MD)=_;rw [kn_b1]
theorem kn_w2:bothW d01 d01=d01:=by unfold bothW;show (⟨false,Dm.bothR [(0,1)] [(0,1)],[],[],0,0⟩:MD)=_;rw [kn_b2]
theorem kn_w3:bothW d19 d33=d33:=by unfold bothW;show (⟨false,Dm.bothR [(1,9)] [(3,3)],[],[],0,0⟩:MD)=_;rw [kn_b3]
theorem kn_w4:bothW d01 dE=dE:=by unfold bothW;show (⟨false,Dm.bothR [(0,1)] [],[],[],0,0⟩:MD)=_;rw [kn_b4]
def S0:StM:=⟨[d19,d01],0,[0,0],[0,0],[],[]⟩
def S1:StM:=⟨[d19,d01],0,[0,0],[0,0],[],[0]⟩
def S2:StM:=⟨[d33,d01],0,[1,0],[1,0],[(0,d19,0)],[0]⟩
def S3:StM:=⟨[d33,d01],0,[0,0],[1,0],[(0,d19,0)],[0]⟩
def S4:StM:=⟨[d33,dE],1,[0,0],[1,1],[(0,d19,0),(1,d01,0)],[0]⟩
def S5:StM:=⟨[d19,d01],0,[0,0],[0,0],[],[]⟩
theorem kn_s0:newM [d19,d01]=S0:=by
 unfold newM
 simp only [List.map_cons,List.map_nil,kn_w1,kn_w2]
 rfl
theorem kn_s1:{ S0 with marks:=S0.marks++[(S0.saved.length:Int)] }=S1:=rfl
theorem kn_s2:narrowM S1 0 d19 d33 1=S2:=rfl
theorem kn_s3:{ S2 with why:=List.replicate S2.D.length 0 }=S3:=rfl
theorem kn_s4:narrowM S3 1 d01 dE 0=S4:=rfl
theorem kn_s5:popA S4 [] 0=S5:=rfl
theorem kn_ev2:evsA S2 S2.D.length=[[.int .i64 (0:Nat),.int .i64 1]]:=rfl
end Go.Proofs.YtghnfnieppfhgaaGreat
