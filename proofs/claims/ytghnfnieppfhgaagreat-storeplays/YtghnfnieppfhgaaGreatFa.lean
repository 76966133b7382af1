/- What is proved here: a domain that lies within another one: both of the two is the first one; what a decision leaves lies within and is smaller (mathematics alone). -/
import Derived.Test.YtghnfnieppfhgaaGreatCaj
import Derived.Test.YtghnfnieppfhgaaGreatZJaj
import Derived.Test.YtghnfnieppfhgaaGreatYTbj
set_option linter.unusedVariables false
set_option linter.unusedSimpArgs false
namespace Go.Proofs.YtghnfnieppfhgaaGreat
open Go.RowKit Go.Shelf
structure LeD (a b : St.SD) : Prop where
 lo:∀ x∈b.lo,x∈a.lo
 up:∀ x∈a.up,x∈b.up
 least:b.least≤a.least
 most:a.most≤b.most
theorem LeD.refl (a:St.SD):LeD a a:=⟨fun _ h=>h,fun _ h=>h,Int.le_refl _,Int.le_refl _⟩
theorem LeD.trans {a b c:St.SD} (h:LeD a b) (k:LeD b c):LeD a c:=⟨fun x hx=>h.lo x (k.lo x hx),fun x hx=>k.up x (h.up x hx),Int.le_trans k.least h.least,Int.le_trans h.most k.most⟩
theorem tight_le {lo up:List Int} {least most:Int} {B:St.SD} (h1:St.IsSet lo) (h2:St.IsSet up) (hs:∀ x∈lo,x∈up) (hne:St.emptyD (St.tightD lo up least most)=false) (hlo:∀ x∈B.lo,x∈lo) (hup:∀ x∈up,x∈B.up) (hl:B.least≤least) (hm:most≤B.most):LeD (St.tightD lo up least most) B:=by
 rcases St.tight_cases2 least most h1 h2 hs with ⟨e,a⟩ | ⟨e,a,b⟩ | ⟨e,a,b,c⟩ | ⟨e,a,b,c,f⟩
 ·rw [e,St.empty_none] at hne;cases hne
 ·rw [e]
  refine ⟨fun x hx=>hs x (hlo x hx),hup,?_,?_⟩
  ·show B.least≤(up.length:Int);omega
  ·show (up.length:Int)≤B.most;omega
 ·rw [e]
  refine ⟨hlo,fun x hx=>hup x (hs x hx),?_,?_⟩
  ·show B.least≤(lo.length:Int);omega
  ·show (lo.length:Int)≤B.most;omega
 ·rw [e]
  refine ⟨hlo,hup,?_,?_⟩
  ·show B.least≤max least (lo.length:Int);omega
  ·show min most (up.length:Int)≤B.most;omega
theorem taken_not {s:St.SD} (h:St.emptyD s=false):St.emptyD (St.takenD s)=false:=by
 have h1:=St.taken_le h
 have h2:=St.taken_right s
 unfold St.emptyD St.rightD
 simp only [Bool.or_eq_false_iff,Bool.not_eq_false',decide_eq_true_eq,decide_eq_false_iff_not]
 exact ⟨h2,by omega⟩
def LeA (a b:MD):Prop:=a.set=b.set∧(if a.set then LeD (St.takenD (sdM a)) (St.takenD (sdM b)) else ∀ x∈Dm.vals (Dm.tk a.r),x∈Dm.vals (Dm.tk b.r))
theorem LeA.refl (a:MD):LeA a a:=⟨rfl,by split;exact LeD.refl _;exact fun _ h=>h⟩
theorem LeA.trans {a b c:MD} (h:LeA a b) (k:LeA b c):LeA a c:=by
 refine ⟨h.1.trans k.1,?_⟩
 have h2:=h.2
 have k2:=k.2
 rw [←h.1] at k2
 split
 ·rename_i hs;rw [if_pos hs] at h2 k2;exact h2.trans k2
 ·rename_i hs;rw [if_neg hs] at h2 k2;exact fun x hx=>k2 x (h2 x hx)
theorem both_num {a b:MD} (ha:Dm.Right a.r) (hs:a.set=false) (h:LeA a b):Dm.bothR a.r b.r=a.r:=by
 have h2:=h.2
 rw [if_neg (by rw [hs];decide)] at h2
 have hb:=Dm.tk_right b.r
 obtain ⟨f1,f2⟩:=Dm.ov_facts (Dm.right_ord (Dm.tk_right a.r)).1 (Dm.right_ord hb).1
 have e:Dm.ov (Dm.tk a.r) (Dm.tk b.r)=Dm.tk a.r:=Dm.ord_ext f1 (Dm.right_ord (Dm.tk_right a.r)).1 fun v=>by rw [f2];exact ⟨fun q=>q.1,fun q=>⟨q,h2 v q⟩⟩
 unfold Dm.bothR
 rw [e,Dm.tk_yes ha]
 split<;>rfl
def reM (d:MD):Bool:=if d.set then St.emptyD (sdM d) else decide (d.r.length=0)
end Go.Proofs.YtghnfnieppfhgaaGreat
