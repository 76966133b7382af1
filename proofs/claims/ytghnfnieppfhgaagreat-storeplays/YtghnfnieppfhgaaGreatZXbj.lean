/- What is proved here: what dom.Right returns of any ranges. What is proved here: what dom.Right, dom.known, dom.Min and dom.Max return of any ranges. -/
import Derived.Test.YtghnfnieppfhgaaGreatZXa
import Derived.WalkSmall
set_option linter.unusedSimpArgs false
set_option linter.unusedVariables false
set_option maxHeartbeats 1000000
namespace Go.Proofs.YtghnfnieppfhgaaGreat.Dm
open Go.RowKit
theorem ret_bool {a b:Bool} (h:a=b):Ending.returned (.bool a) = .returned (.bool b):=by rw [h]
theorem right_some (b off cap:Nat) (l:List Rg) (w:World) (h0:0<l.length) (hlt:b<w.heap.size) (hlen:l.length≤4096) (_hf:FitsR l)
  (hcell:∀ i,i<l.length→w.cell? ⟨b,off+i*2,none⟩=some (.int .i64 (lo l i))∧w.cell? ⟨b,off+i*2+1,none⟩=some (.int .i64 (hi l i))) :
  Calls Tryz.prog 68 #[.slice (some ⟨b,off,none⟩) l.length cap] w fun e w'=>e = .returned (.bool (rightB l))∧Below w.heap.size w w':=by
 obtain ⟨n,hn⟩:∃ n,l.length=n:=⟨_,rfl⟩
 have HN:Hid (l.length=n):=hn
 rw [hn] at h0 hlen hcell ⊢
 clear hn
 have hn':¬(4096<(n:Int)):=by omega
 go_enter Tryz.func68,Tryz.ntmps68
 go_wp2
 go_loopw [10] (fun i wr=>∃ k:Nat,k≤n∧i = .int .i64 k∧(∀ j,j<k→OkAt l j)∧Below w.heap.size w wr) (fun i _=>n-(intOf i).toNat)
 case atStart=>exact ⟨0,Nat.zero_le _,rfl,fun j hj=>absurd hj (by omega),Below.refl _ _⟩
 case round =>
  obtain ⟨k,hk,rfl,hok,hb⟩:=hrel
  have HOK:Hid (∀ j,j<k→OkAt l j):=hok
  clear hok
  by_cases hlt2:k<n
  ·obtain ⟨c1,c2⟩:=hcell k hlt2
   have d1:=(hb.cell (p:=⟨b,off+k*2,none⟩) hlt).trans c1
   have d2:=(hb.cell (p:=⟨b,off+k*2+1,none⟩) hlt).trans c2
   obtain ⟨x,hx⟩:∃ x,lo l k=x:=⟨_,rfl⟩
   obtain ⟨y,hy⟩:∃ y,hi l k=y:=⟨_,rfl⟩
   rw [hx] at d1;rw [hy] at d2
   have HX:Hid (lo l k=x):=hx
   have HY:Hid (hi l k=y):=hy
   have hbw:b<wr.heap.size:=Nat.lt_of_lt_of_le hlt hb.size
   have hnot:¬OkAt l k→rightB l=false:=fun h=>rightB_no fun hR=>h (hR.2 k (by rw [HN.out];exact hlt2))
   have HNOT:Hid (¬OkAt l k→rightB l=false):=hnot
   have hb2:Below w.heap.size w (wr.alloc (Obj.cells #[Value.int IntKind.i64 x,Value.int IntKind.i64 y] 80)):=hb.alloc hb.size _
   have HB2:Hid (Below w.heap.size w (wr.alloc (Obj.cells #[Value.int IntKind.i64 x,Value.int IntKind.i64 y] 80))):=hb2
   clear hx hy c1 c2 hnot hb2
   by_cases hA:y<x
   ·go_wp2
    go_ret
    exact ⟨ret_bool (HNOT.out (fun h=>by have:=h.1;rw [HX.out,HY.out] at this;omega)).symm,HB2.out⟩
   ·by_cases hB : -1000000≤x∧y≤1000000
    ·have hA':x≤y:=by omega
     obtain ⟨hB1,hB2'⟩:=hB
     by_cases hk0:0<k
     ·obtain ⟨c1,c2⟩:=hcell (k-1) (by omega)
      have d3:=(hb.cell (p:=⟨b,off+(k-1)*2+1,none⟩) hlt).trans c2
      obtain ⟨z,hz⟩:∃ z,hi l (k-1)=z:=⟨_,rfl⟩
      have hzb:z≤1000000∧-1000000≤z:=by have h:=HOK.out (k-1) (by omega);unfold OkAt at h;omega
      obtain ⟨hz1,hz2⟩:=hzb
      rw [hz] at d3
      have HZ:Hid (hi l (k-1)=z):=hz
      have hok2:z+1<x→OkAt l k:=fun h=>⟨by rw [HX.out,HY.out];exact hA',by rw [HX.out];exact hB1,by rw [HY.out];exact hB2',fun _=>by rw [HZ.out,HX.out];exact h⟩
      have HOK2:Hid (z+1<x→OkAt l k):=hok2
      clear hz c1 c2 hok2
      have hd0:decide (0<(k:Int))=true:=by simp;omega
      have hk1:(k:Int)-1=((k-1:Nat):Int):=by omega
      go_wp2_with (go_at_call 96;refine (inb_yes x y _ hA' hB1 hB2').mono ?_;rintro e w1 ⟨rfl,hb1⟩;obtain ⟨hc3,hf3⟩:=bcell hb1;have hb3:=HB2.out.trans (hb1.mono (by simp;have:=hb.size;omega)))
      go_quiet (fail)
      by_cases hlast:x≤z+1
      ·have hnok:¬OkAt l k:=fun h=>by have:=h.2.2.2 hk0;rw [HZ.out,HX.out] at this;omega
       have HNOK:Hid (¬OkAt l k):=hnok
       clear hnok
       go_wp2
       go_ret
       exact ⟨ret_bool (HNOT.out HNOK.out).symm,below_drewN hb3 _⟩
      ·go_wp2
       go_roundw
       case rel=>exact ⟨k+1,by omega,by go_num,fun j hj=>if h:j=k then by subst h;exact HOK2.out (by omega) else HOK.out j (by omega),below_drewN hb3 _⟩
       case measure=>simp [intOf];omega
     ·have hd0:decide (0<k)=false:=by simp;omega
      have hok2:OkAt l k:=⟨by rw [HX.out,HY.out];exact hA',by rw [HX.out];exact hB1,by rw [HY.out];exact hB2',fun h=>absurd h hk0⟩
      have HOK2:Hid (OkAt l k):=hok2
      clear hok2 hk0
      go_wp2_with (go_at_call 96;refine (inb_yes x y _ hA' hB1 hB2').mono ?_;rintro e w1 ⟨rfl,hb1⟩;obtain ⟨hc3,hf3⟩:=bcell hb1;have hb3:=HB2.out.trans (hb1.mono (by simp;have:=hb.size;omega)))
      go_quiet (fail)
      go_wp2
      go_roundw
      case rel=>exact ⟨k+1,by omega,by go_num,fun j hj=>if h:j=k then by subst h;exact HOK2.out else HOK.out j (by omega),below_drewN hb3 _⟩
      case measure=>simp [intOf];omega
    ·go_wp2_with (go_at_call 96;refine (inb_no x y _ (by omega) hB).mono ?_;rintro e w1 ⟨rfl,hb1⟩;have hb3:=HB2.out.trans (hb1.mono (by simp;have:=hb.size;omega)))
     go_ret
     exact ⟨ret_bool (HNOT.out (fun h=>by have:=h.2;rw [HX.out,HY.out] at this;omega)).symm,hb3⟩
  ·go_wp2
   go_ret
   exact ⟨ret_bool (rightB_yes ⟨by rw [HN.out];exact hlen,fun i hi=>HOK.out i (by rw [HN.out] at hi;omega)⟩).symm,hb⟩
theorem right_none (a:Option Addr) (cap:Nat) (w:World) :
  Calls Tryz.prog 68 #[.slice a 0 cap] w fun e w'=>e = .returned (.bool true)∧Below w.heap.size w w':=by
 go_enter Tryz.func68,Tryz.ntmps68
 go_wp2
 go_loop [10] (fun i=>i = .int .i64 0) (fun _=>0)
 case atStart=>rfl
 case round =>
  obtain rfl:=hrel
  go_wp2
  go_ret
  exact ⟨rfl,Below.refl _ _⟩
theorem right_long (a:Option Addr) (n cap:Nat) (w:World) (h:4096<n) :
  Calls Tryz.prog 68 #[.slice a n cap] w fun e w'=>e = .returned (.bool false)∧Below w.heap.size w w':=by
 have h':4096<(n:Int):=by omega
 go_enter Tryz.func68,Tryz.ntmps68
 go_wp2
 go_ret
 exact ⟨rfl,Below.refl _ _⟩
theorem right_any (s:Value) (l:List Rg) (w:World) (h:Sr w s l) (hf:FitsR l) :
  Calls Tryz.prog 68 #[s] w fun e w'=>e = .returned (.bool (rightB l))∧Below w.heap.size w w':=by
 obtain ⟨a,cap,rfl,hc⟩:=h
 by_cases hl:4096<l.length
 ·rw [rightB_no (fun h=>by have:=h.1;omega)]
  exact right_long a _ cap w hl
 ·rcases Nat.eq_zero_or_pos l.length with h0 | h0
  ·rw [rightB_yes ⟨by omega,fun i hi=>by omega⟩,h0]
   exact right_none a cap w
  ·obtain ⟨b,off,rfl,hlt,hcell⟩:=hc h0
   exact right_some b off cap l w h0 hlt (by omega) hf hcell
theorem known_yes (s:Value) (l:List Rg) (w:World) (h:Sr w s l) (hf:FitsR l) (hR:Right l) :
  Calls Tryz.prog 104 #[s] w fun e w'=>e = .returned s∧Below w.heap.size w w':=by
 have hc:=right_any s l w h hf
 rw [rightB_yes hR] at hc
 obtain ⟨a,cap,rfl,_⟩:=h
 go_enter Tryz.func104,Tryz.ntmps104
 go_wp2_with (go_at_call 68;refine hc.mono ?_;rintro e w1 ⟨rfl,hb1⟩)
 go_ret
 exact ⟨rfl,hb1⟩
theorem known_no (s:Value) (l:List Rg) (w:World) (h:Sr w s l) (hf:FitsR l) (hR:¬Right l) :
  Calls Tryz.prog 104 #[s] w fun e w'=>e = .returned (.slice none 0 0)∧Below w.heap.size w w':=by
 have hc:=right_any s l w h hf
 rw [rightB_no hR] at hc
 obtain ⟨a,cap,rfl,_⟩:=h
 go_enter Tryz.func104,Tryz.ntmps104
 go_wp2_with (go_at_call 68;refine hc.mono ?_;rintro e w1 ⟨rfl,hb1⟩)
 go_ret
 exact ⟨rfl,hb1⟩
end Go.Proofs.YtghnfnieppfhgaaGreat.Dm
