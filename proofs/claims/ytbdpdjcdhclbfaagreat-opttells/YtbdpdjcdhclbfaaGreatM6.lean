/- The document's rules for shorter code,walked: Jumped,Word,yes,num,Goes,Reckon. -/
import Derived.Test.YtbdpdjcdhclbfaaGreatM4
import Derived.Test.YtbdpdjcdhclbfaaGreatM5
import Derived.Shelf.Slices.Turned
import Derived.Ground.SlgnProg
import Derived.Shelf.SlicesE.Index
import Derived.Test.YtbdpdjcdhclbfaaGreatProg
set_option maxRecDepth 100000
set_option maxHeartbeats 4000000
namespace Go.Proofs.YtbdpdjcdhclbfaaGreat.Ow
open Go.RowKit Vf Vm Ot Od
theorem DW {x y:Bool}(h:x=y):Ending.returned (.bool y)=.returned (.bool x):=by rw[h]
theorem Wi (B:Nat)(l:List Ins)(a:Option Addr)(c k:Nat)(w:World)(hC:Hid (aV B w l a))(hB:B≤w.heap.size)(hl:l.length≤4000) :
  Calls Tryz.prog 49 #[.slice a l.length c,.int .i64 (k:Int)] w fun e w'=>e=.returned (.bool (lg l k))∧Below w.heap.size w w':=by
 obtain⟨L,hL⟩:∃ L,L=l.length:=⟨_,rfl⟩;have HL:Hid (L=l.length):=hL;rw[← hL] at hl ⊢;clear hL;go_enter Tryz.func49,Tryz.ntmps49
 go_wp2
 go_loopw [9] (fun q wr=>∃ j:Nat,q=.int .i64 j∧j≤L∧Hid (Below w.heap.size w wr)∧Hid (lg (l.take j) k=false)) (fun q _=>L - (intOf q).toNat)
 case atStart=>exact⟨0,rfl,Nat.zero_le _,Below.refl _ _,rfl⟩
 case round =>
  obtain⟨j,rfl,hj,HB,HA⟩:=hrel;by_cases hlt:j<L
  ·have hj1:j<l.length:=by rw[← HL.out];exact hlt
   obtain⟨x,hx⟩:∃ x,l[j]?=some x:=⟨_,List.getElem?_eq_getElem hj1⟩;obtain⟨_,_,_,b,off,rfl,hb,c0,c1,c2⟩:=(hC.out.low (fun q hq=>HB.out.block q (by omega)):aV B wr l a) j x hx;have hjp:(j:Int)<(L:Int):=by omega
   have HJ:Hid (j+1≤L):=hlt;have GY:Hid (Below w.heap.size w (wr.alloc (fF x))):=HB.out.alloc HB.out.size _;have HT:Hid (lg (l.take (j+1)) k=(lg (l.take j) k || (jmp x && x.a==(k:Int)))):=by
    unfold Hid lg;rw[List.take_add_one,hx,List.any_append];simp
   have PT:Hid ((jmp x && x.a==(k:Int))=true→lg l k=true):=fun h=>by
    unfold lg;rw[List.any_eq_true];exact⟨x,List.mem_of_getElem? hx,h⟩
   have hbw:b<wr.heap.size:=by have:=HB.out.size;omega
   clear hx;by_cases h1:x.op=21
   ·have e1:(x.op==21)=true:=by simp[h1]
    have hj2:jmp x=true:=by simp[jmp,h1]
    by_cases h2:x.a=(k:Int)
    ·have e2:(x.a==(k:Int))=true:=by simp[h2]
     have HR:Hid (lg l k=true):=PT.out (by rw[hj2,e2];rfl);clear h1 h2 hj2;go_wp2
     go_ret
     exact⟨DW HR.out,GY.out⟩
    ·have e2:(x.a==(k:Int))=false:=by simpa using h2
     have HR:Hid (lg (l.take (j+1)) k=false):=by unfold Hid;rw[HT.out,HA.out,e2];simp
     clear h1 h2 hj2;go_wp2
     go_roundw
     case rel=>exact⟨j+1,by go_num,HJ.out,GY,HR⟩
     case measure=>have:=HJ.out;simp[intOf];omega
   ·have e1:(x.op==21)=false:=by simpa using h1
    by_cases h3:x.op=22
    ·have e3:(x.op==22)=true:=by simp[h3]
     have hj2:jmp x=true:=by simp[jmp,h3]
     by_cases h2:x.a=(k:Int)
     ·have e2:(x.a==(k:Int))=true:=by simp[h2]
      have HR:Hid (lg l k=true):=PT.out (by rw[hj2,e2];rfl);clear h1 h2 h3 hj2;go_wp2
      go_ret
      exact⟨DW HR.out,GY.out⟩
     ·have e2:(x.a==(k:Int))=false:=by simpa using h2
      have HR:Hid (lg (l.take (j+1)) k=false):=by unfold Hid;rw[HT.out,HA.out,e2];simp
      clear h1 h2 h3 hj2;go_wp2
      go_roundw
      case rel=>exact⟨j+1,by go_num,HJ.out,GY,HR⟩
      case measure=>have:=HJ.out;simp[intOf];omega
    ·have e3:(x.op==22)=false:=by simpa using h3
     have HR:Hid (lg (l.take (j+1)) k=false):=by unfold Hid;rw[HT.out,HA.out];simp[jmp,e1,e3]
     clear h1 h3;go_wp2
     go_roundw
     case rel=>exact⟨j+1,by go_num,HJ.out,GY,HR⟩
     case measure=>have:=HJ.out;simp[intOf];omega
  ·have hjp:¬ (j:Int)<(L:Int):=by omega
   have HR:Hid (lg l k=false):=by
    have h1:=HA.out;rw[List.take_of_length_le (by have:=HL.out;omega)] at h1;exact h1
   go_wp2
   go_ret
   exact⟨DW HR.out,HB.out⟩
def vG (c:Ins):Int:=if c.op=1 then c.n else if c.op=2 then c.a else 0
def tr (c:Ins):Bool:=decide (c.op=2)
theorem PU (c:Ins)(w:World):Calls Tryz.prog 50 #[GV c] w fun e w'=>e=.returned (.tuple #[.int .i64 (vG c),.bool (kn c),.bool (tr c)])∧w'=w.alloc (fF c):=by
 by_cases h1:c.op=1
 ·have e1:(c.op==1)=true:=by simp[h1]
  have HR:Hid (vG c=c.n∧kn c=true∧tr c=false):=⟨by simp[vG,h1],by simp[kn,h1],by simp[tr,h1]⟩;clear h1;go_enter Tryz.func50,Tryz.ntmps50
  go_wp2
  exact bodyPost_ret (v:=.tuple #[.int .i64 c.n,.bool true,.bool false]) (by simp[results,Tryz.results50,go_sem]) rfl ⟨by rw[HR.out.1,HR.out.2.1,HR.out.2.2],rfl⟩
 ·have e1:(c.op==1)=false:=by simpa using h1
  by_cases h2:c.op=2
  ·have e2:(c.op==2)=true:=by simp[h2]
   have HR:Hid (vG c=c.a∧kn c=true∧tr c=true):=⟨by simp[vG,h2],by simp[kn,h2],by simp[tr,h2]⟩;clear h1 h2;go_enter Tryz.func50,Tryz.ntmps50
   go_wp2
   exact bodyPost_ret (v:=.tuple #[.int .i64 c.a,.bool true,.bool true]) (by simp[results,Tryz.results50,go_sem]) rfl ⟨by rw[HR.out.1,HR.out.2.1,HR.out.2.2],rfl⟩
  ·have e2:(c.op==2)=false:=by simpa using h2
   have HR:Hid (vG c=0∧kn c=false∧tr c=false):=⟨by simp[vG,h1,h2],by simp[kn,h1,h2],by simp[tr,h2]⟩;clear h1 h2;go_enter Tryz.func50,Tryz.ntmps50
   go_wp2
   exact bodyPost_ret (v:=.tuple #[.int .i64 0,.bool false,.bool false]) (by simp[results,Tryz.results50,go_sem]) rfl ⟨by rw[HR.out.1,HR.out.2.1,HR.out.2.2],rfl⟩
theorem DX (n:Int)(w:World):Calls Tryz.prog 53 #[.int .i64 n] w fun e w'=>e=.returned (.slice (some ⟨w.heap.size,0,none⟩) 1 1)∧w'=w.alloc (fF ⟨1,0,n⟩):=by
 go_enter Tryz.func53,Tryz.ntmps53
 go_wp2
 go_ret
 exact⟨rfl,rfl⟩
theorem BM (b:Bool)(w:World):Calls Tryz.prog 54 #[.bool b] w fun e w'=>e=.returned (.slice (some ⟨w.heap.size,0,none⟩) 1 1)∧w'=w.alloc (fF ⟨2,yes b,0⟩):=by
 cases b
 ·go_enter Tryz.func54,Tryz.ntmps54
  go_wp2
  go_ret
  exact⟨rfl,rfl⟩
 ·go_enter Tryz.func54,Tryz.ntmps54
  go_wp2
  go_ret
  exact⟨rfl,rfl⟩
def wh (op:Int)(t:Bool):Bool:=if op=13∨op=14 then true else if op=19∨op=20 then t else !t
theorem Wj (op:Int)(t:Bool)(w:World):Calls Tryz.prog 51 #[.int .i64 op,.bool t] w fun e w'=>e=.returned (.bool (wh op t))∧w'=w:=by
 by_cases vX:op=13
 ·have HR:Hid (wh op t=true):=by simp[Hid,wh,vX]
  have e1:(op==13)=true:=by simp[vX]
  clear vX;go_enter Tryz.func51,Tryz.ntmps51
  go_wp2
  go_ret
  exact⟨DW HR.out,rfl⟩
 ·have e13:(op==13)=false:=by simpa using vX
  by_cases wL:op=14
  ·have HR:Hid (wh op t=true):=by simp[Hid,wh,wL]
   have e1:(op==14)=true:=by simp[wL]
   clear vX wL;go_enter Tryz.func51,Tryz.ntmps51
   go_wp2
   go_ret
   exact⟨DW HR.out,rfl⟩
  ·have e14:(op==14)=false:=by simpa using wL
   by_cases h19:op=19
   ·have HR:Hid (wh op t=t):=by simp[Hid,wh,h19]
    have e1:(op==19)=true:=by simp[h19]
    clear vX wL h19;go_enter Tryz.func51,Tryz.ntmps51
    go_wp2
    go_ret
    exact⟨DW HR.out,rfl⟩
   ·have e19:(op==19)=false:=by simpa using h19
    by_cases h20:op=20
    ·have HR:Hid (wh op t=t):=by simp[Hid,wh,h20]
     have e1:(op==20)=true:=by simp[h20]
     clear vX wL h19 h20;go_enter Tryz.func51,Tryz.ntmps51
     go_wp2
     go_ret
     exact⟨DW HR.out,rfl⟩
    ·have HR:Hid (wh op t=!t):=by simp[Hid,wh,vX,wL,h19,h20]
     have e20:(op==20)=false:=by simpa using h20
     clear vX wL h19 h20;go_enter Tryz.func51,Tryz.ntmps51
     go_wp2
     go_ret
     exact⟨DW HR.out,rfl⟩
def can (op b:Int):Bool:=decide (8≤op) && decide (op≤20) && !(decide (b=0) && (decide (op=11) || decide (op=12)))
def tells (op a b:Int):List Ins:=if can op b=true then [if op≤12 then ⟨1,0,two op a b⟩ else ⟨2,two op a b,0⟩] else []
def Lt (op a b:Int)(w:World)(e:Ending)(w':World):Prop:=∃ v n c,e=.returned (.tuple #[.slice v n c,.bool (can op b)])∧uI w w' (.slice v n c) (tells op a b)∧Below w.heap.size w w'
theorem xO {op a b:Int}{w:World}{x:Ins}(hc:can op b=true)(hx:tells op a b=[x]):Lt op a b w (.returned (.tuple #[.slice (some ⟨w.heap.size,0,none⟩) 1 1,.bool true])) (w.alloc (fF x)):=⟨_,_,_,by rw[hc],by rw[hx];exact .one (Nat.le_refl _) (heap_alloc_new _ _),fG _ _⟩
theorem vg {op b:Int}(h:8≤op∧op≤20)(h2:b≠0∨(op≠11∧op≠12)):can op b=true:=by
 unfold can;rw[decide_eq_true h.1,decide_eq_true h.2];rcases h2 with h2 | ⟨h2,h3⟩
 ·simp[h2]
 ·simp[h2,h3]
theorem Wm {a b:Int}(ha:dA a)(h1:b≠-1):dA (a.tdiv b)∧dA (a.tdiv b * b):=by
 have e:=Int.mul_tdiv_add_tmod a b;have hn:(a.tmod b).natAbs≤a.natAbs:=by rw[Int.natAbs_tmod];exact Nat.mod_le _ _
 have hd:(a.tdiv b).natAbs≤a.natAbs:=by rw[Int.natAbs_tdiv];exact Nat.div_le_self _ _
 have hs:(b * a.tdiv b).natAbs≤a.natAbs:=by
  rw[Int.natAbs_mul,Int.natAbs_tdiv];exact Nat.mul_div_le _ _
 rw[Int.mul_comm (a.tdiv b) b];unfold dA at *;refine⟨⟨by omega,?_⟩,⟨by omega,?_⟩⟩
 ·by_cases hm:a=-9223372036854775808
  ·subst hm
   rcases Nat.lt_or_ge 1 b.natAbs with hb | hb
   ·have:(Int.tdiv (-9223372036854775808) b).natAbs≤4611686018427387904:=by
     rw[Int.natAbs_tdiv];have:(-9223372036854775808:Int).natAbs / b.natAbs≤(-9223372036854775808:Int).natAbs / 2:=Nat.div_le_div_left hb (by decide);exact Nat.le_trans this (by decide)
    omega
   ·have:b=0∨b=1:=by omega
    rcases this with rfl | rfl<;>simp
  ·omega
 ·by_cases hm:a=-9223372036854775808
  ·have hr:a.tmod b≤0:=by
    rw[hm];have:=Int.tmod_nonneg b (show (0:Int)≤9223372036854775808 by decide);have e2:Int.tmod (-9223372036854775808) b=- Int.tmod 9223372036854775808 b:=by rw[← Int.neg_tmod]
    omega
   omega
  ·omega
theorem Wn {a b:Int}(ha:dA a)(h1:b≠-1):wrap64 (a - wrap64 (wrap64 (a.tdiv b) * b))=a.tmod b:=by
 obtain⟨d1,d2⟩:=Wm ha h1;have e:=Int.mul_tdiv_add_tmod a b;rw[IntWalk.wrap64_in _ d1,IntWalk.wrap64_in _ d2,Int.mul_comm (a.tdiv b) b];have hn:(a.tmod b).natAbs≤a.natAbs:=by rw[Int.natAbs_tmod];exact Nat.mod_le _ _
 have e3:a - b * a.tdiv b=a.tmod b:=by omega
 rw[e3];refine IntWalk.wrap64_in _ ?_;unfold dA at *;by_cases hm:a=-9223372036854775808
 ·have hr:a.tmod b≤0:=by
   rw[hm];have:=Int.tmod_nonneg b (show (0:Int)≤9223372036854775808 by decide);have e2:Int.tmod (-9223372036854775808) b=- Int.tmod 9223372036854775808 b:=by rw[← Int.neg_tmod]
   omega
  omega
 ·omega
theorem mod_one (a:Int):wrap64 (a - wrap64 (wrap64 (-a) * -1))=a.tmod (-1):=by
 have:a.tmod (-1)=0:=by rw[Int.tmod_neg,Int.tmod_one]
 rw[this];unfold wrap64;omega
theorem Wo (op a b:Int)(w:World)(ha:dA a)(h2:op=19∨op=20→(a=0∨a=1)∧(b=0∨b=1)) :
  Calls Tryz.prog 52 #[.int .i64 op,.int .i64 a,.int .i64 b] w fun e w'=>Lt op a b w e w':=by
 by_cases h8:op=8
 ·skip
  have e0:op=8:=h8;subst e0;clear h2;go_enter Tryz.func52,Tryz.ntmps52
  go_wp2_with fail
  refine (DX _ _).mono ?_;rintro e w' ⟨rfl,rfl⟩;go_wp2
  exact bodyPost_ret (v:=.tuple #[.slice (some ⟨w.heap.size,0,none⟩) 1 1,.bool true]) (by simp[results,Tryz.results52,go_sem]) rfl (xO (vg (by decide) (.inr (by decide))) (by unfold tells;rw[vg (by decide) (.inr (by decide))];rfl))
 by_cases h9:op=9
 ·skip
  have e0:op=9:=h9;subst e0;clear h2;go_enter Tryz.func52,Tryz.ntmps52
  go_wp2_with fail
  refine (DX _ _).mono ?_;rintro e w' ⟨rfl,rfl⟩;go_wp2
  exact bodyPost_ret (v:=.tuple #[.slice (some ⟨w.heap.size,0,none⟩) 1 1,.bool true]) (by simp[results,Tryz.results52,go_sem]) rfl (xO (vg (by decide) (.inr (by decide))) (by unfold tells;rw[vg (by decide) (.inr (by decide))];rfl))
 by_cases h10:op=10
 ·skip
  have e0:op=10:=h10;subst e0;clear h2;go_enter Tryz.func52,Tryz.ntmps52
  go_wp2_with fail
  refine (DX _ _).mono ?_;rintro e w' ⟨rfl,rfl⟩;go_wp2
  exact bodyPost_ret (v:=.tuple #[.slice (some ⟨w.heap.size,0,none⟩) 1 1,.bool true]) (by simp[results,Tryz.results52,go_sem]) rfl (xO (vg (by decide) (.inr (by decide))) (by unfold tells;rw[vg (by decide) (.inr (by decide))];rfl))
 by_cases h11:op=11
 ·skip
  have e0:op=11:=h11;subst e0;clear h2;by_cases hb0:b=0
  ·have fb:(b==0)=true:=by simp[hb0]
   have HC:Hid (can 11 b=false):=by simp[Hid,can,hb0]
   clear hb0;go_enter Tryz.func52,Tryz.ntmps52
   go_wp2
   exact bodyPost_ret (v:=.tuple #[.slice none 0 0,.bool false]) (by simp[results,Tryz.results52,go_sem]) rfl ⟨_,_,_,by rw[HC.out],by unfold tells;rw[HC.out];exact .none _ _,Below.refl _ _⟩
  ·have fb:(b==0)=false:=by simpa using hb0
   have HC:Hid (can 11 b=true):=vg (by decide) (.inl hb0);have HB0:=hide hb0;by_cases hb1:b=-1
   ·have HT:Hid (tells 11 a b=[⟨1,0,wrap64 (-a)⟩]):=by
     unfold Hid tells;rw[HC.out,hb1];(show [(⟨1,0,wrap64 (a.tdiv (-1))⟩:Ins)]=_;rw[Int.tdiv_neg,Int.tdiv_one])
    have fc:(b != -1)=false:=by simp[hb1]
    clear hb0 hb1;go_enter Tryz.func52,Tryz.ntmps52
    go_wp2_with fail
    refine (DX _ _).mono ?_;rintro e w' ⟨rfl,rfl⟩;go_wp2
    exact bodyPost_ret (v:=.tuple #[.slice (some ⟨w.heap.size,0,none⟩) 1 1,.bool true]) (by simp[results,Tryz.results52,go_sem]) rfl (xO HC.out HT.out)
   ·have HT:Hid (tells 11 a b=[⟨1,0,wrap64 (a.tdiv b)⟩]):=by
     unfold Hid tells;rw[HC.out];rfl
    have fc:(b != -1)=true:=by simpa using hb1
    clear hb0 hb1;go_enter Tryz.func52,Tryz.ntmps52
    go_wp2_with fail
    refine (DX _ _).mono ?_;rintro e w' ⟨rfl,rfl⟩;go_wp2
    exact bodyPost_ret (v:=.tuple #[.slice (some ⟨w.heap.size,0,none⟩) 1 1,.bool true]) (by simp[results,Tryz.results52,go_sem]) rfl (xO HC.out HT.out)
 by_cases h12:op=12
 ·skip
  have e0:op=12:=h12;subst e0;clear h2;by_cases hb0:b=0
  ·have fb:(b==0)=true:=by simp[hb0]
   have HC:Hid (can 12 b=false):=by simp[Hid,can,hb0]
   clear hb0;go_enter Tryz.func52,Tryz.ntmps52
   go_wp2
   exact bodyPost_ret (v:=.tuple #[.slice none 0 0,.bool false]) (by simp[results,Tryz.results52,go_sem]) rfl ⟨_,_,_,by rw[HC.out],by unfold tells;rw[HC.out];exact .none _ _,Below.refl _ _⟩
  ·have fb:(b==0)=false:=by simpa using hb0
   have HC:Hid (can 12 b=true):=vg (by decide) (.inl hb0);have HB0:=hide hb0;by_cases hb1:b=-1
   ·have HT:Hid (tells 12 a b=[⟨1,0,wrap64 (a - wrap64 (wrap64 (-a) * b))⟩]):=by
     unfold Hid tells;rw[HC.out,hb1];(rw[mod_one];rfl)
    have fc:(b != -1)=false:=by simp[hb1]
    clear hb0 hb1;go_enter Tryz.func52,Tryz.ntmps52
    go_wp2_with fail
    refine (DX _ _).mono ?_;rintro e w' ⟨rfl,rfl⟩;go_wp2
    exact bodyPost_ret (v:=.tuple #[.slice (some ⟨w.heap.size,0,none⟩) 1 1,.bool true]) (by simp[results,Tryz.results52,go_sem]) rfl (xO HC.out HT.out)
   ·have HT:Hid (tells 12 a b=[⟨1,0,wrap64 (a - wrap64 (wrap64 (a.tdiv b) * b))⟩]):=by
     unfold Hid tells;rw[HC.out];(rw[Wn ha hb1];rfl)
    have fc:(b != -1)=true:=by simpa using hb1
    clear hb0 hb1;go_enter Tryz.func52,Tryz.ntmps52
    go_wp2_with fail
    refine (DX _ _).mono ?_;rintro e w' ⟨rfl,rfl⟩;go_wp2
    exact bodyPost_ret (v:=.tuple #[.slice (some ⟨w.heap.size,0,none⟩) 1 1,.bool true]) (by simp[results,Tryz.results52,go_sem]) rfl (xO HC.out HT.out)
 by_cases vX:op=13
 ·skip
  have e0:op=13:=vX;subst e0;clear h2;go_enter Tryz.func52,Tryz.ntmps52
  go_wp2_with fail
  refine (BM _ _).mono ?_;rintro e w' ⟨rfl,rfl⟩;go_wp2
  exact bodyPost_ret (v:=.tuple #[.slice (some ⟨w.heap.size,0,none⟩) 1 1,.bool true]) (by simp[results,Tryz.results52,go_sem]) rfl (xO (vg (by decide) (.inr (by decide))) (by unfold tells;rw[vg (by decide) (.inr (by decide))];rfl))
 by_cases wL:op=14
 ·skip
  have e0:op=14:=wL;subst e0;clear h2;go_enter Tryz.func52,Tryz.ntmps52
  go_wp2_with fail
  refine (BM _ _).mono ?_;rintro e w' ⟨rfl,rfl⟩;go_wp2
  exact bodyPost_ret (v:=.tuple #[.slice (some ⟨w.heap.size,0,none⟩) 1 1,.bool true]) (by simp[results,Tryz.results52,go_sem]) rfl (xO (vg (by decide) (.inr (by decide))) (by unfold tells;rw[vg (by decide) (.inr (by decide))];rfl))
 by_cases BK:op=15
 ·skip
  have e0:op=15:=BK;subst e0;clear h2;go_enter Tryz.func52,Tryz.ntmps52
  go_wp2_with fail
  refine (BM _ _).mono ?_;rintro e w' ⟨rfl,rfl⟩;go_wp2
  exact bodyPost_ret (v:=.tuple #[.slice (some ⟨w.heap.size,0,none⟩) 1 1,.bool true]) (by simp[results,Tryz.results52,go_sem]) rfl (xO (vg (by decide) (.inr (by decide))) (by unfold tells;rw[vg (by decide) (.inr (by decide))];rfl))
 by_cases h16:op=16
 ·skip
  have e0:op=16:=h16;subst e0;clear h2;go_enter Tryz.func52,Tryz.ntmps52
  go_wp2_with fail
  refine (BM _ _).mono ?_;rintro e w' ⟨rfl,rfl⟩;go_wp2
  exact bodyPost_ret (v:=.tuple #[.slice (some ⟨w.heap.size,0,none⟩) 1 1,.bool true]) (by simp[results,Tryz.results52,go_sem]) rfl (xO (vg (by decide) (.inr (by decide))) (by unfold tells;rw[vg (by decide) (.inr (by decide))];rfl))
 by_cases BL:op=17
 ·skip
  have e0:op=17:=BL;subst e0;clear h2;go_enter Tryz.func52,Tryz.ntmps52
  go_wp2_with fail
  refine (BM _ _).mono ?_;rintro e w' ⟨rfl,rfl⟩;go_wp2
  exact bodyPost_ret (v:=.tuple #[.slice (some ⟨w.heap.size,0,none⟩) 1 1,.bool true]) (by simp[results,Tryz.results52,go_sem]) rfl (xO (vg (by decide) (.inr (by decide))) (by unfold tells;rw[vg (by decide) (.inr (by decide))];rfl))
 by_cases h18:op=18
 ·skip
  have e0:op=18:=h18;subst e0;clear h2;go_enter Tryz.func52,Tryz.ntmps52
  go_wp2_with fail
  refine (BM _ _).mono ?_;rintro e w' ⟨rfl,rfl⟩;go_wp2
  exact bodyPost_ret (v:=.tuple #[.slice (some ⟨w.heap.size,0,none⟩) 1 1,.bool true]) (by simp[results,Tryz.results52,go_sem]) rfl (xO (vg (by decide) (.inr (by decide))) (by unfold tells;rw[vg (by decide) (.inr (by decide))];rfl))
 by_cases h19:op=19
 ·skip
  have e0:op=19:=h19;subst e0;have hab:=h2 (.inl rfl);clear h2;have HC:Hid (can 19 b=true):=vg (by decide) (.inr (by decide));rcases hab with⟨rfl | rfl,rfl | rfl⟩;all_goals (
   go_enter Tryz.func52,Tryz.ntmps52
   go_wp2_with fail
   refine (BM _ _).mono ?_;rintro e w' ⟨rfl,rfl⟩;go_wp2
   exact bodyPost_ret (v:=.tuple #[.slice (some ⟨w.heap.size,0,none⟩) 1 1,.bool true]) (by simp[results,Tryz.results52,go_sem]) rfl (xO HC.out (by unfold tells;rw[HC.out];rfl)))
 by_cases h20:op=20
 ·skip
  have e0:op=20:=h20;subst e0;have hab:=h2 (.inr rfl);clear h2;have HC:Hid (can 20 b=true):=vg (by decide) (.inr (by decide));rcases hab with⟨rfl | rfl,rfl | rfl⟩;all_goals (
   go_enter Tryz.func52,Tryz.ntmps52
   go_wp2_with fail
   refine (BM _ _).mono ?_;rintro e w' ⟨rfl,rfl⟩;go_wp2
   exact bodyPost_ret (v:=.tuple #[.slice (some ⟨w.heap.size,0,none⟩) 1 1,.bool true]) (by simp[results,Tryz.results52,go_sem]) rfl (xO HC.out (by unfold tells;rw[HC.out];rfl)))
 have HC:Hid (can op b=false):=by
  unfold Hid can;by_cases h1:8≤op
  ·have h3:¬ op≤20:=by omega
   simp[h3]
  ·simp[h1]
 have e8:(op==8)=false:=by simpa using h8
 have e9:(op==9)=false:=by simpa using h9
 have e10:(op==10)=false:=by simpa using h10
 have e11:(op==11)=false:=by simpa using h11
 have e12:(op==12)=false:=by simpa using h12
 have e13:(op==13)=false:=by simpa using vX
 have e14:(op==14)=false:=by simpa using wL
 have e15:(op==15)=false:=by simpa using BK
 have e16:(op==16)=false:=by simpa using h16
 have e17:(op==17)=false:=by simpa using BL
 have e18:(op==18)=false:=by simpa using h18
 have e19:(op==19)=false:=by simpa using h19
 have e20:(op==20)=false:=by simpa using h20
 clear h8 h9 h10 h11 h12 vX wL BK h16 BL h18 h19 h20 h2;go_enter Tryz.func52,Tryz.ntmps52
 go_wp2
 exact bodyPost_ret (v:=.tuple #[.slice none 0 0,.bool false]) (by simp[results,Tryz.results52,go_sem]) rfl ⟨_,_,_,by rw[HC.out],by unfold tells;rw[HC.out];exact .none _ _,Below.refl _ _⟩
end Go.Proofs.YtbdpdjcdhclbfaaGreat.Ow
/-
 DERIVED: THE SHELF's CONTRACTS AT THIS DUMP,IN PLAIN WORDS (tools/lay-plain.mjs out of 'TryzShelf.lean',which tools/lay-shelf.mjs wrote): THE SAME DECLARATIONS UNDER THE SAME NAMES: 'import','namespace','open','def','theorem' AND NOTHING ELSE: no command of the shelf's: FOR A HAND-IN. Each laying: the table of numbers ('.._ren') and one theorem,a field a fact of the dump's own or the kernel's comparison;each contract: ONE APPLICATION.
-/
namespace Go.Proofs
open Go.Shelf
def Tryz.Wp:Go.Shelf.Ren:=⟨fun | 107=>94 | 108=>104 | n=>n,fun | 28=>37 | 3=>3 | 4=>4 | 0=>0 | n=>n,fun | n=>n⟩
theorem Tryz.Wq:Go.Proofs.Lays.n107 Tryz.prog Tryz.Wp:={
 mixed:=by kernel_rfl
 f107:=Tryz.func94.trans (congrArg some (by kernel_rfl))
 f108:=Tryz.func104.trans (congrArg some (by kernel_rfl))
 t0:=Tryz.underlying0
 a0:=Tryz.isAgg0
 z0:=Tryz.sizeOf0
 v0:=Tryz.zeroValue0
 t3:=Tryz.underlying3
 a3:=Tryz.isAgg3
 z3:=Tryz.sizeOf3
 v3:=Tryz.zeroValue3
 t4:=Tryz.underlying4
 a4:=Tryz.isAgg4
 z4:=Tryz.sizeOf4
 v4:=Tryz.zeroValue4
 t28:=Tryz.underlying37
 a28:=Tryz.isAgg37
 z28:=Tryz.sizeOf37
 v28:=Tryz.zeroValue37 }
open Go.Lib in
theorem Tryz.slices_Contains_int (b off n c:Nat)(zs:List Int)(x:Int)(w:World)(hz:n≤zs.length)(hbig:n≤9223372036854775807)(hc:∀ j,j<zs.length→w.cell? ⟨b,off+j,none⟩=some (.int .i64 (zs.getD j 0))) :
  Calls Tryz.prog 94 #[.slice (some ⟨b,off,none⟩) n c,.int .i64 x] w fun e w'=>e=.returned (.bool ((zs.take n).contains x))∧w'=w:=Any.slices_Contains_int Tryz.Wq b off n c zs x w hz hbig hc
end Go.Proofs
