/- The walks of truthWord,holds,Reckon. -/
import Derived.Test.YtbdpdjcdhclbfaaGreatM4
import Derived.Test.YtbdpdjcdhclbfaaGreatM1
set_option maxHeartbeats 1000000
namespace Go.Proofs.YtbdpdjcdhclbfaaGreat.Vw
open Go.RowKit Vf Vm
theorem PN (b:Bool)(w:World) :
  Calls Tryz.prog 102 #[.bool b] w fun e w'=>e=.returned (.int .i64 (yes b))∧w'=w:=by
 cases b
 ·go_enter Tryz.func102,Tryz.ntmps102
  go_wp2
  go_ret
  exact⟨rfl,rfl⟩
 ·go_enter Tryz.func102,Tryz.ntmps102
  go_wp2
  go_ret
  exact⟨rfl,rfl⟩
theorem PO (op a b:Int)(w:World)(r:Bool)(hr:Hid (r=holds op a b)) :
  Calls Tryz.prog 103 #[.int .i64 op,.int .i64 a,.int .i64 b] w fun e w'=>e=.returned (.bool r)∧w'=w:=by
 rw[hr.out];clear hr;by_cases vX:op=13
 ·skip
  have e0:op=13:=vX;subst e0;go_enter Tryz.func103,Tryz.ntmps103
  go_wp2
  go_ret
  exact⟨rfl,rfl⟩
 by_cases wL:op=14
 ·skip
  have e0:op=14:=wL;subst e0;go_enter Tryz.func103,Tryz.ntmps103
  go_wp2
  go_ret
  exact⟨rfl,rfl⟩
 by_cases BK:op=15
 ·skip
  have e0:op=15:=BK;subst e0;go_enter Tryz.func103,Tryz.ntmps103
  go_wp2
  go_ret
  exact⟨rfl,rfl⟩
 by_cases h16:op=16
 ·skip
  have e0:op=16:=h16;subst e0;go_enter Tryz.func103,Tryz.ntmps103
  go_wp2
  go_ret
  exact⟨rfl,rfl⟩
 by_cases BL:op=17
 ·skip
  have e0:op=17:=BL;subst e0;go_enter Tryz.func103,Tryz.ntmps103
  go_wp2
  go_ret
  exact⟨rfl,rfl⟩
 by_cases h18:op=18
 ·skip
  have e0:op=18:=h18;subst e0;go_enter Tryz.func103,Tryz.ntmps103
  go_wp2
  go_ret
  exact⟨rfl,rfl⟩
 by_cases h19:op=19
 ·have e0:op=19:=h19
  subst e0;clear vX wL BK h16 BL h18 h19;by_cases ha:a=0
  ·have e1:(a != 0)=false:=by simpa using ha
   clear ha;go_enter Tryz.func103,Tryz.ntmps103
   go_wp2
   go_ret
   exact⟨by simp[holds,e1],rfl⟩
  ·have e1:(a != 0)=true:=by simpa using ha
   clear ha;go_enter Tryz.func103,Tryz.ntmps103
   go_wp2
   go_ret
   exact⟨by simp[holds,e1],rfl⟩
 ·have e13:(op==13)=false:=by simpa using vX
  have e14:(op==14)=false:=by simpa using wL
  have e15:(op==15)=false:=by simpa using BK
  have e16:(op==16)=false:=by simpa using h16
  have e17:(op==17)=false:=by simpa using BL
  have e18:(op==18)=false:=by simpa using h18
  have e19:(op==19)=false:=by simpa using h19
  have HE:Hid (holds op a b=(a != 0 || b != 0)):=by unfold Hid holds;rw[if_neg vX,if_neg wL,if_neg BK,if_neg h16,if_neg BL,if_neg h18,if_neg h19]
  clear vX wL BK h16 BL h18 h19;by_cases ha:a=0
  ·have e1:(a != 0)=false:=by simpa using ha
   clear ha;go_enter Tryz.func103,Tryz.ntmps103
   go_wp2
   go_ret
   exact⟨by rw[HE.out,e1];rfl,rfl⟩
  ·have e1:(a != 0)=true:=by simpa using ha
   clear ha;go_enter Tryz.func103,Tryz.ntmps103
   go_wp2
   go_ret
   exact⟨by rw[HE.out,e1];rfl,rfl⟩
theorem VX (op a b:Int)(w:World)(hz:¬ (b=0∧(op=11∨op=12)))(r:Int)(hr:Hid (r=two op a b)) :
  Calls Tryz.prog 91 #[.int .i64 op,.int .i64 a,.int .i64 b] w fun e w'=>e=.returned (.tuple #[.int .i64 r,.int .i64 0])∧w'=w:=by
 rw[hr.out];clear hr;by_cases h8:op=8
 ·skip
  have e0:op=8:=h8;subst e0;clear hz;by_cases hb:b=0
  ·have fb:(b==0)=true:=by simpa using hb
   clear hb;go_enter Tryz.func91,Tryz.ntmps91
   go_wp2
   exact bodyPost_ret (v:=.tuple #[_,_]) (by simp[results,Tryz.results91,go_sem]<;>first | exact⟨rfl,rfl⟩ | rfl) rfl ⟨rfl,rfl⟩
  ·have fb:(b==0)=false:=by simpa using hb
   clear hb;go_enter Tryz.func91,Tryz.ntmps91
   go_wp2
   exact bodyPost_ret (v:=.tuple #[_,_]) (by simp[results,Tryz.results91,go_sem]<;>first | exact⟨rfl,rfl⟩ | rfl) rfl ⟨rfl,rfl⟩
 by_cases h9:op=9
 ·skip
  have e0:op=9:=h9;subst e0;clear hz;by_cases hb:b=0
  ·have fb:(b==0)=true:=by simpa using hb
   clear hb;go_enter Tryz.func91,Tryz.ntmps91
   go_wp2
   exact bodyPost_ret (v:=.tuple #[_,_]) (by simp[results,Tryz.results91,go_sem]<;>first | exact⟨rfl,rfl⟩ | rfl) rfl ⟨rfl,rfl⟩
  ·have fb:(b==0)=false:=by simpa using hb
   clear hb;go_enter Tryz.func91,Tryz.ntmps91
   go_wp2
   exact bodyPost_ret (v:=.tuple #[_,_]) (by simp[results,Tryz.results91,go_sem]<;>first | exact⟨rfl,rfl⟩ | rfl) rfl ⟨rfl,rfl⟩
 by_cases h10:op=10
 ·skip
  have e0:op=10:=h10;subst e0;clear hz;by_cases hb:b=0
  ·have fb:(b==0)=true:=by simpa using hb
   clear hb;go_enter Tryz.func91,Tryz.ntmps91
   go_wp2
   exact bodyPost_ret (v:=.tuple #[_,_]) (by simp[results,Tryz.results91,go_sem]<;>first | exact⟨rfl,rfl⟩ | rfl) rfl ⟨rfl,rfl⟩
  ·have fb:(b==0)=false:=by simpa using hb
   clear hb;go_enter Tryz.func91,Tryz.ntmps91
   go_wp2
   exact bodyPost_ret (v:=.tuple #[_,_]) (by simp[results,Tryz.results91,go_sem]<;>first | exact⟨rfl,rfl⟩ | rfl) rfl ⟨rfl,rfl⟩
 by_cases h11:op=11
 ·skip
  have hb:b≠0:=fun e=>hz ⟨e,.inl h11⟩;have e0:op=11:=h11;subst e0;have fb:(b==0)=false:=by simpa using hb
  clear hz;go_enter Tryz.func91,Tryz.ntmps91
  go_wp2
  exact bodyPost_ret (v:=.tuple #[_,_]) (by simp[results,Tryz.results91,go_sem]<;>first | exact⟨rfl,rfl⟩ | rfl) rfl ⟨rfl,rfl⟩
 by_cases h12:op=12
 ·skip
  have hb:b≠0:=fun e=>hz ⟨e,.inr h12⟩;have e0:op=12:=h12;subst e0;have fb:(b==0)=false:=by simpa using hb
  clear hz;go_enter Tryz.func91,Tryz.ntmps91
  go_wp2
  exact bodyPost_ret (v:=.tuple #[_,_]) (by simp[results,Tryz.results91,go_sem]<;>first | exact⟨rfl,rfl⟩ | rfl) rfl ⟨rfl,rfl⟩
 have e8:(op==8)=false:=by simpa using h8
 have e9:(op==9)=false:=by simpa using h9
 have e10:(op==10)=false:=by simpa using h10
 have e11:(op==11)=false:=by simpa using h11
 have e12:(op==12)=false:=by simpa using h12
 have HE:Hid (two op a b=yes (holds op a b)):=by unfold Hid two;rw[if_neg h8,if_neg h9,if_neg h10,if_neg h11,if_neg h12]
 clear h8 h9 h10 h11 h12 hz;by_cases hb:b=0
 ·have fb:(b==0)=true:=by simpa using hb
  clear hb;go_enter Tryz.func91,Tryz.ntmps91
  go_wp2_with fail
  refine (PO op a b _ _ (hide rfl)).mono ?_;rintro e w' ⟨rfl,rfl⟩;go_wp2_with fail
  refine (PN (holds op a b) _).mono ?_;rintro e w' ⟨rfl,rfl⟩;go_wp2
  exact bodyPost_ret (v:=.tuple #[_,_]) (by simp[results,Tryz.results91,go_sem]<;>first | exact⟨rfl,rfl⟩ | rfl) rfl ⟨by rw[HE.out],rfl⟩
 ·have fb:(b==0)=false:=by simpa using hb
  clear hb;go_enter Tryz.func91,Tryz.ntmps91
  go_wp2_with fail
  refine (PO op a b _ _ (hide rfl)).mono ?_;rintro e w' ⟨rfl,rfl⟩;go_wp2_with fail
  refine (PN (holds op a b) _).mono ?_;rintro e w' ⟨rfl,rfl⟩;go_wp2
  exact bodyPost_ret (v:=.tuple #[_,_]) (by simp[results,Tryz.results91,go_sem]<;>first | exact⟨rfl,rfl⟩ | rfl) rfl ⟨by rw[HE.out],rfl⟩
theorem VY (op a b:Int)(w:World)(hz:b=0∧(op=11∨op=12)) :
  Calls Tryz.prog 91 #[.int .i64 op,.int .i64 a,.int .i64 b] w fun e w'=>e=.returned (.tuple #[.int .i64 0,.int .i64 1])∧w'=w:=by
 obtain⟨rfl,hz⟩:=hz;rcases hz with rfl | rfl
 ·skip
  go_enter Tryz.func91,Tryz.ntmps91
  go_wp2
  exact bodyPost_ret (v:=.tuple #[_,_]) (by simp[results,Tryz.results91,go_sem]<;>first | exact⟨rfl,rfl⟩ | rfl) rfl ⟨rfl,rfl⟩
 ·skip
  go_enter Tryz.func91,Tryz.ntmps91
  go_wp2
  exact bodyPost_ret (v:=.tuple #[_,_]) (by simp[results,Tryz.results91,go_sem]<;>first | exact⟨rfl,rfl⟩ | rfl) rfl ⟨rfl,rfl⟩
end Go.Proofs.YtbdpdjcdhclbfaaGreat.Vw
namespace Go.Proofs.YtbdpdjcdhclbfaaGreat.Ow
open Go.RowKit Vf Vm Ot
abbrev GV (c:Ins):Value:=.agg #[.int .i64 c.op,.int .i64 c.a,.int .i64 c.n]
abbrev fF (c:Ins):Obj:=.cells #[.int .i64 c.op,.int .i64 c.a,.int .i64 c.n] 47 (0,0)
def uI (w0 w:World)(v:Value)(l:List Ins):Prop:=(l=[]∧v=.slice none 0 0)∨∃ c q,l=[c]∧v=.slice (some ⟨q,0,none⟩) 1 1∧w0.heap.size≤q∧w.heap[q]?=some (fF c)
theorem fG (w:World)(o:Obj):Below w.heap.size w (w.alloc o):=(Below.refl _ _).alloc (Nat.le_refl _) _
theorem vY (w:World)(o p:Obj):Below w.heap.size w ((w.alloc o).alloc p):=(fG w o).alloc (by simp) _
theorem EM (w:World)(o p q:Obj):Below w.heap.size w (((w.alloc o).alloc p).alloc q):=(vY w o p).alloc (by simp;omega) _
theorem VZ (w:World)(o p:Obj):((w.alloc o).alloc p).heap.size=w.heap.size+1+1:=by simp
theorem uU (w:World)(o p q:Obj):(((w.alloc o).alloc p).alloc q).heap[w.heap.size+1+1]?=some q:=by
 rw[← VZ w o p];exact heap_alloc_new _ _
theorem uI.none (w0 w:World):uI w0 w (.slice none 0 0) []:=.inl ⟨rfl,rfl⟩
theorem uI.one {w0 w:World}{c:Ins}{q:Nat}(hq:w0.heap.size≤q)(h:w.heap[q]?=some (fF c)):uI w0 w (.slice (some ⟨q,0,.none⟩) 1 1) [c]:=.inr ⟨c,q,rfl,rfl,hq,h⟩
theorem uI.keep {w0 w1 w w':World}{v:Value}{l:List Ins}(h:uI w1 w v l)(hs:w0.heap.size≤w1.heap.size)(hb:Below w.heap.size w w'):uI w0 w' v l:=by
 rcases h with h | ⟨c,q,h1,h2,h3,h4⟩
 ·exact .inl h
 ·exact .inr ⟨c,q,h1,h2,Nat.le_trans hs h3,(hb.block q (lt_of_block h4)).trans h4⟩
theorem az {w w1 w2:World}(h:Below w.heap.size w w1)(h2:Below w1.heap.size w1 w2):Below w.heap.size w w2:=h.trans (h2.mono h.size)
theorem PQ (n:Int)(w:World) :
  Calls Tryz.prog 70 #[.int .i64 n] w fun e w'=>e=.returned (.slice (some ⟨w.heap.size,0,none⟩) 1 1)∧w'=w.alloc (fF ⟨1,0,n⟩):=by
 go_enter Tryz.func70,Tryz.ntmps70
 go_wp2
 go_ret
 exact⟨rfl,rfl⟩
theorem PR (n:Int)(w:World) :
  Calls Tryz.prog 72 #[.int .i64 n] w fun e w'=>e=.returned (.slice (some ⟨w.heap.size,0,none⟩) 1 1)∧w'=w.alloc (fF ⟨2,n,0⟩):=by
 go_enter Tryz.func72,Tryz.ntmps72
 go_wp2
 go_ret
 exact⟨rfl,rfl⟩
structure FV (N:Nat) (put:Ins→Ins→List Ins):Prop where
 enter:∀ (args:Array Value) (w:World),Sem.run Tryz.prog (callFunc N args) w=.ok (.enter N args) w
 call:∀ (a b:Ins) (w:World),Calls Tryz.prog N #[GV a,GV b] w fun e w'=>∃ v n c,e=.returned (.slice v n c)∧uI w w' (.slice v n c) (put a b)∧Below w.heap.size w w'
theorem V6:FV 68 Li:=by
 refine⟨fun args w=>by kernel_rfl,fun a b w=>?_⟩;go_enter Tryz.func68,Tryz.ntmps68
 go_wp2
 go_ret
 exact⟨_,_,_,rfl,.none _ _,vY _ _ _⟩
theorem V7:FV 69 yH:=by
 refine⟨fun args w=>by kernel_rfl,fun a b w=>?_⟩;go_enter Tryz.func69,Tryz.ntmps69
 go_wp2_with fail
 refine (PQ _ _).mono ?_;rintro e w1 ⟨rfl,rfl⟩;have HB:Hid (Below w.heap.size w (((w.alloc (fF a)).alloc (fF b)).alloc (fF ⟨1,0,wrap (-a.n)⟩))):=EM _ _ _ _;have HP:Hid (uI w (((w.alloc (fF a)).alloc (fF b)).alloc (fF ⟨1,0,wrap (-a.n)⟩)) (.slice (some ⟨w.heap.size+1+1,0,none⟩) 1 1) (yH a b)):=.one (by omega) (uU _ _ _ _);go_wp2
 go_ret
 exact⟨_,_,_,rfl,HP.out,HB.out⟩
theorem V8:FV 71 ym:=by
 refine⟨fun args w=>by kernel_rfl,fun a b w=>?_⟩;go_enter Tryz.func71,Tryz.ntmps71
 go_wp2_with fail
 refine (PR _ _).mono ?_;rintro e w1 ⟨rfl,rfl⟩;have HB:Hid (Below w.heap.size w (((w.alloc (fF a)).alloc (fF b)).alloc (fF ⟨2,wrap (1 - a.a),0⟩))):=EM _ _ _ _;have HP:Hid (uI w (((w.alloc (fF a)).alloc (fF b)).alloc (fF ⟨2,wrap (1 - a.a),0⟩)) (.slice (some ⟨w.heap.size+1+1,0,none⟩) 1 1) (ym a b)):=.one (by omega) (uU _ _ _ _);go_wp2
 go_ret
 exact⟨_,_,_,rfl,HP.out,HB.out⟩
theorem V9:FV 73 vF:=by
 refine⟨fun args w=>by kernel_rfl,fun a b w=>?_⟩;by_cases h:a.a=0
 ·have e1:(a.a==0)=true:=by simpa using h
  have HB:Hid (Below w.heap.size w (((w.alloc (fF a)).alloc (fF b)).alloc (fF ⟨21,b.a,0⟩))):=EM _ _ _ _;have HP:Hid (uI w (((w.alloc (fF a)).alloc (fF b)).alloc (fF ⟨21,b.a,0⟩)) (.slice (some ⟨w.heap.size+1+1,0,none⟩) 1 1) (vF a b)):=by
   unfold vF;rw[if_pos h];exact .one (by omega) (uU _ _ _ _)
  clear h;go_enter Tryz.func73,Tryz.ntmps73
  go_wp2
  go_ret
  exact⟨_,_,_,rfl,HP.out,HB.out⟩
 ·have e1:(a.a==0)=false:=by simpa using h
  have HP:Hid (vF a b=[]):=by unfold vF Hid;rw[if_neg h]
  clear h;go_enter Tryz.func73,Tryz.ntmps73
  go_wp2
  go_ret
  exact⟨_,_,_,rfl,by rw[HP.out];exact .none _ _,vY _ _ _⟩
theorem Wd (c:Ins)(w:World) :
  Calls Tryz.prog 92 #[GV c] w fun e w'=>e=.returned (.int .i64 (word c))∧w'=w.alloc (fF c):=by
 by_cases h:c.op=1
 ·have e1:(c.op==1)=true:=by simpa using h
  have HW:Hid (word c=c.n):=by unfold word Hid;rw[if_pos h]
  clear h;go_enter Tryz.func92,Tryz.ntmps92
  go_wp2
  go_ret
  exact⟨by rw[HW.out];rfl,rfl⟩
 ·have e1:(c.op==1)=false:=by simpa using h
  have HW:Hid (word c=c.a):=by unfold word Hid;rw[if_neg h]
  clear h;go_enter Tryz.func92,Tryz.ntmps92
  go_wp2
  go_ret
  exact⟨by rw[HW.out];rfl,rfl⟩
theorem PS (c:Ins)(w:World) :
  Calls Tryz.prog 75 #[GV c] w fun e w'=>e=.returned (.bool (jmp c))∧w'=w.alloc (fF c):=by
 by_cases h:c.op=21
 ·have e1:(c.op==21)=true:=by simpa using h
  have HW:Hid (jmp c=true):=by unfold jmp Hid;rw[e1];rfl
  clear h;go_enter Tryz.func75,Tryz.ntmps75
  go_wp2
  go_ret
  exact⟨by rw[HW.out];rfl,rfl⟩
 ·have e1:(c.op==21)=false:=by simpa using h
  have HW:Hid (jmp c=(c.op==22)):=by unfold jmp Hid;rw[e1];rfl
  clear h;go_enter Tryz.func75,Tryz.ntmps75
  go_wp2
  go_ret
  exact⟨by rw[HW.out];rfl,rfl⟩
theorem We (k op:Int)(w:World)(r:Bool)(hr:Hid (r=reckons k op)) :
  Calls Tryz.prog 90 #[.int .i64 k,.int .i64 op] w fun e w'=>e=.returned (.bool r)∧w'=w:=by
 by_cases h1:k=1
 ·have e1:(k==1)=true:=by simpa using h1
  by_cases h8:8≤op
  ·have HR:Hid (r=decide (op≤18)):=by unfold Hid;rw[hr.out];unfold reckons;rw[if_pos h1];simp[h8]
   clear h1 hr;go_enter Tryz.func90,Tryz.ntmps90
   go_wp2
   go_ret
   exact⟨by rw[HR.out];rfl,rfl⟩
  ·have HR:Hid (r=false):=by unfold Hid;rw[hr.out];unfold reckons;rw[if_pos h1];simp[h8]
   clear h1 hr;go_enter Tryz.func90,Tryz.ntmps90
   go_wp2
   go_ret
   exact⟨by rw[HR.out];rfl,rfl⟩
 ·have e1:(k==1)=false:=by simpa using h1
  by_cases h2:k=2
  ·have e2:(k==2)=true:=by simpa using h2
   have e0:r=(op==13 || op==14 || op==19 || op==20):=by rw[hr.out];unfold reckons;rw[if_neg h1,if_pos h2]
   clear h1 h2 hr;by_cases a1:op=13
   ·have f1:(op==13)=true:=by simpa using a1
    have HR:Hid (r=true):=by unfold Hid;rw[e0,f1];rfl
    clear a1 e0;go_enter Tryz.func90,Tryz.ntmps90
    go_wp2
    go_ret
    exact⟨by rw[HR.out];rfl,rfl⟩
   ·have f1:(op==13)=false:=by simpa using a1
    by_cases a2:op=14
    ·have f2:(op==14)=true:=by simpa using a2
     have HR:Hid (r=true):=by unfold Hid;rw[e0,f1,f2];rfl
     clear a1 a2 e0;go_enter Tryz.func90,Tryz.ntmps90
     go_wp2
     go_ret
     exact⟨by rw[HR.out];rfl,rfl⟩
    ·have f2:(op==14)=false:=by simpa using a2
     by_cases a3:op=19
     ·have f3:(op==19)=true:=by simpa using a3
      have HR:Hid (r=true):=by unfold Hid;rw[e0,f1,f2,f3];rfl
      clear a1 a2 a3 e0;go_enter Tryz.func90,Tryz.ntmps90
      go_wp2
      go_ret
      exact⟨by rw[HR.out];rfl,rfl⟩
     ·have f3:(op==19)=false:=by simpa using a3
      have HR:Hid (r=(op==20)):=by unfold Hid;rw[e0,f1,f2,f3];rfl
      clear a1 a2 a3 e0;go_enter Tryz.func90,Tryz.ntmps90
      go_wp2
      go_ret
      exact⟨by rw[HR.out];rfl,rfl⟩
  ·have e2:(k==2)=false:=by simpa using h2
   have HR:Hid (r=false):=by unfold Hid;rw[hr.out];unfold reckons;rw[if_neg h1,if_neg h2]
   clear h1 h2 hr;go_enter Tryz.func90,Tryz.ntmps90
   go_wp2
   go_ret
   exact⟨by rw[HR.out];rfl,rfl⟩
def Held (lo hi:Nat)(w0 w:World):Prop:=∀ j,lo≤j→j<hi→w.heap[j]?=w0.heap[j]?
structure GX (lo hi:Nat) (w0:World) (N:Nat) (uh:Array Value) (rule:Nat→List Ins→Ch):Prop where
 enter:∀ (args:Array Value) (w:World),Sem.run Tryz.prog (callFunc N args) w=.ok (.enter N args) w
 call:∀ (k:Nat) (l:List Ins) (b off cap B:Nat) (w:World),k≤4000→0<l.length→l.length≤4000→aV B w l (some ⟨b,off,none⟩)→B≤w.heap.size→Held lo hi w0 w →
  Calls Tryz.prog N (#[.int .i64 k,.slice (some ⟨b,off,none⟩) l.length cap]++uh) w fun e w'=>∃ v n c,e=.returned (.agg #[.int .i64 (rule k l).1,.slice v n c])∧uI w w' (.slice v n c) (rule k l).2∧Below w.heap.size w w'
theorem Ar {B:Nat}{w:World}{l:List Ins}{b off i:Nat}{x:Ins}(h:aV B w l (some ⟨b,off,none⟩))(hx:l[i]?=some x):b<B∧w.cell? ⟨b,off+i * 3,none⟩=some (.int .i64 x.op)∧w.cell? ⟨b,off+i * 3+1,none⟩=some (.int .i64 x.a)∧w.cell? ⟨b,off+i * 3+2,none⟩=some (.int .i64 x.n):=by
 obtain⟨_,_,_,b',off',e,h1,h2⟩:=h i x hx;cases e;exact⟨h1,h2⟩
theorem vZ {w:World}{o:Obj}{b f:Nat}{v:Value}(h:w.cell? ⟨b,f,none⟩=some v):(w.alloc o).cell? ⟨b,f,none⟩=some v:=by
 rw[World.cell?_alloc_lt _ _ _ (World.block_lt_of_cell? w _ h)];exact h
theorem Wh (lo hi:Nat)(w0:World):GX lo hi w0 74 #[] next:=by
 refine⟨fun args w=>by kernel_rfl,fun k l b off cap B w hk hl0 hl hC hB _=>?_⟩;cases l with
 | nil=>simp at hl0
 | cons a r =>
  obtain⟨hb,c0,c1,_⟩:=Ar hC (i:=0) (x:=a) rfl;rw[Nat.zero_mul,Nat.add_zero] at c0 c1;have hbw:b<w.heap.size:=by omega
  have hbn:¬ w.heap.size=b:=by omega
  have hk1:(k:Int)≤4000:=by omega
  have HN:=hide (Lp k a r);by_cases h1:a.op=21
  ·have e1:(a.op != 21)=false:=by simpa using h1
   by_cases h2:a.a=(k:Int)+1
   ·have e2:(a.a != (k:Int)+1)=false:=by simpa using h2
    have HR:Hid (next k (a :: r)=(1,[])):=by unfold Hid;rw[HN.out,if_pos ⟨h1,h2⟩]
    clear h1 h2 HN hC hl;go_enter Tryz.func74,Tryz.ntmps74
    go_wp2
    exact bodyPost_ret (v:=.agg #[.int .i64 1,.slice none 0 0]) (by simp[results,Tryz.results74,go_sem]) rfl ⟨_,_,_,by rw[HR.out];rfl,by rw[HR.out];exact .none _ _,fG _ _⟩
   ·have e2:(a.a != (k:Int)+1)=true:=by simpa using h2
    have HR:Hid (next k (a :: r)=(0,[])):=by unfold Hid;rw[HN.out,if_neg (fun h=>h2 h.2)]
    clear h1 h2 HN hC hl;go_enter Tryz.func74,Tryz.ntmps74
    go_wp2
    exact bodyPost_ret (v:=.agg #[.int .i64 0,.slice none 0 0]) (by simp[results,Tryz.results74,go_sem]) rfl ⟨_,_,_,by rw[HR.out];rfl,by rw[HR.out];exact .none _ _,fG _ _⟩
  ·have e1:(a.op != 21)=true:=by simpa using h1
   have HR:Hid (next k (a :: r)=(0,[])):=by unfold Hid;rw[HN.out,if_neg (fun h=>h1 h.1)]
   clear h1 HN hC hl;go_enter Tryz.func74,Tryz.ntmps74
   go_wp2
   exact bodyPost_ret (v:=.agg #[.int .i64 0,.slice none 0 0]) (by simp[results,Tryz.results74,go_sem]) rfl ⟨_,_,_,by rw[HR.out];rfl,by rw[HR.out];exact .none _ _,fG _ _⟩
end Go.Proofs.YtbdpdjcdhclbfaaGreat.Ow
