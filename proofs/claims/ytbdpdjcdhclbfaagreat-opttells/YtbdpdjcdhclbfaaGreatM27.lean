/- The document's answer,chapter 7,walked: Instr. -/
import Derived.Test.YtbdpdjcdhclbfaaGreatM26
set_option maxRecDepth 100000
set_option maxHeartbeats 1000000
namespace Go.Proofs.YtbdpdjcdhclbfaaGreat
open Go.RowKit
abbrev jm (u:Vf.Un) (al ac:Option Addr) (cl cc:Nat):Value:=.agg #[.int .i64 u.kind,.int .i64 u.params,.slice al u.locals.length cl,.int .i64 u.result,.int .i64 u.takes,.slice ac u.code.length cc]
abbrev jE (op a n:Int):Value:=.agg #[.int .i64 op,.int .i64 a,.int .i64 n]
theorem rinstr_2 (m:Vf.Md)(ab au:Option Addr)(cb cu:Nat)(u:Vf.Un)(al ac:Option Addr)(cl cc:Nat)(a n:Int)(w:World)(er:Int)(hr:Hid (er=Vf.aA m u ⟨2,a,n⟩)) :
  Calls Tryz.prog 43 #[aT m ab au cb cu,jm u al ac cl cc,jE 2 a n] w fun e w'=>e=.returned (.int .i64 er)∧w.grownBy w' none:=by
 have HG:Hid (∀ x y z:Obj,w.grownBy (((w.alloc x).alloc y).alloc z) none):=fun x y z=>ai (aF _ _ _) _;by_cases h0:a<0
 ·have HR:Hid (er=3):=by
   unfold Hid;rw[hr.out];simp[Vf.aA,Vf.ranged];try omega
  clear hr;go_enter Tryz.func43,Tryz.ntmps43
  go_wp2
  go_ret
  rw[HR.out];exact⟨rfl,HG.out _ _ _⟩
 ·by_cases h2:2≤a
  ·have HR:Hid (er=3):=by
    unfold Hid;rw[hr.out];simp[Vf.aA,Vf.ranged];try omega
   clear hr;go_enter Tryz.func43,Tryz.ntmps43
   go_wp2
   go_ret
   rw[HR.out];exact⟨rfl,HG.out _ _ _⟩
  ·have h3:a<2:=by omega
   have h4:0≤a:=by omega
   have HR:Hid (er=0):=by
    unfold Hid;rw[hr.out];simp[Vf.aA,Vf.ranged];try omega
   clear hr;go_enter Tryz.func43,Tryz.ntmps43
   go_wp2
   go_ret
   rw[HR.out];exact⟨rfl,HG.out _ _ _⟩
theorem rinstr_3 (m:Vf.Md)(ab au:Option Addr)(cb cu:Nat)(u:Vf.Un)(al ac:Option Addr)(cl cc:Nat)(a n:Int)(w:World)(er:Int)(hr:Hid (er=Vf.aA m u ⟨3,a,n⟩)) :
  Calls Tryz.prog 43 #[aT m ab au cb cu,jm u al ac cl cc,jE 3 a n] w fun e w'=>e=.returned (.int .i64 er)∧w.grownBy w' none:=by
 have HG:Hid (∀ x y z:Obj,w.grownBy (((w.alloc x).alloc y).alloc z) none):=fun x y z=>ai (aF _ _ _) _;by_cases h0:a<0
 ·have HR:Hid (er=3):=by
   unfold Hid;rw[hr.out];simp[Vf.aA,Vf.ranged];try omega
  clear hr;go_enter Tryz.func43,Tryz.ntmps43
  go_wp2
  go_ret
  rw[HR.out];exact⟨rfl,HG.out _ _ _⟩
 ·by_cases h2:(u.locals.length:Int)≤a
  ·have HR:Hid (er=3):=by
    unfold Hid;rw[hr.out];simp[Vf.aA,Vf.ranged];try omega
   clear hr;go_enter Tryz.func43,Tryz.ntmps43
   go_wp2
   go_ret
   rw[HR.out];exact⟨rfl,HG.out _ _ _⟩
  ·have h3:a<(u.locals.length:Int):=by omega
   have h4:0≤a:=by omega
   have HR:Hid (er=0):=by
    unfold Hid;rw[hr.out];simp[Vf.aA,Vf.ranged];try omega
   clear hr;go_enter Tryz.func43,Tryz.ntmps43
   go_wp2
   go_ret
   rw[HR.out];exact⟨rfl,HG.out _ _ _⟩
theorem rinstr_4 (m:Vf.Md)(ab au:Option Addr)(cb cu:Nat)(u:Vf.Un)(al ac:Option Addr)(cl cc:Nat)(a n:Int)(w:World)(er:Int)(hr:Hid (er=Vf.aA m u ⟨4,a,n⟩)) :
  Calls Tryz.prog 43 #[aT m ab au cb cu,jm u al ac cl cc,jE 4 a n] w fun e w'=>e=.returned (.int .i64 er)∧w.grownBy w' none:=by
 have HG:Hid (∀ x y z:Obj,w.grownBy (((w.alloc x).alloc y).alloc z) none):=fun x y z=>ai (aF _ _ _) _;by_cases h0:a<0
 ·have HR:Hid (er=3):=by
   unfold Hid;rw[hr.out];simp[Vf.aA,Vf.ranged];try omega
  clear hr;go_enter Tryz.func43,Tryz.ntmps43
  go_wp2
  go_ret
  rw[HR.out];exact⟨rfl,HG.out _ _ _⟩
 ·by_cases h2:(u.locals.length:Int)≤a
  ·have HR:Hid (er=3):=by
    unfold Hid;rw[hr.out];simp[Vf.aA,Vf.ranged];try omega
   clear hr;go_enter Tryz.func43,Tryz.ntmps43
   go_wp2
   go_ret
   rw[HR.out];exact⟨rfl,HG.out _ _ _⟩
  ·have h3:a<(u.locals.length:Int):=by omega
   have h4:0≤a:=by omega
   have HR:Hid (er=0):=by
    unfold Hid;rw[hr.out];simp[Vf.aA,Vf.ranged];try omega
   clear hr;go_enter Tryz.func43,Tryz.ntmps43
   go_wp2
   go_ret
   rw[HR.out];exact⟨rfl,HG.out _ _ _⟩
theorem rinstr_21 (m:Vf.Md)(ab au:Option Addr)(cb cu:Nat)(u:Vf.Un)(al ac:Option Addr)(cl cc:Nat)(a n:Int)(w:World)(er:Int)(hr:Hid (er=Vf.aA m u ⟨21,a,n⟩)) :
  Calls Tryz.prog 43 #[aT m ab au cb cu,jm u al ac cl cc,jE 21 a n] w fun e w'=>e=.returned (.int .i64 er)∧w.grownBy w' none:=by
 have HG:Hid (∀ x y z:Obj,w.grownBy (((w.alloc x).alloc y).alloc z) none):=fun x y z=>ai (aF _ _ _) _;by_cases h0:a<0
 ·have HR:Hid (er=3):=by
   unfold Hid;rw[hr.out];simp[Vf.aA,Vf.ranged];try omega
  clear hr;go_enter Tryz.func43,Tryz.ntmps43
  go_wp2
  go_ret
  rw[HR.out];exact⟨rfl,HG.out _ _ _⟩
 ·by_cases h2:(u.code.length:Int)≤a
  ·have HR:Hid (er=3):=by
    unfold Hid;rw[hr.out];simp[Vf.aA,Vf.ranged];try omega
   clear hr;go_enter Tryz.func43,Tryz.ntmps43
   go_wp2
   go_ret
   rw[HR.out];exact⟨rfl,HG.out _ _ _⟩
  ·have h3:a<(u.code.length:Int):=by omega
   have h4:0≤a:=by omega
   have HR:Hid (er=0):=by
    unfold Hid;rw[hr.out];simp[Vf.aA,Vf.ranged];try omega
   clear hr;go_enter Tryz.func43,Tryz.ntmps43
   go_wp2
   go_ret
   rw[HR.out];exact⟨rfl,HG.out _ _ _⟩
theorem rinstr_22 (m:Vf.Md)(ab au:Option Addr)(cb cu:Nat)(u:Vf.Un)(al ac:Option Addr)(cl cc:Nat)(a n:Int)(w:World)(er:Int)(hr:Hid (er=Vf.aA m u ⟨22,a,n⟩)) :
  Calls Tryz.prog 43 #[aT m ab au cb cu,jm u al ac cl cc,jE 22 a n] w fun e w'=>e=.returned (.int .i64 er)∧w.grownBy w' none:=by
 have HG:Hid (∀ x y z:Obj,w.grownBy (((w.alloc x).alloc y).alloc z) none):=fun x y z=>ai (aF _ _ _) _;by_cases h0:a<0
 ·have HR:Hid (er=3):=by
   unfold Hid;rw[hr.out];simp[Vf.aA,Vf.ranged];try omega
  clear hr;go_enter Tryz.func43,Tryz.ntmps43
  go_wp2
  go_ret
  rw[HR.out];exact⟨rfl,HG.out _ _ _⟩
 ·by_cases h2:(u.code.length:Int)≤a
  ·have HR:Hid (er=3):=by
    unfold Hid;rw[hr.out];simp[Vf.aA,Vf.ranged];try omega
   clear hr;go_enter Tryz.func43,Tryz.ntmps43
   go_wp2
   go_ret
   rw[HR.out];exact⟨rfl,HG.out _ _ _⟩
  ·have h3:a<(u.code.length:Int):=by omega
   have h4:0≤a:=by omega
   have HR:Hid (er=0):=by
    unfold Hid;rw[hr.out];simp[Vf.aA,Vf.ranged];try omega
   clear hr;go_enter Tryz.func43,Tryz.ntmps43
   go_wp2
   go_ret
   rw[HR.out];exact⟨rfl,HG.out _ _ _⟩
theorem rinstr_26 (m:Vf.Md)(ab au:Option Addr)(cb cu:Nat)(u:Vf.Un)(al ac:Option Addr)(cl cc:Nat)(a n:Int)(w:World)(er:Int)(hr:Hid (er=Vf.aA m u ⟨26,a,n⟩)) :
  Calls Tryz.prog 43 #[aT m ab au cb cu,jm u al ac cl cc,jE 26 a n] w fun e w'=>e=.returned (.int .i64 er)∧w.grownBy w' none:=by
 have HG:Hid (∀ x y z:Obj,w.grownBy (((w.alloc x).alloc y).alloc z) none):=fun x y z=>ai (aF _ _ _) _;by_cases h0:a<0
 ·have HR:Hid (er=3):=by
   unfold Hid;rw[hr.out];simp[Vf.aA,Vf.ranged];try omega
  clear hr;go_enter Tryz.func43,Tryz.ntmps43
  go_wp2
  go_ret
  rw[HR.out];exact⟨rfl,HG.out _ _ _⟩
 ·by_cases h2:(m.boxes.length:Int)≤a
  ·have HR:Hid (er=3):=by
    unfold Hid;rw[hr.out];simp[Vf.aA,Vf.ranged];try omega
   clear hr;go_enter Tryz.func43,Tryz.ntmps43
   go_wp2
   go_ret
   rw[HR.out];exact⟨rfl,HG.out _ _ _⟩
  ·have h3:a<(m.boxes.length:Int):=by omega
   have h4:0≤a:=by omega
   have HR:Hid (er=0):=by
    unfold Hid;rw[hr.out];simp[Vf.aA,Vf.ranged];try omega
   clear hr;go_enter Tryz.func43,Tryz.ntmps43
   go_wp2
   go_ret
   rw[HR.out];exact⟨rfl,HG.out _ _ _⟩
theorem rinstr_27 (m:Vf.Md)(ab au:Option Addr)(cb cu:Nat)(u:Vf.Un)(al ac:Option Addr)(cl cc:Nat)(a n:Int)(w:World)(er:Int)(hr:Hid (er=Vf.aA m u ⟨27,a,n⟩)) :
  Calls Tryz.prog 43 #[aT m ab au cb cu,jm u al ac cl cc,jE 27 a n] w fun e w'=>e=.returned (.int .i64 er)∧w.grownBy w' none:=by
 have HG:Hid (∀ x y z:Obj,w.grownBy (((w.alloc x).alloc y).alloc z) none):=fun x y z=>ai (aF _ _ _) _;by_cases h0:a<0
 ·have HR:Hid (er=3):=by
   unfold Hid;rw[hr.out];simp[Vf.aA,Vf.ranged];try omega
  clear hr;go_enter Tryz.func43,Tryz.ntmps43
  go_wp2
  go_ret
  rw[HR.out];exact⟨rfl,HG.out _ _ _⟩
 ·by_cases h2:(m.boxes.length:Int)≤a
  ·have HR:Hid (er=3):=by
    unfold Hid;rw[hr.out];simp[Vf.aA,Vf.ranged];try omega
   clear hr;go_enter Tryz.func43,Tryz.ntmps43
   go_wp2
   go_ret
   rw[HR.out];exact⟨rfl,HG.out _ _ _⟩
  ·have h3:a<(m.boxes.length:Int):=by omega
   have h4:0≤a:=by omega
   have HR:Hid (er=0):=by
    unfold Hid;rw[hr.out];simp[Vf.aA,Vf.ranged];try omega
   clear hr;go_enter Tryz.func43,Tryz.ntmps43
   go_wp2
   go_ret
   rw[HR.out];exact⟨rfl,HG.out _ _ _⟩
theorem rinstr_23 (m:Vf.Md)(ab au:Option Addr)(cb cu:Nat)(u:Vf.Un)(al ac:Option Addr)(cl cc:Nat)(a n:Int)(w:World)(er:Int)(hr:Hid (er=Vf.aA m u ⟨23,a,n⟩))(B:Nat)(hm:Hid (aD B w m ab au))(hB:B≤w.heap.size) :
  Calls Tryz.prog 43 #[aT m ab au cb cu,jm u al ac cl cc,jE 23 a n] w fun e w'=>e=.returned (.int .i64 er)∧w.grownBy w' none:=by
 have HG:Hid (∀ x y z:Obj,w.grownBy (((w.alloc x).alloc y).alloc z) none):=fun x y z=>ai (aF _ _ _) _;have sI:Hid (∀ x y z t:Obj,w.grownBy ((((w.alloc x).alloc y).alloc z).alloc t) none):=fun x y z t=>ai (HG.out x y z) _;obtain⟨b,hb⟩:∃ b,b=Vf.is m 2 a:=⟨_,rfl⟩;have HR:Hid (er=if b=true then 0 else 3):=by
  unfold Hid;rw[hr.out,hb];simp[Vf.aA,Vf.ranged];cases Vf.is m 2 a<;>simp
 have NU:=hide hb;clear hr hb;go_enter Tryz.func43,Tryz.ntmps43
 go_wp2_with fail
 refine (IZ m ab au cb cu B 2 a _ (hide (hm.out.low (aK (HG.out _ _ _) hB))) (by simp;omega) b NU).mono ?_;rintro e w2 ⟨rfl,rfl⟩;cases b with
 | false =>
  have yJ:Hid (er=3):=HR.out;go_wp2
  go_ret
  rw[yJ.out];exact⟨rfl,sI.out _ _ _ _⟩
 | true =>
  have yJ:Hid (er=0):=HR.out;go_wp2
  go_ret
  rw[yJ.out];exact⟨rfl,sI.out _ _ _ _⟩
theorem rinstr_29 (m:Vf.Md)(ab au:Option Addr)(cb cu:Nat)(u:Vf.Un)(al ac:Option Addr)(cl cc:Nat)(a n:Int)(w:World)(er:Int)(hr:Hid (er=Vf.aA m u ⟨29,a,n⟩))(B:Nat)(hm:Hid (aD B w m ab au))(hB:B≤w.heap.size) :
  Calls Tryz.prog 43 #[aT m ab au cb cu,jm u al ac cl cc,jE 29 a n] w fun e w'=>e=.returned (.int .i64 er)∧w.grownBy w' none:=by
 have HG:Hid (∀ x y z:Obj,w.grownBy (((w.alloc x).alloc y).alloc z) none):=fun x y z=>ai (aF _ _ _) _;have sI:Hid (∀ x y z t:Obj,w.grownBy ((((w.alloc x).alloc y).alloc z).alloc t) none):=fun x y z t=>ai (HG.out x y z) _;obtain⟨b,hb⟩:∃ b,b=Vf.is m 3 a:=⟨_,rfl⟩;have HR:Hid (er=if b=true then 0 else 3):=by
  unfold Hid;rw[hr.out,hb];simp[Vf.aA,Vf.ranged];cases Vf.is m 3 a<;>simp
 have NU:=hide hb;clear hr hb;go_enter Tryz.func43,Tryz.ntmps43
 go_wp2_with fail
 refine (IZ m ab au cb cu B 3 a _ (hide (hm.out.low (aK (HG.out _ _ _) hB))) (by simp;omega) b NU).mono ?_;rintro e w2 ⟨rfl,rfl⟩;cases b with
 | false =>
  have yJ:Hid (er=3):=HR.out;go_wp2
  go_ret
  rw[yJ.out];exact⟨rfl,sI.out _ _ _ _⟩
 | true =>
  have yJ:Hid (er=0):=HR.out;go_wp2
  go_ret
  rw[yJ.out];exact⟨rfl,sI.out _ _ _ _⟩
theorem abJ (m:Vf.Md)(ab au:Option Addr)(cb cu:Nat)(u:Vf.Un)(al ac:Option Addr)(cl cc:Nat)(op a n:Int)(w:World)(er:Int)(hr:Hid (er=Vf.aA m u ⟨op,a,n⟩))(h1:op<1) :
  Calls Tryz.prog 43 #[aT m ab au cb cu,jm u al ac cl cc,jE op a n] w fun e w'=>e=.returned (.int .i64 er)∧w.grownBy w' none:=by
 have HG:Hid (∀ x y z:Obj,w.grownBy (((w.alloc x).alloc y).alloc z) none):=fun x y z=>ai (aF _ _ _) _;have HR:Hid (er=1):=by
  unfold Hid;rw[hr.out];unfold Vf.aA;rw[if_pos (.inl h1)]
 clear hr;go_enter Tryz.func43,Tryz.ntmps43
 go_wp2
 go_ret
 rw[HR.out];exact⟨rfl,HG.out _ _ _⟩
theorem abK (m:Vf.Md)(ab au:Option Addr)(cb cu:Nat)(u:Vf.Un)(al ac:Option Addr)(cl cc:Nat)(op a n:Int)(w:World)(er:Int)(hr:Hid (er=Vf.aA m u ⟨op,a,n⟩))(h1:32<op) :
  Calls Tryz.prog 43 #[aT m ab au cb cu,jm u al ac cl cc,jE op a n] w fun e w'=>e=.returned (.int .i64 er)∧w.grownBy w' none:=by
 have HG:Hid (∀ x y z:Obj,w.grownBy (((w.alloc x).alloc y).alloc z) none):=fun x y z=>ai (aF _ _ _) _;have h0:1≤op:=by omega
 have HR:Hid (er=1):=by
  unfold Hid;rw[hr.out];unfold Vf.aA;rw[if_pos (.inr h1)]
 clear hr;go_enter Tryz.func43,Tryz.ntmps43
 go_wp2
 go_ret
 rw[HR.out];exact⟨rfl,HG.out _ _ _⟩
theorem abL (m:Vf.Md)(ab au:Option Addr)(cb cu:Nat)(u:Vf.Un)(al ac:Option Addr)(cl cc:Nat)(op a n:Int)(w:World)(er:Int)(hr:Hid (er=Vf.aA m u ⟨op,a,n⟩))(h1:1≤op)(h32:op≤32)(n2:op≠2)(n3:op≠3)(n4:op≠4)(n21:op≠21)(n22:op≠22)(n23:op≠23)(n26:op≠26)(n27:op≠27)(n29:op≠29) :
  Calls Tryz.prog 43 #[aT m ab au cb cu,jm u al ac cl cc,jE op a n] w fun e w'=>e=.returned (.int .i64 er)∧w.grownBy w' none:=by
 have HG:Hid (∀ x y z:Obj,w.grownBy (((w.alloc x).alloc y).alloc z) none):=fun x y z=>ai (aF _ _ _) _;have e2:(op==2)=false:=by simpa using n2
 have e3:(op==3)=false:=by simpa using n3
 have e4:(op==4)=false:=by simpa using n4
 have e21:(op==21)=false:=by simpa using n21
 have e22:(op==22)=false:=by simpa using n22
 have e23:(op==23)=false:=by simpa using n23
 have e26:(op==26)=false:=by simpa using n26
 have e27:(op==27)=false:=by simpa using n27
 have e29:(op==29)=false:=by simpa using n29
 have HR:Hid (er=0):=by
  unfold Hid;rw[hr.out];unfold Vf.aA Vf.ranged;rw[if_neg (by simp;omega),if_neg];simp[n2,n3,n4,n21,n22,n23,n26,n27,n29]
 clear hr n2 n3 n4 n21 n22 n23 n26 n27 n29;go_enter Tryz.func43,Tryz.ntmps43
 go_wp2
 go_ret
 rw[HR.out];exact⟨rfl,HG.out _ _ _⟩
theorem abM (m:Vf.Md)(ab au:Option Addr)(cb cu B:Nat)(u:Vf.Un)(al ac:Option Addr)(cl cc:Nat)(op a n:Int)(w:World)(hm:Hid (aD B w m ab au))(hB:B≤w.heap.size)(er:Int)(hr:Hid (er=Vf.aA m u ⟨op,a,n⟩)) :
  Calls Tryz.prog 43 #[aT m ab au cb cu,jm u al ac cl cc,jE op a n] w fun e w'=>e=.returned (.int .i64 er)∧w.grownBy w' none:=by
 by_cases n2:op=2
 ·subst n2
  exact rinstr_2 m ab au cb cu u al ac cl cc a n w er hr
 by_cases n3:op=3
 ·subst n3
  exact rinstr_3 m ab au cb cu u al ac cl cc a n w er hr
 by_cases n4:op=4
 ·subst n4
  exact rinstr_4 m ab au cb cu u al ac cl cc a n w er hr
 by_cases n21:op=21
 ·subst n21
  exact rinstr_21 m ab au cb cu u al ac cl cc a n w er hr
 by_cases n22:op=22
 ·subst n22
  exact rinstr_22 m ab au cb cu u al ac cl cc a n w er hr
 by_cases n23:op=23
 ·subst n23
  exact rinstr_23 m ab au cb cu u al ac cl cc a n w er hr B hm hB
 by_cases n26:op=26
 ·subst n26
  exact rinstr_26 m ab au cb cu u al ac cl cc a n w er hr
 by_cases n27:op=27
 ·subst n27
  exact rinstr_27 m ab au cb cu u al ac cl cc a n w er hr
 by_cases n29:op=29
 ·subst n29
  exact rinstr_29 m ab au cb cu u al ac cl cc a n w er hr B hm hB
 by_cases h1:op<1
 ·exact abJ m ab au cb cu u al ac cl cc op a n w er hr h1
 by_cases h32:32<op
 ·exact abK m ab au cb cu u al ac cl cc op a n w er hr h32
 exact abL m ab au cb cu u al ac cl cc op a n w er hr (by omega) (by omega) n2 n3 n4 n21 n22 n23 n26 n27 n29
end Go.Proofs.YtbdpdjcdhclbfaaGreat
