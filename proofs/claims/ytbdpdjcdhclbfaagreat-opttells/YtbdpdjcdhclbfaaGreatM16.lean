/- The walks of ranged,head,forms. -/
import Derived.Test.YtbdpdjcdhclbfaaGreatM11
import Derived.Test.YtbdpdjcdhclbfaaGreatM3
import Derived.Test.YtbdpdjcdhclbfaaGreatM15
set_option maxRecDepth 100000
set_option maxHeartbeats 4000000
namespace Go.Proofs.YtbdpdjcdhclbfaaGreat
open Go.RowKit
theorem aF (w:World)(a b:Obj):w.grownBy ((w.alloc a).alloc b) none:=ai (ai (World.grownBy.refl _ _) _) _
theorem YH (c:FC)(a nn:Int)(w:World)(b:Bool)(hb:Hid (b=(a==0 || a==1))) :
  Calls Tryz.prog 61 #[wN c,.agg #[.int .i64 2,.int .i64 a,.int .i64 nn]] w fun e w'=>e=.returned (.bool b)∧w.grownBy w' none:=by
 go_enter Tryz.func61,Tryz.ntmps61
 go_wp2
 all_goals
  go_ret
  refine⟨D7 ?_,aF _ _ _⟩;rw[hb.out];(try simp[*])
  (try omega)
theorem YI (c:FC)(a nn:Int)(w:World)(b:Bool)(hb:Hid (b=(decide (0≤a) && decide (a<c.u.locals.length)))) :
  Calls Tryz.prog 61 #[wN c,.agg #[.int .i64 3,.int .i64 a,.int .i64 nn]] w fun e w'=>e=.returned (.bool b)∧w.grownBy w' none:=by
 go_enter Tryz.func61,Tryz.ntmps61
 go_wp2
 all_goals
  go_ret
  refine⟨D7 ?_,aF _ _ _⟩;rw[hb.out];(try simp[*])
  (try omega)
theorem YJ (c:FC)(a nn:Int)(w:World)(b:Bool)(hb:Hid (b=(decide (0≤a) && decide (a<c.u.locals.length)))) :
  Calls Tryz.prog 61 #[wN c,.agg #[.int .i64 4,.int .i64 a,.int .i64 nn]] w fun e w'=>e=.returned (.bool b)∧w.grownBy w' none:=by
 go_enter Tryz.func61,Tryz.ntmps61
 go_wp2
 all_goals
  go_ret
  refine⟨D7 ?_,aF _ _ _⟩;rw[hb.out];(try simp[*])
  (try omega)
theorem YK (c:FC)(a nn:Int)(w:World)(b:Bool)(hb:Hid (b=(decide (0≤a) && decide (a<c.u.code.length)))) :
  Calls Tryz.prog 61 #[wN c,.agg #[.int .i64 21,.int .i64 a,.int .i64 nn]] w fun e w'=>e=.returned (.bool b)∧w.grownBy w' none:=by
 go_enter Tryz.func61,Tryz.ntmps61
 go_wp2
 all_goals
  go_ret
  refine⟨D7 ?_,aF _ _ _⟩;rw[hb.out];(try simp[*])
  (try omega)
theorem YL (c:FC)(a nn:Int)(w:World)(b:Bool)(hb:Hid (b=(decide (0≤a) && decide (a<c.u.code.length)))) :
  Calls Tryz.prog 61 #[wN c,.agg #[.int .i64 22,.int .i64 a,.int .i64 nn]] w fun e w'=>e=.returned (.bool b)∧w.grownBy w' none:=by
 go_enter Tryz.func61,Tryz.ntmps61
 go_wp2
 all_goals
  go_ret
  refine⟨D7 ?_,aF _ _ _⟩;rw[hb.out];(try simp[*])
  (try omega)
theorem YM (c:FC)(a nn:Int)(w:World)(b:Bool)(hb:Hid (b=(decide (0≤a) && decide (a<c.m.boxes.length)))) :
  Calls Tryz.prog 61 #[wN c,.agg #[.int .i64 26,.int .i64 a,.int .i64 nn]] w fun e w'=>e=.returned (.bool b)∧w.grownBy w' none:=by
 go_enter Tryz.func61,Tryz.ntmps61
 go_wp2
 all_goals
  go_ret
  refine⟨D7 ?_,aF _ _ _⟩;rw[hb.out];(try simp[*])
  (try omega)
theorem YN (c:FC)(a nn:Int)(w:World)(b:Bool)(hb:Hid (b=(decide (0≤a) && decide (a<c.m.boxes.length)))) :
  Calls Tryz.prog 61 #[wN c,.agg #[.int .i64 27,.int .i64 a,.int .i64 nn]] w fun e w'=>e=.returned (.bool b)∧w.grownBy w' none:=by
 go_enter Tryz.func61,Tryz.ntmps61
 go_wp2
 all_goals
  go_ret
  refine⟨D7 ?_,aF _ _ _⟩;rw[hb.out];(try simp[*])
  (try omega)
theorem YO (c:FC)(B:Nat)(a nn:Int)(w:World)(hmd:Hid (aD B w c.m c.ab c.au))(hB:B≤w.heap.size)(b:Bool)(hb:Hid (b=Vf.is c.m 2 a)) :
  Calls Tryz.prog 61 #[wN c,.agg #[.int .i64 23,.int .i64 a,.int .i64 nn]] w fun e w'=>e=.returned (.bool b)∧w.grownBy w' none:=by
 have HM:Hid (aD B ((w.alloc (sJ c)).alloc (aj 23 a nn)) c.m c.ab c.au):=hmd.out.low (aK (aF _ _ _) hB);go_enter Tryz.func61,Tryz.ntmps61
 go_wp2_with fail
 refine (Hg c.m c.ab c.au c.cb c.cu B 2 a _ HM (by simp;omega) b hb).mono ?_;rintro e w2 ⟨rfl,rfl⟩;go_wp2
 go_ret
 exact⟨rfl,ai (aF _ _ _) _⟩
theorem YP (c:FC)(B:Nat)(a nn:Int)(w:World)(hmd:Hid (aD B w c.m c.ab c.au))(hB:B≤w.heap.size)(b:Bool)(hb:Hid (b=Vf.is c.m 3 a)) :
  Calls Tryz.prog 61 #[wN c,.agg #[.int .i64 29,.int .i64 a,.int .i64 nn]] w fun e w'=>e=.returned (.bool b)∧w.grownBy w' none:=by
 have HM:Hid (aD B ((w.alloc (sJ c)).alloc (aj 29 a nn)) c.m c.ab c.au):=hmd.out.low (aK (aF _ _ _) hB);go_enter Tryz.func61,Tryz.ntmps61
 go_wp2_with fail
 refine (Hg c.m c.ab c.au c.cb c.cu B 3 a _ HM (by simp;omega) b hb).mono ?_;rintro e w2 ⟨rfl,rfl⟩;go_wp2
 go_ret
 exact⟨rfl,ai (aF _ _ _) _⟩
theorem YQ (c:FC)(op a nn:Int)(hop:Hid (op≠2∧op≠3∧op≠4∧op≠21∧op≠22∧op≠23∧op≠26∧op≠27∧op≠29))(w:World) :
  Calls Tryz.prog 61 #[wN c,.agg #[.int .i64 op,.int .i64 a,.int .i64 nn]] w fun e w'=>e=.returned (.bool true)∧w.grownBy w' none:=by
 have g2:(op==2)=false:=by have:=hop.out;simp;omega
 have g3:(op==3)=false:=by have:=hop.out;simp;omega
 have g4:(op==4)=false:=by have:=hop.out;simp;omega
 have g21:(op==21)=false:=by have:=hop.out;simp;omega
 have g22:(op==22)=false:=by have:=hop.out;simp;omega
 have g23:(op==23)=false:=by have:=hop.out;simp;omega
 have g26:(op==26)=false:=by have:=hop.out;simp;omega
 have g27:(op==27)=false:=by have:=hop.out;simp;omega
 have g29:(op==29)=false:=by have:=hop.out;simp;omega
 go_enter Tryz.func61,Tryz.ntmps61
 go_wp2
 go_ret
 exact⟨rfl,aF _ _ _⟩
theorem YR (c:FC)(B:Nat)(op a nn:Int)(w:World)(hmd:Hid (aD B w c.m c.ab c.au))(hB:B≤w.heap.size)(b:Bool)(hb:Hid (b=Vf.ranged c.m c.u ⟨op,a,nn⟩)) :
  Calls Tryz.prog 61 #[wN c,.agg #[.int .i64 op,.int .i64 a,.int .i64 nn]] w fun e w'=>e=.returned (.bool b)∧w.grownBy w' none:=by
 by_cases h2:op=2
 ·subst h2;exact YH c a nn w b (hide hb.out)
 by_cases h3:op=3
 ·subst h3;exact YI c a nn w b (hide hb.out)
 by_cases h4:op=4
 ·subst h4;exact YJ c a nn w b (hide hb.out)
 by_cases h21:op=21
 ·subst h21;exact YK c a nn w b (hide hb.out)
 by_cases h22:op=22
 ·subst h22;exact YL c a nn w b (hide hb.out)
 by_cases h23:op=23
 ·subst h23;exact YO c B a nn w hmd hB b (hide hb.out)
 by_cases yR:op=29
 ·subst yR;exact YP c B a nn w hmd hB b (hide hb.out)
 by_cases xE:op=26
 ·subst xE;exact YM c a nn w b (hide hb.out)
 by_cases h27:op=27
 ·subst h27;exact YN c a nn w b (hide hb.out)
 have e:b=true:=by
  rw[hb.out,Vf.ranged,if_neg h2,if_neg (by rintro (h | h);exact h3 h;exact h4 h),if_neg (by rintro (h | h);exact h21 h;exact h22 h),if_neg h23,if_neg yR,if_neg (by rintro (h | h);exact xE h;exact h27 h)]
 rw[e];exact YQ c op a nn (hide ⟨h2,h3,h4,h21,h22,h23,xE,h27,yR⟩) w
def HE (er num:Int)(w:World)(e:Ending)(w':World):Prop:=w.grownBy w' none∧e=if er=0 then .returned (.tuple #[]) else .panicked [lT er num]
theorem YS (c:FC)(B:Nat)(w:World)(hmd:Hid (aD B w c.m c.ab c.au))(hun:Hid (ig B w c.u c.al c.ac c.cl c.cc))(hB:B≤w.heap.size)(hmu:c.m.units.length≤30)(er:Int)(hr:Hid (er=Vf.jr c.m c.u)) :
  Calls Tryz.prog 30 #[wN c] w fun e w'=>HE er 0 w e w':=by
 obtain⟨b1,hb1⟩:∃ b,b=Vf.zo c.u:=⟨_,rfl⟩;obtain⟨b2,hb2⟩:∃ b,b=Vf.sized c.u:=⟨_,rfl⟩;obtain⟨b3,hb3⟩:∃ b,b=Vf.typed c.m c.u:=⟨_,rfl⟩;have HR:Hid (er=if b1=false then 1 else if b2=false then 5 else if b3=false then 9 else 0):=by unfold Hid;rw[hr.out,hb1,hb2,hb3];rfl
 have H1:=hide hb1;have H2:=hide hb2;have H3:=hide hb3;have uJ:Hid (aD B (((w.alloc (sJ c)).alloc (sJ c)).alloc (sJ c)) c.m c.ab c.au):=hmd.out.low (aK (ai (aF _ _ _) _) hB);have Ef:Hid (ig B (((w.alloc (sJ c)).alloc (sJ c)).alloc (sJ c)) c.u c.al c.ac c.cl c.cc):=hun.out.low (aK (ai (aF _ _ _) _) hB);clear hr hb1 hb2 hb3;go_enter Tryz.func30,Tryz.ntmps30
 go_wp2_with fail
 refine (XD c _ b1 H1).mono ?_;rintro e w1 ⟨rfl,rfl⟩;cases b1 with
 | false =>
  have rJ:Hid (er=1):=HR.out;go_wp2_with fail
  refine (EB 0 1 _).mono ?_;rintro e w2 ⟨rfl,rfl⟩;go_wp2
  rw[rJ.out];exact⟨rfl,aF _ _ _,rfl⟩
 | true =>
  go_wp2_with fail
  refine (XE c _ b2 H2).mono ?_;rintro e w2 ⟨rfl,rfl⟩;cases b2 with
  | false =>
   have rJ:Hid (er=5):=HR.out;go_wp2_with fail
   refine (EB 0 5 _).mono ?_;rintro e w2 ⟨rfl,rfl⟩;go_wp2
   rw[rJ.out];exact⟨rfl,ai (aF _ _ _) _,rfl⟩
  | true =>
   go_wp2_with fail
   refine (XF c B _ uJ Ef (by simp;omega) hmu b3 H3).mono ?_;rintro e w3 ⟨rfl,hg3⟩;have sH:Hid (w.grownBy w3 none):=aJ (ai (aF _ _ _) _) hg3;clear hg3;cases b3 with
   | false =>
    have rJ:Hid (er=9):=HR.out;go_wp2_with fail
    refine (EB 0 9 _).mono ?_;rintro e w2 ⟨rfl,rfl⟩;go_wp2
    rw[rJ.out];exact⟨rfl,sH.out,rfl⟩
   | true =>
    have rJ:Hid (er=0):=HR.out;go_wp2
    go_end0
    rw[rJ.out];exact⟨sH.out,rfl⟩
theorem Gh {α:Type}(f:α→Int){l:List α}{k:Nat}{x:α}(h:l[k]?=some x):Vf.gT f (l.drop k) k=if f x=0 then Vf.gT f (l.drop (k+1)) (k+1) else (f x,k):=by
 obtain⟨hk,rfl⟩:=List.getElem?_eq_some_iff.1 h;rw[List.drop_eq_getElem_cons hk];rfl
structure YT (c:FC) (w:World) (er num:Int) (k:Nat) (W:World):Prop where
 le:k≤c.u.code.length
 grown:(w.alloc (sJ c)).grownBy W none
 rest:(er,num)=((Vf.gT (Vf.aA c.m c.u) (c.u.code.drop k) k).1,((Vf.gT (Vf.aA c.m c.u) (c.u.code.drop k) k).2:Int))
theorem YU (c:FC)(B:Nat)(w:World)(hmd:Hid (aD B w c.m c.ab c.au))(hun:Hid (ig B w c.u c.al c.ac c.cl c.cc))(hB:B≤w.heap.size)(er num:Int)(hr:Hid ((er,num)=((Vf.gT (Vf.aA c.m c.u) c.u.code 0).1,((Vf.gT (Vf.aA c.m c.u) c.u.code 0).2:Int)))) :
  Calls Tryz.prog 31 #[wN c] w fun e w'=>HE er num w e w':=by
 have hlo:c.u.code.length≤9223372036854775807:=hun.out.few.2;go_enter Tryz.func31,Tryz.ntmps31
 go_wp2
 go_loopw [8] (fun v wr=>∃ k:Nat,v=.int .i64 k∧YT c w er num k wr) (fun v _=>c.u.code.length - (intOf v).toNat)
 case atStart=>exact⟨0,rfl,Nat.zero_le _,World.grownBy.refl _ _,hr.out⟩
 case round =>
  obtain⟨k,rfl,hA⟩:=hrel;have HA:=hide hA;have hk:=hA.le;clear hA;by_cases hlt:k<c.u.code.length
  ·obtain⟨x,hx⟩:∃ x,c.u.code[k]?=some x:=⟨_,List.getElem?_eq_getElem hlt⟩
   have hlow:Low B w wr:=fun j hj=>(aC HA.out.grown (by simp;omega)).trans (Below.heap_alloc _ _ _ (by omega));obtain⟨_,_,_,bl,ol,hal,hbl,i0,i1,i2⟩:=(hun.out.code.low hlow) k x hx;have hub:wr.heap[w.heap.size]?=some (sJ c):=(aC HA.out.grown (by simp)).trans (heap_alloc_new w _);obtain⟨y0,y1,y2,y3,y4,y5,y6,y7⟩:=ES hub;have hwr:w.heap.size<wr.heap.size:=lt_of_block hub;have xz:Hid (aD B (wr.alloc (aj x.op x.a x.n)) c.m c.ab c.au):=(hmd.out.low hlow).low (aK (ai (World.grownBy.refl _ _) _) (by omega));have HN:Hid ((er,num)=if Vf.aA c.m c.u x=0 then ((Vf.gT (Vf.aA c.m c.u) (c.u.code.drop (k+1)) (k+1)).1,((Vf.gT (Vf.aA c.m c.u) (c.u.code.drop (k+1)) (k+1)).2:Int)) else (Vf.aA c.m c.u x,(k:Int))):=by
    unfold Hid;rw[HA.out.rest,Gh _ hx];split<;>rfl
   have HG:Hid (w.grownBy wr none):=aJ (ai (World.grownBy.refl _ _) _) HA.out.grown;have yN:=hide hal;clear hx hub hlow hal;rw[yN.out];by_cases hop:x.op<1∨32<x.op
   ·have rJ:Hid (er=1∧num=(k:Int)):=by
     have h1:Vf.aA c.m c.u x=1:=by unfold Vf.aA;rw[if_pos hop]
     have:=HN.out;rw[h1] at this;cases this;exact⟨rfl,rfl⟩
    rcases hop with hop | hop
    ·have d1:decide (x.op<1)=true:=by simpa using hop
     go_wp2_with fail
     refine (EB (k:Int) 1 _).mono ?_;rintro e w2 ⟨rfl,rfl⟩;go_wp2
     rw[rJ.out.1,rJ.out.2];exact⟨rfl,ai HG.out _,rfl⟩
    ·have d1:decide (x.op<1)=false:=by simp;omega
     have d2:decide (32<x.op)=true:=by simpa using hop
     go_wp2_with fail
     refine (EB (k:Int) 1 _).mono ?_;rintro e w2 ⟨rfl,rfl⟩;go_wp2
     rw[rJ.out.1,rJ.out.2];exact⟨rfl,ai HG.out _,rfl⟩
   ·have d1:decide (x.op<1)=false:=by simp;omega
    have d2:decide (32<x.op)=false:=by simp;omega
    obtain⟨b,hb⟩:∃ b,b=Vf.ranged c.m c.u ⟨x.op,x.a,x.n⟩:=⟨_,rfl⟩;have HB:=hide hb;have gU:Hid (Vf.aA c.m c.u x=if b=false then 3 else 0):=by unfold Hid;unfold Vf.aA;rw[if_neg hop,hb]
    clear hb hop;go_wp2_with fail
    refine (YR c B x.op x.a x.n _ xz (by simp;omega) b HB).mono ?_;rintro e w2 ⟨rfl,hg2⟩;have HG2:Hid ((w.alloc (sJ c)).grownBy w2 none):=aJ (ai HA.out.grown _) hg2;have sH:Hid (w.grownBy w2 none):=aJ (ai HG.out _) hg2;clear hg2 y0 y1 y2 y3 y4 y5 y6 y7 i0 i1 i2;cases b with
    | false =>
     have rJ:Hid (er=3∧num=(k:Int)):=by
      have:=HN.out;rw[gU.out] at this;cases this;exact⟨rfl,rfl⟩
     go_wp2_with fail
     refine (EB (k:Int) 3 _).mono ?_;rintro e w3 ⟨rfl,rfl⟩;go_wp2
     rw[rJ.out.1,rJ.out.2];exact⟨rfl,sH.out,rfl⟩
    | true =>
     have aX:Hid ((er,num)=((Vf.gT (Vf.aA c.m c.u) (c.u.code.drop (k+1)) (k+1)).1,((Vf.gT (Vf.aA c.m c.u) (c.u.code.drop (k+1)) (k+1)).2:Int))):=by
      have:=HN.out;rw[gU.out] at this;exact this
     go_wp2
     go_roundw
     case rel=>exact⟨k+1,by go_num,hlt,HG2.out,aX.out⟩
     case measure=>simp[intOf];omega
  ·have rJ:Hid (er=0∧num=0):=by
    have:=HA.out.rest;rw[List.drop_eq_nil_of_le (by omega)] at this;cases this;exact⟨rfl,rfl⟩
   have HG:Hid (w.grownBy wr none):=aJ (ai (World.grownBy.refl _ _) _) HA.out.grown;go_wp2
   go_end0
   rw[rJ.out.1,rJ.out.2];exact⟨HG.out,rfl⟩
theorem Rl {w:World}{b:Nat}{v0 v1:Value}{t:TypeId}(h:w.heap[b]?=some (.cells #[v0,v1] t (0,0))) :
  w.cell? ⟨b,0,none⟩=some v0∧w.cell? ⟨b,1,none⟩=some v1∧w.frozen? ⟨b,0,none⟩=false∧w.frozen? ⟨b,1,none⟩=false:=by simp[World.cell?,World.frozen?,h]
theorem YV (v:Value)(w:World):(Instr.typeAssert (.iface 111 v) 20 111 false).run Tryz.prog w=.ok v w:=by kernel_rfl
theorem YW (F:Nat)(er num:Int)(older:List PanicEntry)(w:World)(hF:w.heap[F]?=some (.cells #[.int .i64 0,.int .i64 0] 111 (0,0))) :
  CallsD Tryz.prog 79 #[.pointer (some ⟨F,0,none⟩)] (.panicking (lT er num :: older)) w fun e u' w' =>
   e=.returned (.tuple #[])∧u'=.panicking ({ v:=.iface 111 (.agg #[.int .i64 er,.int .i64 num]),recovered:=true } :: older)∧w'=(w.setCell ⟨F,0,none⟩ (.int .i64 er)).setCell ⟨F,1,none⟩ (.int .i64 num):=by
 obtain⟨c0,c1,f0,f1⟩:=Rl hF;refine callsD_of_wpS Tryz.func79 rfl fun c₀ cs hu=>?_;apply wpS_seq;apply wpS_region;simp[wpOpsS,go_sem,recoverD,hu,Tryz.ntmps79,Exit.thenS];apply wpS_seq;apply wpS_region;simp[wpOpsS,go_sem,Exit.thenS];refine wpS_cond (t:=true) (by simp[Act.eval,Array.replicate]) ?_;simp only[if_true];apply wpS_region;simp[wpOpsS,go_sem,YV,c0,c1,f0,f1,bodyPostS,results,Tryz.results79]
theorem YX (F:Nat)(w:World) :
  CallsD Tryz.prog 79 #[.pointer (some ⟨F,0,none⟩)] .returning w fun e u' w'=>e=.returned (.tuple #[])∧u'=.returning∧w'=w:=by
 refine callsD_of_wpS Tryz.func79 rfl fun c₀ cs hu=>?_;apply wpS_seq;apply wpS_region;simp[wpOpsS,go_sem,recoverD,hu,Tryz.ntmps79,Exit.thenS];apply wpS_seq;apply wpS_region;simp[wpOpsS,go_sem,Exit.thenS];refine wpS_cond (t:=false) (by simp[Act.eval,Array.replicate]) ?_;simp only[Bool.false_eq_true,if_false];refine wpS_of_wp (wp_skip ?_);cases c₀;simp_all [bodyPostS,results,Tryz.results79]
abbrev AL:Obj:=.cells #[.int .i64 0,.int .i64 0] 111 (0,0)
theorem Rm (g:FuncId)(cap:Array Value)(er num:Int)(X:World→Prop)(w:World)(hz:er=0→num=0)(hcf:∀ w:World,(callFunc g cap).run Tryz.prog w=.ok (.enter g cap) w)
  (hw:Calls Tryz.prog g cap (w.alloc AL) fun e w'=>X w'∧w'.heap[w.heap.size]?=some AL∧uL er num e) :
  Calls Tryz.prog 55 #[.func (.func g) #[] cap] w fun e w'=>e=.returned (.agg #[.int .i64 er,.int .i64 num])∧∃ wx,X wx∧wx.heap[w.heap.size]?=some AL∧w'=(wx.setCell ⟨w.heap.size,0,none⟩ (.int .i64 er)).setCell ⟨w.heap.size,1,none⟩ (.int .i64 num):=by
 have ji:∀ (fn:Fn) (first cap:Array Value) (w:World),(Instr.makeFunc fn first cap).run Tryz.prog w=.ok (.func fn first cap) w:=fun _ _ _ _=>rfl;go_enter_defers Tryz.func55,Tryz.ntmps55
 go_wp2_with fail
 refine hw.mono ?_;rintro e w1 ⟨hX,hF,ht⟩;obtain⟨c0,c1,f0,f1⟩:=Rl hF;have HX:Hid (X w1):=hX;have HF:Hid (w1.heap[w.heap.size]?=some AL):=hF;clear hX hF;by_cases h0:er=0
 ·have hn:=hz h0
  subst h0;subst hn;obtain rfl:e=.returned (.tuple #[]):=ht;clear hw hz;go_wp2
  refine leaves_cons (f:=79) (args:=#[.pointer (some ⟨w.heap.size,0,none⟩)]) (by simp) (by simp[go_sem]) ?_;refine (YX w.heap.size _).mono ?_;rintro e u' w'' ⟨rfl,rfl,rfl⟩;show Leaves _ _ _ _ [] .returning _
  exact⟨.agg #[.int .i64 0,.int .i64 0],by simp[results,Tryz.results55,go_sem,c0,c1],rfl,w1,HX.out,HF.out,rfl⟩
 ·obtain rfl:e=.panicked [lT er num]:=by unfold uL at ht;rw[if_neg h0] at ht;exact ht
  clear ht hw hz h0;go_wp2
  refine leaves_cons (f:=79) (args:=#[.pointer (some ⟨w.heap.size,0,none⟩)]) (by simp) (by simp[go_sem]) ?_;refine (YW w.heap.size er num [] _ HF.out).mono ?_;rintro e u' w'' ⟨rfl,rfl,rfl⟩;show Leaves _ _ _ _ [] .returning _
  exact⟨.agg #[.int .i64 er,.int .i64 num],by simp[results,Tryz.results55,go_sem,c0,c1],rfl,w1,HX.out,HF.out,rfl⟩
theorem aD.mono {B C:Nat}{w:World}{m:Vf.Md}{ab au:Option Addr}(h:aD B w m ab au)(hB:B≤C):aD C w m ab au:=by
 refine⟨h.few,fun i x hx=>?_,fun i x hx=>?_⟩
 ·obtain⟨h1,h2,b,off,e,hb,r⟩:=h.boxes i x hx
  exact⟨h1,h2,b,off,e,by omega,r⟩
 ·obtain⟨b,off,al,cl,ac,cc,e,hb,hu,r⟩:=h.units i x hx
  refine⟨b,off,al,cl,ac,cc,e,by omega,⟨hu.nums,hu.few,hu.uh,fun j y hy=>?_,fun j y hy=>?_⟩,r⟩
  ·obtain⟨h1,b,off,e,hb,r⟩:=hu.locals j y hy
   exact⟨h1,b,off,e,by omega,r⟩
  ·obtain⟨h1,h2,h3,b,off,e,hb,r⟩:=hu.code j y hy
   exact⟨h1,h2,h3,b,off,e,by omega,r⟩
theorem ig.mono {B C:Nat}{w:World}{u:Vf.Un}{al ac:Option Addr}{cl cc:Nat}(hu:ig B w u al ac cl cc)(hB:B≤C):ig C w u al ac cl cc:=by
 refine⟨hu.nums,hu.few,hu.uh,fun j y hy=>?_,fun j y hy=>?_⟩
 ·obtain⟨h1,b,off,e,hb,r⟩:=hu.locals j y hy
  exact⟨h1,b,off,e,by omega,r⟩
 ·obtain⟨h1,h2,h3,b,off,e,hb,r⟩:=hu.code j y hy
  exact⟨h1,h2,h3,b,off,e,by omega,r⟩
theorem YY (c:FC)(B:Nat)(w:World)(hmd:Hid (aD B w c.m c.ab c.au))(hun:Hid (ig B w c.u c.al c.ac c.cl c.cc))(hB:B≤w.heap.size)(hmu:c.m.units.length≤30)(er num:Int)(hr:Hid ((er,num)=((Vf.rY c.m c.u).1,((Vf.rY c.m c.u).2:Int)))) :
  Calls Tryz.prog 29 #[wN c] w fun e w'=>w.grownBy w' none∧uL er num e:=by
 obtain⟨y0,y1,y2,y3,y4,y5,y6,y7⟩:=ES (heap_alloc_new w (sJ c));have HT:Hid (w.grownBy (w.alloc (sJ c)) none):=ai (World.grownBy.refl _ _) _;have zW:Hid (aD B (w.alloc (sJ c)) c.m c.ab c.au):=hmd.out.low (aK HT.out hB);have Gi:Hid (ig B (w.alloc (sJ c)) c.u c.al c.ac c.cl c.cc):=hun.out.low (aK HT.out hB);obtain⟨eh,heh⟩:∃ eh,eh=Vf.jr c.m c.u:=⟨_,rfl⟩;have HH:=hide heh;have HR:Hid ((er,num)=if eh=0 then ((Vf.gT (Vf.aA c.m c.u) c.u.code 0).1,((Vf.gT (Vf.aA c.m c.u) c.u.code 0).2:Int)) else (eh,0)):=by
  unfold Hid;rw[hr.out,Vf.rY,← heh];split<;>rfl
 clear hr heh;go_enter Tryz.func29,Tryz.ntmps29
 go_wp2_with fail
 refine (YS c B _ zW Gi (by simp;omega) hmu eh HH).mono ?_;rintro e w1 ⟨hg1,he⟩;have aH:Hid (w.grownBy w1 none):=aJ HT.out hg1;have hub:w1.heap[w.heap.size]?=some (sJ c):=(aC hg1 (by simp)).trans (heap_alloc_new w _);by_cases h0:eh=0
 ·obtain rfl:e=.returned (.tuple #[]):=by rw[if_pos h0] at he;exact he
  have HR2:Hid ((er,num)=((Vf.gT (Vf.aA c.m c.u) c.u.code 0).1,((Vf.gT (Vf.aA c.m c.u) c.u.code 0).2:Int))):=by have:=HR.out;rw[if_pos h0] at this;exact this
  obtain⟨x0,x1,x2,x3,x4,x5,x6,x7⟩:=ES hub;have uJ:Hid (aD B w1 c.m c.ab c.au):=hmd.out.low (aK aH.out hB);have Ef:Hid (ig B w1 c.u c.al c.ac c.cl c.cc):=hun.out.low (aK aH.out hB);have hz:=aH.out.size;clear he hg1 hub h0 y0 y1 y2 y3 y4 y5 y6 y7;go_wp2_with fail
  refine (YU c B _ uJ Ef (by omega) er num HR2).mono ?_;rintro e w2 ⟨hg2,he2⟩;have HG2:Hid (w.grownBy w2 none):=aJ aH.out hg2;clear hg2;by_cases h1:er=0
  ·obtain rfl:e=.returned (.tuple #[]):=by rw[if_pos h1] at he2;exact he2
   have HE:Hid (uL er num (.returned (.tuple #[]))):=he2;clear he2 h1;go_wp2
   go_end0
   exact⟨HG2.out,HE.out⟩
  ·obtain rfl:e=.panicked [lT er num]:=by rw[if_neg h1] at he2;exact he2
   have HE:Hid (uL er num (.panicked [lT er num])):=he2;clear he2 h1;go_wp2
   exact⟨rfl,HG2.out,HE.out⟩
 ·obtain rfl:e=.panicked [lT eh 0]:=by rw[if_neg h0] at he;exact he
  have HR2:Hid (er=eh∧num=0):=by have:=HR.out;rw[if_neg h0] at this;cases this;exact⟨rfl,rfl⟩
  have HE:Hid (uL eh 0 (.panicked [lT eh 0])):=he;clear he hg1 hub h0;go_wp2
  rw[HR2.out.1,HR2.out.2];exact⟨rfl,aH.out,HE.out⟩
theorem YZ (c:FC)(B:Nat)(w:World)(hmd:Hid (aD B w c.m c.ab c.au))(hun:Hid (ig B w c.u c.al c.ac c.cl c.cc))(hB:B≤w.heap.size)(hR:Hid (Rt c.m))(hu:Hid (Vf.jr c.m c.u=0))(hfo:Hid (Vf.Forms c.m c.u))(er num:Int)(hr:Hid ((er,num)=((Vf.rH c.m c.u).1,((Vf.rH c.m c.u).2:Int)))) :
  Calls Tryz.prog 32 #[wN c] w fun e w'=>w.grownBy w' none∧uL er num e:=by
 have hmm:∀ w:World,(Instr.makeMap 69 Option.none).run Tryz.prog w=.ok (.map (some w.heap.size)) (w.alloc (.map #[] 0)):=fun _=>rfl;obtain⟨W,hW⟩:∃ W:World,((w.alloc (sJ c)).alloc (.map #[] 0)).alloc (vE { c with M:=w.heap.size+1 } none [] Vf.Fl.none 0 (.slice none 0 0))=W:=⟨_,rfl⟩;have hT:w.grownBy W none:=by rw[← hW];exact ai (aF _ _ _) _
 have Mw:W.heap[w.heap.size+1+1]?=some (vE { c with M:=w.heap.size+1 } none [] Vf.Fl.none 0 (.slice none 0 0)):=by
  have e:((w.alloc (sJ c)).alloc (.map #[] 0)).heap.size=w.heap.size+1+1:=by simp
  rw[← hW,← e];exact heap_alloc_new _ _
 have H0:Hid (aB { c with M:=w.heap.size+1 } W (w.heap.size+1+1) none [] Vf.Fl.none 0 (.slice none 0 0)):=⟨Mw,rfl⟩;have HE:Hid (Env { c with M:=w.heap.size+1 } w.heap.size (w.heap.size+1+1) W):=⟨(hmd.out.mono hB).low (aK hT (Nat.le_refl _)),(hun.out.mono hB).low (aK hT (Nat.le_refl _)),by omega,lt_of_block Mw⟩;have HC:Hid (uo W (w.heap.size+1) (fun _=>none)):=by
  have h1:=(uo.new (w.alloc (sJ c))).alloc (vE { c with M:=w.heap.size+1 } none [] Vf.Fl.none 0 (.slice none 0 0));have e:(w.alloc (sJ c)).heap.size=w.heap.size+1:=by simp
  rw[e,hW] at h1;exact h1
 have HT:=hide hT;have HW:=hide hW;clear hW hT Mw;go_enter Tryz.func32,Tryz.ntmps32
 go_wp2_with fail
 rw[show ((w.alloc (sJ c)).alloc (.map #[] 0)).alloc (.cells #[.slice c.ab c.m.boxes.length c.cb,.slice c.au c.m.units.length c.cu,.int .i64 c.u.kind,.int .i64 c.u.params,.slice c.al c.u.locals.length c.cl,.int .i64 c.u.result,.int .i64 c.u.takes,.slice c.ac c.u.code.length c.cc,.pointer none,.int .i64 0,.int .u64 0,.int .u64 0,.int .u64 0,.int .u64 0,.int .i64 0,.slice none 0 0,.map (some (w.heap.size+1))] 79)=W from HW.out];refine (Yt { c with M:=w.heap.size+1 } w.heap.size (w.heap.size+1+1) _ H0 HE HC (by simp) hR hu hfo er num hr).mono ?_;rintro e w1 ⟨hb1,he⟩;have aH:Hid (w.grownBy w1 none):=⟨hb1.os.trans HT.out.os,hb1.tape.trans HT.out.tape,hb1.output.trans HT.out.output,Nat.le_trans HT.out.size (by have:=hb1.size;exact this),fun k hk _=>(hb1.block k hk).trans (HT.out.block k hk (by simp))⟩;clear hb1;by_cases h1:er=0
 ·obtain rfl:e=.returned (.tuple #[]):=by unfold uL at he;rw[if_pos h1] at he;exact he
  have HX:Hid (uL er num (.returned (.tuple #[]))):=he;clear he h1;go_wp2
  go_end0
  exact⟨aH.out,HX.out⟩
 ·obtain rfl:e=.panicked [lT er num]:=by unfold uL at he;rw[if_neg h1] at he;exact he
  have HX:Hid (uL er num (.panicked [lT er num])):=he;clear he h1;go_wp2
  exact⟨rfl,aH.out,HX.out⟩
namespace Vf
def uw (f:Un→Int × Nat):List Un→Nat→Int × Int × Int
 | [],_=>(0,0,0)
 | u :: l,k=>if (f u).1=0 then uw f l (k+1) else ((f u).1,(k:Int),((f u).2:Int))
theorem Rn {α:Type}(f:α→Int):∀ (l:List α) (k:Nat),(gT f l k).1=0→(gT f l k).2=0
 | [],_,_=>rfl
 | x :: l,k,h=>by
  unfold gT at h ⊢;split at h
  ·rename_i hx
   rw[if_pos hx];exact Rn f l (k+1) h
  ·rename_i hx
   exact absurd h hx
theorem Y0 {m:Md}{u:Un}(h:(rY m u).1=0):(rY m u).2=0:=by
 unfold rY at h ⊢;split
 ·rename_i hh
  rw[if_pos hh] at h;exact Rn _ _ _ h
 ·rfl
theorem Ro {m:Md}{u:Un}:∀ (f:Nat) (s:S),(si m u f s).1=0→(si m u f s).2=0
 | 0,_,_=>rfl
 | f+1,s,h=>by
  unfold si at h ⊢;split
  ·rfl
  ·rename_i n row hrow
   rw[hrow] at h;simp only at h;split
   ·rename_i e he
    rw[he] at h;exact absurd h (Pn _ _ _ _ e he)
   ·rename_i s' hs
    rw[hs] at h;exact Ro f s' h
end Vf
theorem Rp (f:Vf.Un→Int × Nat){l:List Vf.Un}{k:Nat}{x:Vf.Un}(h:l[k]?=some x):Vf.uw f (l.drop k) k=if (f x).1=0 then Vf.uw f (l.drop (k+1)) (k+1) else ((f x).1,(k:Int),((f x).2:Int)):=by
 obtain⟨hk,rfl⟩:=List.getElem?_eq_some_iff.1 h;rw[List.drop_eq_getElem_cons hk];rfl
abbrev E8 (g:FuncId):Obj:=.cells #[.func (.func g) #[] #[]] 68 (0,0)
abbrev gM (er un num:Int):Value:=.agg #[.int .i64 er,.int .i64 un,.int .i64 num]
abbrev aU:Obj:=.cells #[.int .i64 0,.int .i64 0,.int .i64 0] 28 (0,0)
theorem BU {w:World}{N:Nat}{m:Vf.Md}{ab au:Option Addr}{cb cu:Nat}(h:w.heap[N]?=some (vv m ab au cb cu)) :
  w.cell? ⟨N,0,none⟩=some (.slice ab m.boxes.length cb)∧w.cell? ⟨N,1,none⟩=some (.slice au m.units.length cu):=by
 simp[World.cell?,h]
theorem aP {w:World}{N:Nat}{a b c:Value}(h:w.heap[N]?=some (.cells #[a,b,c] 28 (0,0))) :
  (w.cell? ⟨N,0,none⟩=some a∧w.cell? ⟨N,1,none⟩=some b∧w.cell? ⟨N,2,none⟩=some c)∧w.frozen? ⟨N,0,none⟩=false∧w.frozen? ⟨N,1,none⟩=false∧w.frozen? ⟨N,2,none⟩=false:=by
 simp[World.cell?,World.frozen?,h]
structure E1 (g:FuncId) (c:FC) (LB MB UB:Nat) (w:World):Prop where
 lk:w.heap[LB]?=some (E8 g)
 md:w.heap[MB]?=some (vv c.m c.ab c.au c.cb c.cu)
 un:w.heap[UB]?=some (gP c.u c.al c.ac c.cl c.cc)
theorem Y1 (c:FC)(B LB MB UB:Nat)(w:World)(h:Hid (E1 29 c LB MB UB w))(hmd:Hid (aD B w c.m c.ab c.au))(hun:Hid (ig B w c.u c.al c.ac c.cl c.cc))(hB:B≤w.heap.size)(hmu:c.m.units.length≤30)(er num:Int)(hr:Hid ((er,num)=((Vf.rY c.m c.u).1,((Vf.rY c.m c.u).2:Int)))) :
  Calls Tryz.prog 56 #[.pointer (some ⟨LB,0,none⟩),.pointer (some ⟨MB,0,none⟩),.pointer (some ⟨UB,0,none⟩)] w fun e w'=>w.grownBy w' none∧uL er num e:=by
 have l0:w.cell? ⟨LB,0,none⟩=some (.func (.func 29) #[] #[]):=by simp[World.cell?,h.out.lk]
 obtain⟨m0,m1⟩:=BU h.out.md;obtain⟨u0,u1,u2,u3,u4,u5⟩:=zO h.out.un;go_enter Tryz.func56,Tryz.ntmps56
 go_wp2_with fail
 refine (YY c B _ hmd hun hB hmu er num hr).mono ?_;rintro e w1 ⟨hg1,he⟩;have aH:=hide hg1;clear hg1 l0 m0 m1 u0 u1 u2 u3 u4 u5;by_cases h1:er=0
 ·obtain rfl:e=.returned (.tuple #[]):=by unfold uL at he;rw[if_pos h1] at he;exact he
  have HX:Hid (uL er num (.returned (.tuple #[]))):=he;clear he h1;go_wp2
  go_end0
  exact⟨aH.out,HX.out⟩
 ·obtain rfl:e=.panicked [lT er num]:=by unfold uL at he;rw[if_neg h1] at he;exact he
  have HX:Hid (uL er num (.panicked [lT er num])):=he;clear he h1;go_wp2
  exact⟨rfl,aH.out,HX.out⟩
theorem Y2 (c:FC)(B LB MB UB:Nat)(w:World)(h:Hid (E1 32 c LB MB UB w))(hmd:Hid (aD B w c.m c.ab c.au))(hun:Hid (ig B w c.u c.al c.ac c.cl c.cc))(hB:B≤w.heap.size)(hR:Hid (Rt c.m))(hu:Hid (Vf.jr c.m c.u=0))(hfo:Hid (Vf.Forms c.m c.u))(er num:Int)(hr:Hid ((er,num)=((Vf.rH c.m c.u).1,((Vf.rH c.m c.u).2:Int)))) :
  Calls Tryz.prog 56 #[.pointer (some ⟨LB,0,none⟩),.pointer (some ⟨MB,0,none⟩),.pointer (some ⟨UB,0,none⟩)] w fun e w'=>w.grownBy w' none∧uL er num e:=by
 have l0:w.cell? ⟨LB,0,none⟩=some (.func (.func 32) #[] #[]):=by simp[World.cell?,h.out.lk]
 obtain⟨m0,m1⟩:=BU h.out.md;obtain⟨u0,u1,u2,u3,u4,u5⟩:=zO h.out.un;go_enter Tryz.func56,Tryz.ntmps56
 go_wp2_with fail
 refine (YZ c B _ hmd hun hB hR hu hfo er num hr).mono ?_;rintro e w1 ⟨hg1,he⟩;have aH:=hide hg1;clear hg1 l0 m0 m1 u0 u1 u2 u3 u4 u5;by_cases h1:er=0
 ·obtain rfl:e=.returned (.tuple #[]):=by unfold uL at he;rw[if_pos h1] at he;exact he
  have HX:Hid (uL er num (.returned (.tuple #[]))):=he;clear he h1;go_wp2
  go_end0
  exact⟨aH.out,HX.out⟩
 ·obtain rfl:e=.panicked [lT er num]:=by unfold uL at he;rw[if_neg h1] at he;exact he
  have HX:Hid (uL er num (.panicked [lT er num])):=he;clear he h1;go_wp2
  exact⟨rfl,aH.out,HX.out⟩
structure Rq (f:Vf.Un→Int × Nat) (l:List Vf.Un) (w0:World) (er un num:Int) (k:Nat) (W:World):Prop where
 le:k≤l.length
 grown:w0.grownBy W none
 rest:(er,un,num)=Vf.uw f (l.drop k) k
end Go.Proofs.YtbdpdjcdhclbfaaGreat
