/- The walks of sizes,boxes,tasks. -/
import Derived.Test.YtbdpdjcdhclbfaaGreatM17
set_option maxRecDepth 100000
set_option maxHeartbeats 4000000
namespace Go.Proofs.YtbdpdjcdhclbfaaGreat
open Go.RowKit
namespace Vf
def wR (m:Md):Int:=if 30<m.boxes.length∨30<m.units.length then 5 else 0
def rM (b:Bx):Int:=if plain b.ty=false then 9 else if b.cap<1∨20<b.cap then 3 else 0
def Fj (m:Md):Int × Nat:=gT rM m.boxes 0
def H7 (m:Md):Int:=if m.units.any (fun u=>u.kind==4) then 0 else 6
end Vf
theorem Zp (m:Vf.Md)(ab au:Option Addr)(cb cu:Nat)(w:World)(er:Int)(hr:Hid (er=Vf.wR m)) :
  Calls Tryz.prog 15 #[aT m ab au cb cu] w fun e w'=>e=.returned (gM er 0 0)∧w.grownBy w' none:=by
 go_enter Tryz.func15,Tryz.ntmps15
 go_wp2
 all_goals
  first
  | (refine bodyPost_ret (v:=gM 5 0 0) (by simp[results,Tryz.results15,go_sem]) rfl ?_;have HE:er=5:=(by rw[hr.out,Vf.wR,if_pos (by omega)]);rw[HE];exact⟨rfl,aF _ _ _⟩)
  | (refine bodyPost_ret (v:=gM 0 0 0) (by simp[results,Tryz.results15,go_sem]) rfl ?_;have HE:er=0:=(by rw[hr.out,Vf.wR,if_neg (by omega)]);rw[HE];exact⟨rfl,aF _ _ _⟩)
structure Zq (m:Vf.Md) (W0:World) (er num:Int) (k:Nat) (W:World):Prop where
 le:k≤m.boxes.length
 grown:W0.grownBy W none
 rest:(er,num)=((Vf.gT Vf.rM (m.boxes.drop k) k).1,((Vf.gT Vf.rM (m.boxes.drop k) k).2:Int))
theorem Zr (m:Vf.Md)(ab au:Option Addr)(cb cu B:Nat)(w:World)(hmd:Hid (aD B w m ab au))(hB:B≤w.heap.size)(er num:Int)(hr:Hid ((er,num)=((Vf.Fj m).1,((Vf.Fj m).2:Int)))) :
  Calls Tryz.prog 16 #[aT m ab au cb cu] w fun e w'=>e=.returned (gM er 0 num)∧w.grownBy w' none:=by
 have J5:=hmd.out.few.1;obtain⟨W0,hW0⟩:∃ W0:World,(w.alloc (vv m ab au cb cu)).alloc aU=W0:=⟨_,rfl⟩;have HT:Hid (w.grownBy W0 none):=by rw[← hW0];exact aF _ _ _
 have Eh:Hid (W0.heap[w.heap.size+1]?=some aU):=by rw[← hW0];exact zC _ _ _
 have HW0:=hide hW0;clear hW0;go_enter Tryz.func16,Tryz.ntmps16
 go_wp2
 go_loopw [9] (fun v wr=>∃ k:Nat,v=.int .i64 k∧Zq m W0 er num k wr) (fun v _=>m.boxes.length - (intOf v).toNat)
 case atStart=>exact⟨0,rfl,Nat.zero_le _,by rw[← HW0.out];exact World.grownBy.refl _ _,hr.out⟩
 case round =>
  obtain⟨k,rfl,hA⟩:=hrel;have HA:=hide hA;have hk:=hA.le;have HG:Hid (w.grownBy wr none):=aJ HT.out HA.out.grown;have hwz:wr.heap[w.heap.size+1]?=some aU:=(aC HA.out.grown (lt_of_block Eh.out)).trans Eh.out;obtain⟨⟨z0,z1,z2⟩,y0,y1,y2⟩:=aP hwz;have hzl:=lt_of_block hwz;have wm:=hide hwz;clear hA hwz;by_cases hlt:k<m.boxes.length
  ·obtain⟨x,hx⟩:∃ x,m.boxes[k]?=some x:=⟨_,List.getElem?_eq_getElem hlt⟩
   obtain⟨i1,i2,b,off,ha,hb,b0,b1⟩:=(hmd.out.low (aK HG.out hB)).boxes k x hx;have HN:Hid ((er,num)=if Vf.rM x=0 then ((Vf.gT Vf.rM (m.boxes.drop (k+1)) (k+1)).1,((Vf.gT Vf.rM (m.boxes.drop (k+1)) (k+1)).2:Int)) else (Vf.rM x,(k:Int))):=by
    unfold Hid;rw[HA.out.rest,Gh _ hx];split<;>rfl
   have Zt:=hide ha;obtain⟨p,hp⟩:∃ p,p=Vf.plain x.ty:=⟨_,rfl⟩;have HP:=hide hp;have Ab:Hid (Vf.rM x=if p=false then 9 else if x.cap<1∨20<x.cap then 3 else 0):=by unfold Hid;unfold Vf.rM;rw[hp]
   have hk1:(k:Int)<(m.boxes.length:Int):=by omega
   clear hx ha hp;rw[Zt.out];go_wp2_with fail
   refine (yg x.ty _ p HP).mono ?_;rintro e w2 ⟨rfl,hw2⟩;subst hw2;cases p with
   | false =>
    have HE:Hid (er=9∧num=(k:Int)):=by
     have h1:=HN.out;have ho:Vf.rM x=9:=Ab.out;rw[ho,if_neg (by decide)] at h1;cases h1;exact⟨rfl,rfl⟩
    go_wp2
    have hX:=jd wm.out (.int .i64 9) (.int .i64 0) (.int .i64 (k:Int));obtain⟨⟨g0,g1,g2⟩,_⟩:=aP ((Below.heap_alloc _ (.cells #[.int .i64 x.ty,.int .i64 x.cap] 36) _ (lt_of_block hX)).trans hX);refine bodyPost_ret (v:=gM 9 0 (k:Int)) (by simp[results,Tryz.results16,go_sem,g0,g1,g2]) rfl ?_;rw[HE.out.1,HE.out.2];exact⟨rfl,ai (af (af (af HG.out (by omega) _ _) (by omega) _ _) (by omega) _ _) _⟩
   | true =>
    by_cases hc:x.cap<1∨20<x.cap
    ·have HE:Hid (er=3∧num=(k:Int)):=by
      have h1:=HN.out;have ho:Vf.rM x=3:=by rw[Ab.out,if_neg (by decide),if_pos hc]
      rw[ho,if_neg (by decide)] at h1;cases h1;exact⟨rfl,rfl⟩
     rcases hc with hc | hc
     ·have d1:decide (x.cap<1)=true:=by simpa using hc
      go_wp2
      have hX:=jd wm.out (.int .i64 3) (.int .i64 0) (.int .i64 (k:Int));obtain⟨⟨g0,g1,g2⟩,_⟩:=aP ((Below.heap_alloc _ (.cells #[.int .i64 x.ty,.int .i64 x.cap] 36) _ (lt_of_block hX)).trans hX);refine bodyPost_ret (v:=gM 3 0 (k:Int)) (by simp[results,Tryz.results16,go_sem,g0,g1,g2]) rfl ?_;rw[HE.out.1,HE.out.2];exact⟨rfl,ai (af (af (af HG.out (by omega) _ _) (by omega) _ _) (by omega) _ _) _⟩
     ·have d1:decide (x.cap<1)=false:=by simp;omega
      have d2:decide (20<x.cap)=true:=by simpa using hc
      go_wp2
      have hX:=jd wm.out (.int .i64 3) (.int .i64 0) (.int .i64 (k:Int));obtain⟨⟨g0,g1,g2⟩,_⟩:=aP ((Below.heap_alloc _ (.cells #[.int .i64 x.ty,.int .i64 x.cap] 36) _ (lt_of_block hX)).trans hX);refine bodyPost_ret (v:=gM 3 0 (k:Int)) (by simp[results,Tryz.results16,go_sem,g0,g1,g2]) rfl ?_;rw[HE.out.1,HE.out.2];exact⟨rfl,ai (af (af (af HG.out (by omega) _ _) (by omega) _ _) (by omega) _ _) _⟩
    ·have d1:decide (x.cap<1)=false:=by simp;omega
     have d2:decide (20<x.cap)=false:=by simp;omega
     have HE:Hid ((er,num)=((Vf.gT Vf.rM (m.boxes.drop (k+1)) (k+1)).1,((Vf.gT Vf.rM (m.boxes.drop (k+1)) (k+1)).2:Int))):=by
      have h1:=HN.out;have ho:Vf.rM x=0:=by rw[Ab.out,if_neg (by decide),if_neg hc]
      rw[ho,if_pos rfl] at h1;exact h1
     clear hc;go_wp2
     go_roundw
     case rel=>exact⟨k+1,by go_num,hlt,ai HA.out.grown _,HE.out⟩
     case measure=>simp[intOf];omega
  ·have HE:Hid (er=0∧num=0):=by
    have h1:=HA.out.rest;rw[List.drop_eq_nil_of_le (by omega)] at h1;cases h1;exact⟨rfl,rfl⟩
   go_wp2
   refine bodyPost_ret (v:=gM 0 0 0) (by simp[results,Tryz.results16,go_sem,z0,z1,z2]) rfl ?_;rw[HE.out.1,HE.out.2];exact⟨rfl,af (af (af HG.out (by omega) _ _) (by omega) _ _) (by omega) _ _⟩
structure Zu (m:Vf.Md) (W0:World) (er:Int) (k:Nat) (W:World):Prop where
 le:k≤m.units.length
 grown:W0.grownBy W none
 rest:er=if (m.units.drop k).any (fun u=>u.kind==4) then 0 else 6
theorem Zv (m:Vf.Md)(ab au:Option Addr)(cb cu B:Nat)(w:World)(hmd:Hid (aD B w m ab au))(hB:B≤w.heap.size)(er:Int)(hr:Hid (er=Vf.H7 m)) :
  Calls Tryz.prog 18 #[aT m ab au cb cu] w fun e w'=>e=.returned (gM er 0 0)∧w.grownBy w' none:=by
 have J5:=hmd.out.few.2;obtain⟨W0,hW0⟩:∃ W0:World,(w.alloc (vv m ab au cb cu)).alloc aU=W0:=⟨_,rfl⟩;have HT:Hid (w.grownBy W0 none):=by rw[← hW0];exact aF _ _ _
 have Eh:Hid (W0.heap[w.heap.size+1]?=some aU):=by rw[← hW0];exact zC _ _ _
 have HW0:=hide hW0;clear hW0;go_enter Tryz.func18,Tryz.ntmps18
 go_wp2
 go_loopw [9] (fun v wr=>∃ k:Nat,v=.int .i64 k∧Zu m W0 er k wr) (fun v _=>m.units.length - (intOf v).toNat)
 case atStart=>exact⟨0,rfl,Nat.zero_le _,by rw[← HW0.out];exact World.grownBy.refl _ _,hr.out⟩
 case round =>
  obtain⟨k,rfl,hA⟩:=hrel;have HA:=hide hA;have hk:=hA.le;have HG:Hid (w.grownBy wr none):=aJ HT.out HA.out.grown;have hwz:wr.heap[w.heap.size+1]?=some aU:=(aC HA.out.grown (lt_of_block Eh.out)).trans Eh.out;obtain⟨⟨z0,z1,z2⟩,y0,y1,y2⟩:=aP hwz;have hzl:=lt_of_block hwz;have wm:=hide hwz;clear hA hwz;by_cases hlt:k<m.units.length
  ·obtain⟨u,hu⟩:∃ u,m.units[k]?=some u:=⟨_,List.getElem?_eq_getElem hlt⟩
   obtain⟨b,off,al,cl,ac,cc,ha,hb,jB,u0,u1,u2,u3,u4,u5⟩:=(hmd.out.low (aK HG.out hB)).units k u hu;have HN:Hid (er=if (u.kind==4 || (m.units.drop (k+1)).any (fun u=>u.kind==4)) then 0 else 6):=by
    unfold Hid;obtain⟨hk',hte⟩:=List.getElem?_eq_some_iff.1 hu;rw[HA.out.rest,List.drop_eq_getElem_cons hk',hte,List.any_cons]
   have BX:=hide ha;have hk1:(k:Int)<(m.units.length:Int):=by omega
   clear hu ha jB;rw[BX.out];cases e4:(u.kind==4) with
   | true =>
    have HE:Hid (er=0):=by rw[HN.out,e4];rfl
    go_wp2
    have hX:=jd wm.out (.int .i64 0) (.int .i64 0) (.int .i64 0);obtain⟨⟨g0,g1,g2⟩,_⟩:=aP ((Below.heap_alloc _ (gP u al ac cl cc) _ (lt_of_block hX)).trans hX);refine bodyPost_ret (v:=gM 0 0 0) (by simp[results,Tryz.results18,go_sem,g0,g1,g2]) rfl ?_;rw[HE.out];exact⟨rfl,ai (af (af (af HG.out (by omega) _ _) (by omega) _ _) (by omega) _ _) _⟩
   | false =>
    have HE:Hid (er=if (m.units.drop (k+1)).any (fun u=>u.kind==4) then 0 else 6):=by rw[HN.out,e4];rfl
    go_wp2
    go_roundw
    case rel=>exact⟨k+1,by go_num,hlt,ai HA.out.grown _,HE.out⟩
    case measure=>simp[intOf];omega
  ·have HE:Hid (er=6):=by unfold Hid;rw[HA.out.rest,List.drop_eq_nil_of_le (by omega)];rfl
   go_wp2
   refine bodyPost_ret (v:=gM 6 0 0) (by simp[results,Tryz.results18,go_sem,z0,z1,z2]) rfl ?_;rw[HE.out];exact⟨rfl,af (af (af HG.out (by omega) _ _) (by omega) _ _) (by omega) _ _⟩
namespace Vf
def looks (m:Md):Nat→Int × Int × Int
 | 0=>(wR m,0,0)
 | 1=>((Fj m).1,0,((Fj m).2:Int))
 | 2=>uw (rY m) m.units 0
 | 3=>(H7 m,0,0)
 | 4=>uw (rH m) m.units 0
 | _=>((EW m).1,0,((EW m).2:Int))
def from' (m:Md):Nat→Nat→Int × Int × Int
 | 0,_=>(0,0,0)
 | n+1,k=>if (looks m k).1=0 then from' m n (k+1) else looks m k
def verify (m:Md):Int × Int × Int:=from' m 6 0
theorem RG (f:Un→Int × Nat):∀ (l:List Un) (k:Nat),(uw f l k).1=0→∀ u ∈ l,(f u).1=0
 | [],_,_,u,hu=>by cases hu
 | v :: l,k,h,u,hu=>by
  unfold uw at h;split at h
  ·rename_i h0
   rcases List.mem_cons.1 hu with rfl | hu
   ·exact h0
   ·exact RG f l (k+1) h u hu
  ·rename_i h0
   exact absurd h h0
theorem MM {α:Type}(f:α→Int):∀ (l:List α) (k:Nat),(gT f l k).1=0→∀ x ∈ l,f x=0
 | [],_,_,u,hu=>by cases hu
 | v :: l,k,h,u,hu=>by
  unfold gT at h;split at h
  ·rename_i h0
   rcases List.mem_cons.1 hu with rfl | hu
   ·exact h0
   ·exact MM f l (k+1) h u hu
  ·rename_i h0
   exact absurd h h0
theorem Zw {m:Md}{u:Un}(h:(rY m u).1=0):jr m u=0∧Forms m u:=by
 unfold rY at h;split at h
 ·rename_i h0
  exact⟨h0,fun c hc=>MM _ _ _ h c hc⟩
 ·rename_i h0
  exact absurd h h0
end Vf
theorem Fp {m:Vf.Md}(h0:(Vf.looks m 0).1=0)(h1:(Vf.looks m 1).1=0)(h2:(Vf.looks m 2).1=0):Rt m∧m.boxes.length≤30:=by
 have h0':Vf.wR m=0:=h0;unfold Vf.wR at h0';split at h0'
 ·cases h0'
 ·rename_i hs
  refine⟨⟨by omega,fun k b hb=>?_,fun k u hu=>Vf.Zw (Vf.RG _ _ _ h2 u (List.mem_of_getElem? hu))⟩,by omega⟩;have:=Vf.MM _ _ _ (show (Vf.gT Vf.rM m.boxes 0).1=0 from h1) b (List.mem_of_getElem? hb);unfold Vf.rM at this;split at this
  ·cases this
  ·rename_i hp
   simpa using hp
abbrev Zx (m:Vf.Md) (ab au:Option Addr) (cb cu:Nat):Array Value:=#[.func (.func 15) #[aT m ab au cb cu] #[],.func (.func 16) #[aT m ab au cb cu] #[],.func (.func 17) #[aT m ab au cb cu] #[],.func (.func 18) #[aT m ab au cb cu] #[],.func (.func 19) #[aT m ab au cb cu] #[],.func (.func 20) #[aT m ab au cb cu] #[]]
abbrev J6 (m:Vf.Md) (ab au:Option Addr) (cb cu:Nat):Obj:=.cells (Zx m ab au cb cu) 51 (0,0)
structure Zy (m:Vf.Md) (W0:World) (r:Int × Int × Int) (k:Nat) (W:World):Prop where
 le:k≤6
 grown:W0.grownBy W none
 ok:∀ j,j<k→(Vf.looks m j).1=0
 rest:r=Vf.from' m (6 - k) k
theorem Zz (m:Vf.Md)(ab au:Option Addr)(cb cu B N:Nat)(w:World)(hmd:Hid (aD B w m ab au))(hB:B≤w.heap.size)(hN:Hid (w.heap[N]?=some (J6 m ab au cb cu)))(r:Int × Int × Int)(hr:Hid (r=Vf.verify m)) :
  Calls Tryz.prog 14 #[.slice (some ⟨N,0,none⟩) 6 6] w fun e w'=>e=.returned (gM r.1 r.2.1 r.2.2)∧w.grownBy w' none:=by
 obtain⟨W0,hW0⟩:∃ W0:World,w.alloc aU=W0:=⟨_,rfl⟩;have HT:Hid (w.grownBy W0 none):=by rw[← hW0];exact ai (World.grownBy.refl _ _) _
 have Eh:Hid (W0.heap[w.heap.size]?=some aU):=by rw[← hW0];exact heap_alloc_new _ _
 have HW0:=hide hW0;clear hW0;go_enter Tryz.func14,Tryz.ntmps14
 go_wp2
 go_loopw [8] (fun v wr=>∃ k:Nat,v=.int .i64 k∧Zy m W0 r k wr) (fun v _=>6 - (intOf v).toNat)
 case atStart=>exact⟨0,rfl,by omega,by rw[← HW0.out];exact World.grownBy.refl _ _,fun j hj=>by omega,hr.out⟩
 case round =>
  obtain⟨k,rfl,hA⟩:=hrel;have HA:=hide hA;have hk:=hA.le;have HG:Hid (w.grownBy wr none):=aJ HT.out HA.out.grown;have hwz:wr.heap[w.heap.size]?=some aU:=(aC HA.out.grown (lt_of_block Eh.out)).trans Eh.out;obtain⟨⟨z0,z1,z2⟩,y0,y1,y2⟩:=aP hwz;have hzl:=lt_of_block hwz;have wm:=hide hwz;have hLk:wr.heap[N]?=some (J6 m ab au cb cu):=(aC HG.out (lt_of_block hN.out)).trans hN.out;have HM:Hid (aD B wr m ab au):=hmd.out.low (aK HG.out hB);have hBr:B≤wr.heap.size:=by omega
  obtain⟨e1,u1,n1,hl⟩:∃ e1 u1 n1,(e1,u1,n1)=Vf.looks m k:=⟨_,_,_,rfl⟩;have HL:=hide hl;clear hA hwz hl;rcases (by omega:k=0∨k=1∨k=2∨k=3∨k=4∨k=5∨k=6) with rfl | rfl | rfl | rfl | rfl | rfl | rfl
  ·skip
   have rJ:Hid (e1=Vf.wR m):=congrArg (fun x:Int × Int × Int=>x.1) HL.out;obtain rfl:u1=0:=congrArg (fun x:Int × Int × Int=>x.2.1) HL.out;obtain rfl:n1=0:=congrArg (fun x:Int × Int × Int=>x.2.2) HL.out;have ck:wr.cell? ⟨N,0,none⟩=some (.func (.func 15) #[aT m ab au cb cu] #[]):=by simp[World.cell?,hLk]
   clear hLk;go_wp2_with fail
   refine (Zp m ab au cb cu _ e1 (hide rJ.out)).mono ?_;rintro e w2 ⟨rfl,hg2⟩;have HG2:Hid (W0.grownBy w2 none):=aJ HA.out.grown hg2;have tO:w2.heap[w.heap.size]?=some aU:=(aC hg2 hzl).trans wm.out;obtain⟨⟨p0,p1,p2⟩,q0,q1,q2⟩:=aP tO;have HW2:=hide tO;have H9:=lt_of_block tO;clear hg2 tO ck z0 z1 z2 y0 y1 y2;by_cases h0:e1=0
   ·have e0:(e1 != 0)=false:=by simpa using h0
    have HN:Hid (r=Vf.from' m (6 - (0+1)) (0+1)):=by
     have:=HA.out.rest;rw[show 6 - 0=(6 - (0+1))+1 from rfl,Vf.from',← HL.out,if_pos h0] at this;exact this
    have HO:Hid (∀ j,j<0+1→(Vf.looks m j).1=0):=fun j hj=>by
     by_cases hj':j<0
     ·exact HA.out.ok j hj'
     ·obtain rfl:j=0:=by omega
      rw[← HL.out];exact h0
    clear h0;go_wp2
    go_roundw
    case rel=>exact⟨0+1,rfl,by omega,ai HG2.out _,HO.out,HN.out⟩
    case measure=>simp[intOf]
   ·have e0:(e1 != 0)=true:=by simpa using h0
    have HN:Hid (r=(e1,0,0)):=by
     have:=HA.out.rest;rw[show 6 - 0=(6 - (0+1))+1 from rfl,Vf.from',← HL.out,if_neg h0] at this;exact this
    clear h0;go_wp2
    have hX:=jd HW2.out (.int .i64 e1) (.int .i64 0) (.int .i64 0);obtain⟨⟨g0,g1,g2⟩,_⟩:=aP ((Below.heap_alloc _ (.cells #[.int .i64 e1,.int .i64 0,.int .i64 0] 28) _ (lt_of_block hX)).trans hX);refine bodyPost_ret (v:=gM e1 0 0) (by simp[results,Tryz.results14,go_sem,g0,g1,g2]) rfl ?_;rw[HN.out];exact⟨rfl,ai (af (af (af (aJ HT.out HG2.out) (by omega) _ _) (by omega) _ _) (by omega) _ _) _⟩
  ·skip
   have rJ:Hid ((e1,n1)=((Vf.Fj m).1,((Vf.Fj m).2:Int))):=congrArg (fun x:Int × Int × Int=>(x.1,x.2.2)) HL.out;obtain rfl:u1=0:=congrArg (fun x:Int × Int × Int=>x.2.1) HL.out;have ck:wr.cell? ⟨N,1,none⟩=some (.func (.func 16) #[aT m ab au cb cu] #[]):=by simp[World.cell?,hLk]
   clear hLk;go_wp2_with fail
   refine (Zr m ab au cb cu B _ HM hBr e1 n1 (hide rJ.out)).mono ?_;rintro e w2 ⟨rfl,hg2⟩;have HG2:Hid (W0.grownBy w2 none):=aJ HA.out.grown hg2;have tO:w2.heap[w.heap.size]?=some aU:=(aC hg2 hzl).trans wm.out;obtain⟨⟨p0,p1,p2⟩,q0,q1,q2⟩:=aP tO;have HW2:=hide tO;have H9:=lt_of_block tO;clear hg2 tO ck z0 z1 z2 y0 y1 y2;by_cases h0:e1=0
   ·have e0:(e1 != 0)=false:=by simpa using h0
    have HN:Hid (r=Vf.from' m (6 - (1+1)) (1+1)):=by
     have:=HA.out.rest;rw[show 6 - 1=(6 - (1+1))+1 from rfl,Vf.from',← HL.out,if_pos h0] at this;exact this
    have HO:Hid (∀ j,j<1+1→(Vf.looks m j).1=0):=fun j hj=>by
     by_cases hj':j<1
     ·exact HA.out.ok j hj'
     ·obtain rfl:j=1:=by omega
      rw[← HL.out];exact h0
    clear h0;go_wp2
    go_roundw
    case rel=>exact⟨1+1,rfl,by omega,ai HG2.out _,HO.out,HN.out⟩
    case measure=>simp[intOf]
   ·have e0:(e1 != 0)=true:=by simpa using h0
    have HN:Hid (r=(e1,0,n1)):=by
     have:=HA.out.rest;rw[show 6 - 1=(6 - (1+1))+1 from rfl,Vf.from',← HL.out,if_neg h0] at this;exact this
    clear h0;go_wp2
    have hX:=jd HW2.out (.int .i64 e1) (.int .i64 0) (.int .i64 n1);obtain⟨⟨g0,g1,g2⟩,_⟩:=aP ((Below.heap_alloc _ (.cells #[.int .i64 e1,.int .i64 0,.int .i64 n1] 28) _ (lt_of_block hX)).trans hX);refine bodyPost_ret (v:=gM e1 0 n1) (by simp[results,Tryz.results14,go_sem,g0,g1,g2]) rfl ?_;rw[HN.out];exact⟨rfl,ai (af (af (af (aJ HT.out HG2.out) (by omega) _ _) (by omega) _ _) (by omega) _ _) _⟩
  ·skip
   have hmu:m.units.length≤30:=by
    have h0:Vf.wR m=0:=HA.out.ok 0 (by omega);unfold Vf.wR at h0;split at h0
    ·cases h0
    ·omega
   have ck:wr.cell? ⟨N,2,none⟩=some (.func (.func 17) #[aT m ab au cb cu] #[]):=by simp[World.cell?,hLk]
   clear hLk;go_wp2_with fail
   refine (Y5 m ab au cb cu B _ HM hBr hmu e1 u1 n1 HL).mono ?_;rintro e w2 ⟨rfl,hg2⟩;have HG2:Hid (W0.grownBy w2 none):=aJ HA.out.grown hg2;have tO:w2.heap[w.heap.size]?=some aU:=(aC hg2 hzl).trans wm.out;obtain⟨⟨p0,p1,p2⟩,q0,q1,q2⟩:=aP tO;have HW2:=hide tO;have H9:=lt_of_block tO;clear hg2 tO ck z0 z1 z2 y0 y1 y2;by_cases h0:e1=0
   ·have e0:(e1 != 0)=false:=by simpa using h0
    have HN:Hid (r=Vf.from' m (6 - (2+1)) (2+1)):=by
     have:=HA.out.rest;rw[show 6 - 2=(6 - (2+1))+1 from rfl,Vf.from',← HL.out,if_pos h0] at this;exact this
    have HO:Hid (∀ j,j<2+1→(Vf.looks m j).1=0):=fun j hj=>by
     by_cases hj':j<2
     ·exact HA.out.ok j hj'
     ·obtain rfl:j=2:=by omega
      rw[← HL.out];exact h0
    clear h0;go_wp2
    go_roundw
    case rel=>exact⟨2+1,rfl,by omega,ai HG2.out _,HO.out,HN.out⟩
    case measure=>simp[intOf]
   ·have e0:(e1 != 0)=true:=by simpa using h0
    have HN:Hid (r=(e1,u1,n1)):=by
     have:=HA.out.rest;rw[show 6 - 2=(6 - (2+1))+1 from rfl,Vf.from',← HL.out,if_neg h0] at this;exact this
    clear h0;go_wp2
    have hX:=jd HW2.out (.int .i64 e1) (.int .i64 u1) (.int .i64 n1);obtain⟨⟨g0,g1,g2⟩,_⟩:=aP ((Below.heap_alloc _ (.cells #[.int .i64 e1,.int .i64 u1,.int .i64 n1] 28) _ (lt_of_block hX)).trans hX);refine bodyPost_ret (v:=gM e1 u1 n1) (by simp[results,Tryz.results14,go_sem,g0,g1,g2]) rfl ?_;rw[HN.out];exact⟨rfl,ai (af (af (af (aJ HT.out HG2.out) (by omega) _ _) (by omega) _ _) (by omega) _ _) _⟩
  ·skip
   have rJ:Hid (e1=Vf.H7 m):=congrArg (fun x:Int × Int × Int=>x.1) HL.out;obtain rfl:u1=0:=congrArg (fun x:Int × Int × Int=>x.2.1) HL.out;obtain rfl:n1=0:=congrArg (fun x:Int × Int × Int=>x.2.2) HL.out;have ck:wr.cell? ⟨N,3,none⟩=some (.func (.func 18) #[aT m ab au cb cu] #[]):=by simp[World.cell?,hLk]
   clear hLk;go_wp2_with fail
   refine (Zv m ab au cb cu B _ HM hBr e1 (hide rJ.out)).mono ?_;rintro e w2 ⟨rfl,hg2⟩;have HG2:Hid (W0.grownBy w2 none):=aJ HA.out.grown hg2;have tO:w2.heap[w.heap.size]?=some aU:=(aC hg2 hzl).trans wm.out;obtain⟨⟨p0,p1,p2⟩,q0,q1,q2⟩:=aP tO;have HW2:=hide tO;have H9:=lt_of_block tO;clear hg2 tO ck z0 z1 z2 y0 y1 y2;by_cases h0:e1=0
   ·have e0:(e1 != 0)=false:=by simpa using h0
    have HN:Hid (r=Vf.from' m (6 - (3+1)) (3+1)):=by
     have:=HA.out.rest;rw[show 6 - 3=(6 - (3+1))+1 from rfl,Vf.from',← HL.out,if_pos h0] at this;exact this
    have HO:Hid (∀ j,j<3+1→(Vf.looks m j).1=0):=fun j hj=>by
     by_cases hj':j<3
     ·exact HA.out.ok j hj'
     ·obtain rfl:j=3:=by omega
      rw[← HL.out];exact h0
    clear h0;go_wp2
    go_roundw
    case rel=>exact⟨3+1,rfl,by omega,ai HG2.out _,HO.out,HN.out⟩
    case measure=>simp[intOf]
   ·have e0:(e1 != 0)=true:=by simpa using h0
    have HN:Hid (r=(e1,0,0)):=by
     have:=HA.out.rest;rw[show 6 - 3=(6 - (3+1))+1 from rfl,Vf.from',← HL.out,if_neg h0] at this;exact this
    clear h0;go_wp2
    have hX:=jd HW2.out (.int .i64 e1) (.int .i64 0) (.int .i64 0);obtain⟨⟨g0,g1,g2⟩,_⟩:=aP ((Below.heap_alloc _ (.cells #[.int .i64 e1,.int .i64 0,.int .i64 0] 28) _ (lt_of_block hX)).trans hX);refine bodyPost_ret (v:=gM e1 0 0) (by simp[results,Tryz.results14,go_sem,g0,g1,g2]) rfl ?_;rw[HN.out];exact⟨rfl,ai (af (af (af (aJ HT.out HG2.out) (by omega) _ _) (by omega) _ _) (by omega) _ _) _⟩
  ·skip
   have HR:Hid (Rt m):=(Fp (HA.out.ok 0 (by omega)) (HA.out.ok 1 (by omega)) (HA.out.ok 2 (by omega))).1;have ck:wr.cell? ⟨N,4,none⟩=some (.func (.func 19) #[aT m ab au cb cu] #[]):=by simp[World.cell?,hLk]
   clear hLk;go_wp2_with fail
   refine (Y6 m ab au cb cu B _ HM hBr HR e1 u1 n1 HL).mono ?_;rintro e w2 ⟨rfl,hg2⟩;have HG2:Hid (W0.grownBy w2 none):=aJ HA.out.grown hg2;have tO:w2.heap[w.heap.size]?=some aU:=(aC hg2 hzl).trans wm.out;obtain⟨⟨p0,p1,p2⟩,q0,q1,q2⟩:=aP tO;have HW2:=hide tO;have H9:=lt_of_block tO;clear hg2 tO ck z0 z1 z2 y0 y1 y2;by_cases h0:e1=0
   ·have e0:(e1 != 0)=false:=by simpa using h0
    have HN:Hid (r=Vf.from' m (6 - (4+1)) (4+1)):=by
     have:=HA.out.rest;rw[show 6 - 4=(6 - (4+1))+1 from rfl,Vf.from',← HL.out,if_pos h0] at this;exact this
    have HO:Hid (∀ j,j<4+1→(Vf.looks m j).1=0):=fun j hj=>by
     by_cases hj':j<4
     ·exact HA.out.ok j hj'
     ·obtain rfl:j=4:=by omega
      rw[← HL.out];exact h0
    clear h0;go_wp2
    go_roundw
    case rel=>exact⟨4+1,rfl,by omega,ai HG2.out _,HO.out,HN.out⟩
    case measure=>simp[intOf]
   ·have e0:(e1 != 0)=true:=by simpa using h0
    have HN:Hid (r=(e1,u1,n1)):=by
     have:=HA.out.rest;rw[show 6 - 4=(6 - (4+1))+1 from rfl,Vf.from',← HL.out,if_neg h0] at this;exact this
    clear h0;go_wp2
    have hX:=jd HW2.out (.int .i64 e1) (.int .i64 u1) (.int .i64 n1);obtain⟨⟨g0,g1,g2⟩,_⟩:=aP ((Below.heap_alloc _ (.cells #[.int .i64 e1,.int .i64 u1,.int .i64 n1] 28) _ (lt_of_block hX)).trans hX);refine bodyPost_ret (v:=gM e1 u1 n1) (by simp[results,Tryz.results14,go_sem,g0,g1,g2]) rfl ?_;rw[HN.out];exact⟨rfl,ai (af (af (af (aJ HT.out HG2.out) (by omega) _ _) (by omega) _ _) (by omega) _ _) _⟩
  ·skip
   have HR:Hid (Rt m):=(Fp (HA.out.ok 0 (by omega)) (HA.out.ok 1 (by omega)) (HA.out.ok 2 (by omega))).1;have hnb:m.boxes.length≤30:=(Fp (HA.out.ok 0 (by omega)) (HA.out.ok 1 (by omega)) (HA.out.ok 2 (by omega))).2;have rJ:Hid ((e1,n1)=((Vf.EW m).1,((Vf.EW m).2:Int))):=congrArg (fun x:Int × Int × Int=>(x.1,x.2.2)) HL.out;obtain rfl:u1=0:=congrArg (fun x:Int × Int × Int=>x.2.1) HL.out;have ck:wr.cell? ⟨N,5,none⟩=some (.func (.func 20) #[aT m ab au cb cu] #[]):=by simp[World.cell?,hLk]
   clear hLk;go_wp2_with fail
   refine (Zf m ab au cb cu B _ HM hBr HR hnb e1 n1 (hide rJ.out)).mono ?_;rintro e w2 ⟨rfl,hg2⟩;have HG2:Hid (W0.grownBy w2 none):=aJ HA.out.grown hg2;have tO:w2.heap[w.heap.size]?=some aU:=(aC hg2 hzl).trans wm.out;obtain⟨⟨p0,p1,p2⟩,q0,q1,q2⟩:=aP tO;have HW2:=hide tO;have H9:=lt_of_block tO;clear hg2 tO ck z0 z1 z2 y0 y1 y2;by_cases h0:e1=0
   ·have e0:(e1 != 0)=false:=by simpa using h0
    have HN:Hid (r=Vf.from' m (6 - (5+1)) (5+1)):=by
     have:=HA.out.rest;rw[show 6 - 5=(6 - (5+1))+1 from rfl,Vf.from',← HL.out,if_pos h0] at this;exact this
    have HO:Hid (∀ j,j<5+1→(Vf.looks m j).1=0):=fun j hj=>by
     by_cases hj':j<5
     ·exact HA.out.ok j hj'
     ·obtain rfl:j=5:=by omega
      rw[← HL.out];exact h0
    clear h0;go_wp2
    go_roundw
    case rel=>exact⟨5+1,rfl,by omega,ai HG2.out _,HO.out,HN.out⟩
    case measure=>simp[intOf]
   ·have e0:(e1 != 0)=true:=by simpa using h0
    have HN:Hid (r=(e1,0,n1)):=by
     have:=HA.out.rest;rw[show 6 - 5=(6 - (5+1))+1 from rfl,Vf.from',← HL.out,if_neg h0] at this;exact this
    clear h0;go_wp2
    have hX:=jd HW2.out (.int .i64 e1) (.int .i64 0) (.int .i64 n1);obtain⟨⟨g0,g1,g2⟩,_⟩:=aP ((Below.heap_alloc _ (.cells #[.int .i64 e1,.int .i64 0,.int .i64 n1] 28) _ (lt_of_block hX)).trans hX);refine bodyPost_ret (v:=gM e1 0 n1) (by simp[results,Tryz.results14,go_sem,g0,g1,g2]) rfl ?_;rw[HN.out];exact⟨rfl,ai (af (af (af (aJ HT.out HG2.out) (by omega) _ _) (by omega) _ _) (by omega) _ _) _⟩
  ·have HN:Hid (r=(0,0,0)):=HA.out.rest
   clear hLk;go_wp2
   refine bodyPost_ret (v:=gM 0 0 0) (by simp[results,Tryz.results14,go_sem,z0,z1,z2]) rfl ?_;rw[HN.out];exact⟨rfl,af (af (af HG.out (by omega) _ _) (by omega) _ _) (by omega) _ _⟩
theorem ZA (m:Vf.Md)(ab au:Option Addr)(cb cu B:Nat)(w:World)(hmd:Hid (aD B w m ab au))(hB:B≤w.heap.size)(r:Int × Int × Int)(hr:Hid (r=Vf.verify m)) :
  Calls Tryz.prog 7 #[aT m ab au cb cu] w fun e w'=>e=.returned (gM r.1 r.2.1 r.2.2)∧w.grownBy w' none:=by
 have ji:∀ (fn:Fn) (first cap:Array Value) (w:World),(Instr.makeFunc fn first cap).run Tryz.prog w=.ok (.func fn first cap) w:=fun _ _ _ _=>rfl;obtain⟨W4,rP⟩:∃ W4:World,(((w.alloc (.cells #[.slice ab m.boxes.length cb,.slice au m.units.length cu] 25)).alloc aU).alloc (vv m ab au cb cu)).alloc (J6 m ab au cb cu)=W4:=⟨_,rfl⟩;have HT:Hid (w.grownBy W4 none):=by rw[← rP];exact ai (ai (aF _ _ _) _) _
 have HN:Hid (W4.heap[w.heap.size+1+1+1]?=some (J6 m ab au cb cu)):=by
  have e:(((w.alloc (.cells #[.slice ab m.boxes.length cb,.slice au m.units.length cu] 25)).alloc aU).alloc (vv m ab au cb cu)).heap.size=w.heap.size+1+1+1:=by simp
  rw[← rP,← e];exact heap_alloc_new _ _
 have HZ:Hid (W4.heap[w.heap.size+1]?=some aU):=by
  rw[← rP];exact (Below.heap_alloc _ _ _ (by simp)).trans ((Below.heap_alloc _ _ _ (by simp)).trans (zC _ _ _))
 have HM:Hid (aD B W4 m ab au):=hmd.out.low (aK HT.out hB);have xC:=hide rP;have tK:=HT.out.size;clear rP;go_enter Tryz.func7,Tryz.ntmps7
 go_wp2_with fail
 rw[xC.out];refine (Zz m ab au cb cu B (w.heap.size+1+1+1) _ HM (by omega) HN r hr).mono ?_;rintro e w2 ⟨rfl,hg2⟩;have HG2:Hid (w.grownBy w2 none):=aJ HT.out hg2;have hwz:w2.heap[w.heap.size+1]?=some aU:=(aC hg2 (lt_of_block HZ.out)).trans HZ.out;obtain⟨⟨z0,z1,z2⟩,y0,y1,y2⟩:=aP hwz;clear hg2 hwz;go_wp2
 refine bodyPost_ret (v:=gM r.1 r.2.1 r.2.2) (by simp[results,Tryz.results7,go_sem,z0,z1,z2]) rfl ?_;exact⟨rfl,af (af (af HG2.out (by omega) _ _) (by omega) _ _) (by omega) _ _⟩
end Go.Proofs.YtbdpdjcdhclbfaaGreat
namespace Go.Proofs.YtbdpdjcdhclbfaaGreat
namespace Vf
def J7:Un:=⟨4,0,[],0,0,[⟨1,0,1⟩,⟨28,0,0⟩,⟨25,0,0⟩]⟩
theorem MN {m:Md}:verify m=(0,0,0) ↔ ∀ k,k<6→(looks m k).1=0:=by
 have key:∀ n k,(from' m n k=(0,0,0)→∀ j,k≤j→j<k+n→(looks m j).1=0)∧((∀ j,k≤j→j<k+n→(looks m j).1=0)→from' m n k=(0,0,0)):=by
  intro n;induction n with
  | zero=>intro k;exact⟨fun _ j h1 h2=>by omega,fun _=>rfl⟩
  | succ n ih =>
   intro k;have ih':=ih (k+1);refine⟨fun h j h1 h2=>?_,fun h=>?_⟩
   ·unfold from' at h
    split at h
    ·rename_i h0
     by_cases hj:j=k
     ·rw[hj];exact h0
     ·exact ih'.1 h j (by omega) (by omega)
    ·rename_i h0
     exact absurd (by rw[h]) h0
   ·unfold from'
    rw[if_pos (h k (Nat.le_refl _) (by omega))];exact ih'.2 (fun j h1 h2=>h j (by omega) (by omega))
 exact⟨fun h k hk=>(key 6 0).1 h k (Nat.zero_le _) (by omega),fun h=>(key 6 0).2 (fun j _ hj=>h j (by omega))⟩
structure uR (m n:Md):Prop where
 boxes:n.boxes=m.boxes
 len:n.units.length=m.units.length
 same:∀ (k:Nat) (u v:Un),m.units[k]?=some u→n.units[k]?=some v→v=u∨(u.kind=4∧v=J7)
theorem uR.at {m n:Md}(h:uR m n){k:Nat}{v:Un}(hv:n.units[k]?=some v):∃ u,m.units[k]?=some u∧(v=u∨(u.kind=4∧v=J7)):=by
 have hk:k<m.units.length:=by rw[← h.len];exact (List.getElem?_eq_some_iff.1 hv).1
 exact⟨_,List.getElem?_eq_getElem hk,h.same k _ v (List.getElem?_eq_getElem hk) hv⟩
theorem uR.is {m n:Md}(h:uR m n)(kd a:Int):Vf.is n kd a=Vf.is m kd a:=by
 unfold Vf.is;cases hn:n.units[a.toNat]? with
 | none =>
  have:m.units[a.toNat]?=none:=by
   rw[List.getElem?_eq_none_iff] at hn ⊢;rw[← h.len];exact hn
  rw[this]
 | some v =>
  obtain⟨u,hu,h1 | ⟨h1,h2⟩⟩:=h.at hn
  ·rw[hu,h1]
  ·rw[hu,h2]
   simp[J7,h1]
theorem uR.unit {m n:Md}(h:uR m n){kd a:Int}(hk:kd≠4)(hi:Vf.is m kd a=true):Vf.unit n a=Vf.unit m a:=by
 obtain⟨u,hu,hkd,h0⟩:=yh hi;have hi':Vf.is n kd a=true:=by rw[h.is];exact hi
 obtain⟨v,hv,hkv,_⟩:=yh hi';unfold Vf.unit;rw[hu,hv];rcases h.same _ u v hu hv with h1 | ⟨h1,_⟩
 ·rw[h1]
 ·exact absurd (hkd.symm.trans h1) hk
theorem uR.jr {m n:Md}(h:uR m n)(u:Un):Vf.jr n u=Vf.jr m u:=by
 unfold Vf.jr Vf.typed;have:(fun t=>plain t || Vf.is n 3 (t - 10))=fun t=>plain t || Vf.is m 3 (t - 10):=by funext t;rw[h.is]
 rw[this]
theorem uR.ranged {m n:Md}(h:uR m n)(u:Un)(c:Ins):Vf.ranged n u c=Vf.ranged m u c:=by
 unfold Vf.ranged;rw[h.is,h.is,h.boxes]
theorem uR.aA {m n:Md}(h:uR m n)(u:Un)(c:Ins):Vf.aA n u c=Vf.aA m u c:=by
 unfold Vf.aA;rw[h.ranged]
theorem uR.jA {m n:Md}(h:uR m n){u:Un}{c:Ins}(hf:Vf.aA m u c=0){k:Kn}(hk:xN m k.st):Vf.jA n u c k=Vf.jA m u c k:=by
 obtain⟨_,_,hrg⟩:=yj hf;have hsp:Vf.speak n u c k.st=Vf.speak m u c k.st:=by
  unfold Vf.speak;by_cases h23:c.op=23
  ·have h2:Vf.is m 2 c.a=true:=by
    rw[← hrg];unfold Vf.ranged;rw[if_neg (by omega),if_neg (by omega),if_neg (by omega),if_pos h23]
   rw[if_pos h23,if_pos h23];unfold Vf.params;rw[h.unit (by decide) h2]
  ·rw[if_neg h23,if_neg h23]
   by_cases yR:c.op=29
   ·have h2:Vf.is m 3 c.a=true:=by
     rw[← hrg];unfold Vf.ranged;rw[if_neg (by omega),if_neg (by omega),if_neg (by omega),if_neg (by omega),if_pos yR]
    rw[if_pos yR,if_pos yR];unfold Vf.params;rw[h.unit (by decide) h2]
   ·rw[if_neg yR,if_neg yR]
    have hb:Vf.wH n c.a=Vf.wH m c.a:=by unfold Vf.wH;rw[h.boxes]
    rw[hb];have hres:Vf.resume n k.st=Vf.resume m k.st:=by
     unfold Vf.resume;cases hst:k.st with
     | nil=>rfl
     | cons p st1 =>
      show Vf.andThen (vW st1) _=Vf.andThen (vW st1) _
      cases st1 with
      | nil=>rfl
      | cons g st2 =>
       unfold vW pop;show Vf.andThen (if 10≤g then Except.ok (g,st2) else Except.error 9) _=Vf.andThen (if 10≤g then Except.ok (g,st2) else Except.error 9) _
       by_cases hg:10≤g
       ·rw[if_pos hg]
        have hgm:g ∈ k.st:=by rw[hst];simp
        rcases hk g hgm with h1 | ⟨_,h1⟩
        ·unfold plain at h1;simp at h1;omega
        ·show Vf.andThen (Vf.must (p==(Vf.unit n (g - 10)).takes) 9 st2) (Vf.put (Vf.unit n (g - 10)).result)=Vf.andThen (Vf.must (p==(Vf.unit m (g - 10)).takes) 9 st2) (Vf.put (Vf.unit m (g - 10)).result)
         rw[h.unit (by decide) h1]
       ·rw[if_neg hg]
        rfl
    rw[hres]
 unfold Vf.jA;rw[hsp]
theorem uR.look {m n:Md}(h:uR m n){u:Un}(hf:Forms m u){i:Nat}{s:S}(hI:Inv m u s∨∀ k,s.come i=some k→xN m k.st):Vf.look n u i s=Vf.look m u i s:=by
 unfold Vf.look;cases hc:s.come i with
 | none=>rfl
 | some k =>
  cases hx:u.code[i]? with
  | none=>rfl
  | some c =>
   have hg:xN m k.st:=by
    rcases hI with hI | hI
    ·exact (hI.come i k hc).2.1
    ·exact hI k hc
   show Vf.andThen (Vf.rT n u c k) _=Vf.andThen (Vf.rT m u c k) _
   unfold Vf.rT;rw[h.jA (hf c (List.mem_of_getElem? hx)) hg]
theorem ZB {m:Md}{u:Un}(hR:Rt m)(hu:Vf.jr m u=0)(hf:Forms m u){i:Nat}{row:List Nat}{come:Nat→Option Kn}{s':S}(hI:Inv m u ⟨come,i :: row⟩)(h:Vf.look m u i ⟨come,row⟩=.ok s'):Inv m u s':=by
 have hI2:Inv m u ⟨come,row⟩:=⟨hI.come,fun j hj=>hI.row j (List.mem_cons_of_mem _ hj)⟩;unfold Vf.look at h;split at h
 ·rename_i k c hk hc
  unfold Vf.andThen at h;split at h
  ·cases h
  ·rename_i k' hk'
   have hok:=hI.come i k hk;have hfm:=hf c (List.mem_of_getElem? hc);exact Lh (zT hR hu hfm hok.2 hk') hI2 (K8 hfm i) h
 ·cases h
  exact hI2
theorem uR.si {m n:Md}(h:uR m n){u:Un}(hR:Rt m)(hu:Vf.jr m u=0)(hf:Forms m u):∀ (f:Nat) (s:S),Inv m u s→Vf.si n u f s=Vf.si m u f s
 | 0,_,_=>rfl
 | f+1,⟨come,[]⟩,_=>rfl
 | f+1,⟨come,i :: row⟩,hI=>by
  have hl:=h.look hf (i:=i) (s:=⟨come,row⟩) (.inr (fun k hk=>(hI.come i k hk).2.1));unfold Vf.si;simp only;rw[hl];cases hr:Vf.look m u i ⟨come,row⟩ with
  | error e=>rfl
  | ok s'=>exact h.si hR hu hf f s' (ZB hR hu hf hI hr)
theorem ZC {m:Md}{u:Un}(hu:Vf.jr m u=0):Inv m u (start u):=by
 obtain⟨_,_,_,_,h5,_⟩:=EE (Ao hu).2.1;exact EK ⟨fun i k hk=>(by cases hk),fun i hi=>(by cases hi)⟩ h5 ⟨fun t ht=>(by cases ht),by simp⟩
theorem uR.rH {m n:Md}(h:uR m n){u:Un}(hR:Rt m)(hu:Vf.jr m u=0)(hf:Forms m u):Vf.rH n u=Vf.rH m u:=h.si hR hu hf _ _ (ZC hu)
theorem ZE (m:Md)(f:Nat)(n:Int)(hn:Vf.unit m n=J7)(l:LL):tq m f n l=l:=by
 cases f with
 | zero=>rfl
 | succ f =>
  show wP (tq m f) (Vf.unit m n).code l=l
  rw[hn];rfl
end Vf
end Go.Proofs.YtbdpdjcdhclbfaaGreat
