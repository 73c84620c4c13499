/- WHAT whole DOES: a unit's flow. -/
import Derived.Test.YthffafaoobpedaaGreatDoorM24
import Derived.Test.YthffafaoobpedaaGreatDoorM20
import Derived.Test.YthffafaoobpedaaGreatDoorM3
set_option maxRecDepth 100000
set_option maxHeartbeats 4000000
namespace Go.Proofs.YthffafaoobpedaaGreatDoor
open Go.RowKit
def fJ (er num:Int)(e:Ending):Prop:=e=if er=0 then .returned (.tuple #[]) else .panicked [bZ er num]
theorem WN:fJ 0 0 (.returned (.tuple #[])):=rfl
theorem MN {er num:Int}(h:er≠0):fJ er num (.panicked [bZ er num]):=by unfold fJ;rw [if_neg h]
def MO (c:FC)(B F:Nat)(er num:Int)(w:World)(gk:Nat)(W:World):Prop :=
 ∃ k n s,WF c B F W k n s∧Below B w W∧Inv c.m c.u s∧Vf.mu c.u.code.length s < gk∧Vf.mu c.u.code.length s≤3000000∧(er,num)=((Vf.fV c.m c.u gk s).1,((Vf.fV c.m c.u gk s).2:Int))
theorem vV {w:World}{N:Nat}{cs:Array Value}{t:TypeId}{fr:Nat × Nat}(h:w.heap[N]?=some (.cells cs t fr))(o:Nat)(v:Value):(w.setCell ⟨N,o,none⟩ v).heap[N]?=some (.cells (cs.setIfInBounds o v) t fr):=by
 simp only [World.setCell,Array.getElem?_modify,if_true,h,Option.map_some]
 rfl
theorem WF.front {c:FC}{B F i:Nat}{w:World}{k:Vf.Kn}{n:Int}{come:Nat→Option Vf.Kn}{rest:List Nat}{top:Option Addr}{rv rv':Value}(h:WF c B F w k n ⟨come,i :: rest⟩)(hF:aA c w F top k.st k.fl n rv)(hq:QR w B rv' rest):WF c B F ((w.setCell ⟨F,14,none⟩ (.int .i64 (i:Int))).setCell ⟨F,15,none⟩ rv').drew k (i:Int) ⟨come,rest⟩∧Below B w ((w.setCell ⟨F,14,none⟩ (.int .i64 (i:Int))).setCell ⟨F,15,none⟩ rv').drew:=by
 have hg:w.grownBy ((w.setCell ⟨F,14,none⟩ (.int .i64 (i:Int))).setCell ⟨F,15,none⟩ rv').drew (some F):=iQ (jG (jG (fC w F) 14 _) 15 _)
 have hne:=h.come.ne hF.blk
 have kc:=EY hg hF.blk (fun cs e=>by cases e)
 refine ⟨⟨h.env.grown hg,h.mB,⟨top,rv',⟨?_,hF.sk.keep kc⟩,hq.keep fun j hj=>hg.block j (hq.lt j hj).2 (fun e=>hq.ty hF.blk (fun cs fr e2=>by cases e2) (by rw [hj,← e]))⟩,h.come.keep (hg.block _ h.come.lt (by simp;omega)) kc⟩,below_grown hg (by have:=h.env.base;have:=h.env.lt;omega) (fun j e=>by cases e;exact h.env.base)⟩
 show ((w.setCell ⟨F,14,none⟩ (.int .i64 (i:Int))).setCell ⟨F,15,none⟩ rv').heap[F]?=_
 simp only [World.setCell,Array.getElem?_modify,if_true,hF.blk,Option.map_some]
 rfl
theorem WO (c:FC)(top dh:Option Addr)(k kn:Vf.Kn)(n:Int)(rv:Value):some (Obj.cells (((((((#[.slice c.ab c.m.boxes.length c.cb,.slice c.au c.m.units.length c.cu,.int .i64 c.u.kind,.int .i64 c.u.params,.slice c.al c.u.locals.length c.cl,.int .i64 c.u.result,.int .i64 c.u.takes,.slice c.ac c.u.code.length c.cc,.pointer top,.int .i64 (k.st.length:Int),aj k.fl.a,aj k.fl.b,aj k.fl.c,aj k.fl.d,.int .i64 n,rv,.map (some c.M)]:Array Value).setIfInBounds 8 (.pointer dh)).setIfInBounds 9 (.int .i64 (kn.st.length:Int))).setIfInBounds 10 (aj kn.fl.a)).setIfInBounds 11 (aj kn.fl.b)).setIfInBounds 12 (aj kn.fl.c)).setIfInBounds 13 (aj kn.fl.d)) 139 (0,0))=some (gQ c dh kn.st kn.fl n rv):=by
 simp only [List.setIfInBounds_toArray,List.set_cons_succ,List.set_cons_zero]
theorem WQ {c:FC}{w:World}{F:Nat}{top dh:Option Addr}{k kn:Vf.Kn}{n:Int}{rv:Value}(h:w.heap[F]?=some (gQ c top k.st k.fl n rv)):((((((w.setCell ⟨F,8,none⟩ (.pointer dh)).setCell ⟨F,9,none⟩ (.int .i64 (kn.st.length:Int))).setCell ⟨F,10,none⟩ (aj kn.fl.a)).setCell ⟨F,11,none⟩ (aj kn.fl.b)).setCell ⟨F,12,none⟩ (aj kn.fl.c)).setCell ⟨F,13,none⟩ (aj kn.fl.d)).heap[F]?=some (gQ c dh kn.st kn.fl n rv):=by
 have h1:=vV (vV (vV (vV (vV (vV h 8 (.pointer dh)) 9 (.int .i64 (kn.st.length:Int))) 10 (aj kn.fl.a)) 11 (aj kn.fl.b)) 12 (aj kn.fl.c)) 13 (aj kn.fl.d)
 rw [h1]
 exact WO c top dh k kn n rv
theorem WF.load {c:FC}{B F:Nat}{w:World}{k kn:Vf.Kn}{n:Int}{s:Vf.S}{top dh:Option Addr}{rv:Value}(h:WF c B F w k n s)(hF:aA c w F top k.st k.fl n rv)(hs:dW w dh kn.st) :
  WF c B F ((((((w.setCell ⟨F,8,none⟩ (.pointer dh)).setCell ⟨F,9,none⟩ (.int .i64 (kn.st.length:Int))).setCell ⟨F,10,none⟩ (aj kn.fl.a)).setCell ⟨F,11,none⟩ (aj kn.fl.b)).setCell ⟨F,12,none⟩ (aj kn.fl.c)).setCell ⟨F,13,none⟩ (aj kn.fl.d)).drew kn n s∧Below B w ((((((w.setCell ⟨F,8,none⟩ (.pointer dh)).setCell ⟨F,9,none⟩ (.int .i64 (kn.st.length:Int))).setCell ⟨F,10,none⟩ (aj kn.fl.a)).setCell ⟨F,11,none⟩ (aj kn.fl.b)).setCell ⟨F,12,none⟩ (aj kn.fl.c)).setCell ⟨F,13,none⟩ (aj kn.fl.d)).drew:=by
 have hg0:=jG (jG (jG (jG (jG (jG (fC w F) 8 (.pointer dh)) 9 (.int .i64 (kn.st.length:Int))) 10 (aj kn.fl.a)) 11 (aj kn.fl.b)) 12 (aj kn.fl.c)) 13 (aj kn.fl.d)
 have hb:=WQ (dh:=dh) (kn:=kn) hF.blk
 generalize ((((((w.setCell ⟨F,8,none⟩ (.pointer dh)).setCell ⟨F,9,none⟩ (.int .i64 (kn.st.length:Int))).setCell ⟨F,10,none⟩ (aj kn.fl.a)).setCell ⟨F,11,none⟩ (aj kn.fl.b)).setCell ⟨F,12,none⟩ (aj kn.fl.c)).setCell ⟨F,13,none⟩ (aj kn.fl.d))=X at *
 have hg:=iQ hg0
 refine ⟨h.own (top:=dh) (rv:=rv) hg (aA.drew ⟨hb,hs.grown hg0 hF.blk⟩) (fun rH MM h2=>?_),below_grown hg (by have:=h.env.base;have:=h.env.lt;omega) (fun j e=>by cases e;exact h.env.base)⟩
 have:=hF.blk.symm.trans h2.blk
 simp at this
 exact this.2
theorem WR {m:Vf.Md}{u:Vf.Un}{come:Nat→Option Vf.Kn}(f:Nat):Vf.fV m u f ⟨come,[]⟩=(0,0):=by cases f <;> rfl
theorem WS (c:FC)(B F:Nat)(w:World)(h0:Hid (aA c w F none [] Vf.Fl.none 0 (.slice none 0 0)))(hE:Hid (Env c B F w))(hC:Hid (eT w c.M (fun _=>none)))(hM:B≤c.M)(hR:Hid (Rt c.m))(hu:Hid (Vf.fM c.m c.u=0))(hfo:Hid (Vf.Forms c.m c.u))(er num:Int)(hr:Hid ((er,num)=((Vf.gN c.m c.u).1,((Vf.gN c.m c.u).2:Int)))) :
  Calls Tryz.prog 59 #[.pointer (some ⟨F,0,none⟩)] w fun e w'=>Below B w w'∧fJ er num e:=by
 have hlt:=hE.out.lt
 have jg:=hE.out.base
 obtain ⟨hz1,hz2,hz3,lh,yw,hz6⟩:=jI (ig hu.out).2.1
 obtain ⟨p,hp⟩:∃ p:Nat,c.u.params=p:=⟨c.u.params.toNat,by omega⟩
 have Sz:p≤6:=by omega
 have c3:=(dH h0.out.blk).2.2.2.1
 rw [hp] at c3
 have HP:Hid (c.u.params.toNat=p):=by unfold Hid;omega
 clear hp hz2 hz3 lh
 go_enter Tryz.func59,Tryz.ntmps59
 go_wp2
 go_loopw [9] (fun v wr=>∃ k:Nat,v=.int .i64 k∧k≤p∧Hid (aA c wr F none [] (Vf.Fl.first k) 0 (.slice none 0 0))∧Hid (w.grownBy wr (some F))) (fun v _=>p - (intOf v).toNat)
 case atStart=>exact ⟨0,rfl,Nat.zero_le _,h0,fC _ _⟩
 case round =>
  obtain ⟨k,rfl,hkp,HF,HG⟩:=hrel
  clear c3
  by_cases hk:k < p
  ·go_wp2_with fail
   refine (Jm c F none [] (Vf.Fl.first k) 0 (.slice none 0 0) k (by omega) _ HF).mono ?_
   rintro e w1 ⟨rfl,hg1,hF1⟩
   have aH:Hid (w.grownBy w1 (some F)):=bg HG.out hg1
   have aO:Hid (aA c w1 F none [] (Vf.Fl.first (k+1)) 0 (.slice none 0 0)):=hF1
   clear hg1 hF1
   go_wp2
   go_roundw
   case rel=>exact ⟨k+1,by go_num,by omega,aO,aH⟩
   case measure=>simp [intOf];omega
  ·obtain rfl:k=p:=by omega
   obtain ⟨d8,d9,_⟩:=lU HF.out.blk
   obtain ⟨d10,d11,d12,d13,_⟩:=qF HF.out.blk
   have MP:KC w wr:=EY HG.out h0.out.blk (fun cs e=>by cases e)
   have hne:=hC.out.ne h0.out.blk
   have HW:Hid (WF c B F wr ⟨[],Vf.Fl.first k⟩ 0 ⟨fun _=>none,[]⟩):=⟨hE.out.grown HG.out,hM,⟨none,_,HF.out,QR.nil _ _⟩,hC.out.keep (HG.out.block _ hC.out.lt (by simp;omega)) MP⟩
   have HB:Hid (Below B w wr):=below_grown HG.out (by omega) (fun j e=>by cases e;exact jg)
   have HST:Hid ((⟨fun _=>none,[]⟩:Vf.S).note 0 ⟨[],Vf.Fl.first k⟩=Vf.start c.u):=by unfold Hid;unfold Vf.start;rw [HP.out]
   clear MP hne
   go_wp2_with fail
   refine (E8 c B F ⟨[],Vf.Fl.first k⟩ ⟨[],Vf.Fl.first k⟩ 0 ⟨fun _=>none,[]⟩ 0 none _ HW (hide rfl) (Nat.zero_le _)).mono ?_
   rintro e w1 ⟨rfl,hW1,hb1⟩
   rw [HST.out] at hW1
   have MQ:Hid (MO c B F er num w (Vf.mu c.u.code.length (Vf.start c.u)+1) w1):=by
    refine ⟨_,_,_,hW1,HB.out.trans hb1,?_,by omega,?_,hr.out⟩
    ·refine Ah ⟨fun i k hk=>(by cases hk),fun i hi=>(by cases hi)⟩ yw ⟨fun t ht=>(by cases ht),by simp⟩
    ·have:=Vf.Q9 (u:=c.u)
     omega
   have HB1:Hid (Below B w w1):=HB.out.trans hb1
   clear hW1 hb1 d8 d9 d10 d11 d12 d13 hkp hk HW HB HST HF HG
   go_wp2_with fail
   go_loopg [] (Vf.mu c.u.code.length (Vf.start c.u)+1) (fun gk wr=>MO c B F er num w gk wr)
   case atStart=>exact MQ.out
   case round =>
    obtain ⟨kk,n,s,hW,hb,hI,hmu,MR,hfl⟩:=hrel
    clear MQ HB1
    have adu:=hW.env.lt
    obtain ⟨top,rv,hF,hq⟩:=hW.fl
    obtain ⟨come,row⟩:=s
    have HW:=hide hW
    have HB:=hide hb
    have HI:=hide hI
    have MS:=hide hmu
    have qX:=hide MR
    have jO:=hide hfl
    have HF:=hide hF
    clear hW hb hI hmu MR hfl hF
    cases row with
    | nil =>
     obtain ⟨ar,cr,iR⟩:=hq.form
     subst iR
     have d15:=(eZ HF.out.blk).2.1
     have HE:Hid (er=0∧num=0):=by
      have:=jO.out
      rw [WR] at this
      cases this
      exact ⟨rfl,rfl⟩
     clear hq
     go_wp2
     go_end0
     rw [HE.out.1,HE.out.2]
     exact ⟨HB.out,WN⟩
    | cons i rest =>
     obtain ⟨g,off,cap,iR,hcap,cx,hq1,hq2⟩:=hq.pop
     subst iR
     have WU:g≠F:=fun e=>by
      subst e
      exact hq.ty HF.out.blk (fun cs fr e=>by cases e) rfl
     obtain ⟨d14,d15,d16,E9,Ms⟩:=eZ HF.out.blk
     have hL0:(0:Int) < (rest.length:Int)+1:=by omega
     have qM:=hide hq1
     have yo:=hide hq2
     clear hq hq1 hq2
     go_upto_region 7 with fail
     go_cut [] (fun wx=>WF c B F wx kk (i:Int) ⟨come,rest⟩∧Below B wr wx)
     case first =>
      have m0:(0:Int)≤(rest.length:Int):=by omega
      by_cases hc1:cap=1
      ·subst hc1
       have hr0:rest.length=0:=by omega
       have HQ:=hide (qM.out rfl)
       rw [hr0] at d15 hL0 HF
       rw [hr0]
       go_region
       all_goals
        go_wp2_with fail
        go_meet
        exact HW.out.front HF.out HQ.out
      ·have HQ:=hide (yo.out hc1)
       have hcI:¬ (cap:Int)=1:=by omega
       go_region
       all_goals
        go_wp2_with fail
        go_meet
        exact HW.out.front HF.out HQ.out
     case rest =>
      obtain ⟨hW2,hb2⟩:=hcut
      obtain ⟨kn,MU⟩:=HI.out.row i List.mem_cons_self
      have hkn:come i=some kn:=MU
      clear MU
      obtain ⟨hil,hok⟩:=HI.out.come i kn hkn
      obtain ⟨x,hx⟩:∃ x,c.u.code[i]?=some x:=⟨_,List.getElem?_eq_getElem hil⟩
      have HX:=hide hx
      have sK:=hide hok
      have MK:=hide hkn
      have HB2:Hid (Below B w wc):=HB.out.trans hb2
      have HI2:Hid (Inv c.m c.u ⟨come,rest⟩):=⟨HI.out.come,fun j hj=>HI.out.row j (List.mem_cons_of_mem _ hj)⟩
      have adv:i < 4000:=by omega
      obtain ⟨r,hrr⟩:∃ r,r=Vf.look c.m c.u i ⟨come,rest⟩:=⟨_,rfl⟩
      have HRR:Hid (r=Vf.andThen (Vf.eB c.m c.u x kn) fun k'=>Vf.kJ c.u.code.length k' (Vf.goes x i) ⟨come,rest⟩):=by
       unfold Hid
       rw [hrr,Vf.look]
       simp only [hkn,hx]
      have jS:Hid (NZ r):=by rw [hrr];exact Dm _ _ _ _
      have WV:Hid (∀ s',r=.ok s'→Vf.mu c.u.code.length s'≤Vf.mu c.u.code.length ⟨come,rest⟩):=fun s' e=>Vf.I9 hfo.out (hrr.symm.trans e)
      have vW:Hid (Vf.bD c.m c.u x=0):=hfo.out x (List.mem_of_getElem? hx)
      have MV:Hid (Vf.mu c.u.code.length ⟨come,i :: rest⟩=Vf.mu c.u.code.length ⟨come,rest⟩+1):=Vf.Ja
      obtain ⟨f,rfl⟩:∃ f,gk=f+1:=⟨gk - 1,by have:=MS.out;omega⟩
      have yx:Hid (∀ ic,r=.error ic→er=ic∧num=(i:Int)):=fun ic e=>by
       have h1:=jO.out
       have h2:Vf.fV c.m c.u (f+1) ⟨come,i :: rest⟩=(ic,i):=by
        unfold Vf.fV
        simp only
        rw [← hrr,e]
       rw [h2] at h1
       cases h1
       exact ⟨rfl,rfl⟩
      have yj:Hid (∀ s',r=.ok s'→(er,num)=((Vf.fV c.m c.u f s').1,((Vf.fV c.m c.u f s').2:Int))):=fun s' e=>by
       have h1:=jO.out
       have h2:Vf.fV c.m c.u (f+1) ⟨come,i :: rest⟩=Vf.fV c.m c.u f s':=by
        conv=>lhs;unfold Vf.fV
        simp only
        rw [← hrr,e]
       rw [h2] at h1
       exact h1
      clear hx hok hkn hrr hb2 jO qM yo cx d14 d15 d16 E9 Ms HW HF HI HB WU
      obtain ⟨rH,MM,hF2,hq2⟩:=hW2.fl
      obtain ⟨e14,e15,e16,WW,Mt⟩:=eZ hF2.blk
      obtain ⟨e8,e9,y8,y9⟩:=lU hF2.blk
      obtain ⟨e10,e11,e12,e13,WX,WY,WZ,y13⟩:=qF hF2.blk
      obtain ⟨tk,hsk,hlk,_⟩:=Me hW2.come.drew MK.out
      have Fj:=hide (hW2.load hF2 (hsk.keep fun _ _ hb=>hb))
      have HB3:=hide (HB2.out.trans Fj.out.2)
      clear hF2 hq2 hsk hW2
      go_upto_region 8 with fail
      go_cut [] (fun wx=>WF c B F wx kn (i:Int) ⟨come,rest⟩∧Below B w wx)
      case first =>
       go_region
       all_goals
        go_wp2_with fail
        go_meet
        exact ⟨Fj.out.1,HB3.out⟩
      case rest =>
       obtain ⟨lI,hb4⟩:=hcut
       clear e8 e9 e10 e11 e12 e13 e14 e15 e16 y8 y9 WX WY WZ y13 WW Mt hlk Fj HB3 HB2
       have vH:=hide lI
       have tu:=hide hb4
       obtain ⟨Jl,W9,mO,hq4⟩:=lI.fl
       have jH:=hide mO
       obtain ⟨_,_,_,bc,oc,hac,hbc,i0,i1,i2⟩:=lI.env.un.code i x HX.out
       have Fp:Hid (∀ w',Low B wc w'→(∃ top st f rv,aA c w' F top st f (i:Int) rv)→(w'.cell? ⟨F,7,none⟩=some (.slice (some ⟨bc,oc,none⟩) c.u.code.length c.cc)∧w'.cell? ⟨F,14,none⟩=some (.int .i64 (i:Int))∧w'.cell? ⟨bc,oc+i * 3,none⟩=some (.int .i64 x.op)∧w'.cell? ⟨bc,oc+i * 3+1,none⟩=some (.int .i64 x.a)∧w'.cell? ⟨bc,oc+i * 3+2,none⟩=some (.int .i64 x.n))):=fun w' hlow ⟨tp,st,f',rv',hF'⟩=>by
        have c7:=(dH hF'.blk).2.2.2.2.2.2.2
        rw [hac] at c7
        exact ⟨c7,(eZ hF'.blk).1,(aS (hlow bc hbc) _).trans i0,(aS (hlow bc hbc) _).trans i1,(aS (hlow bc hbc) _).trans i2⟩
       have hiI:(i:Int) < (c.u.code.length:Int):=by omega
       have q4:=Fp.out wc (fun _ _=>rfl) ⟨_,_,_,_,mO⟩
       obtain ⟨rS,Bf⟩:∃ rS,rS=Vf.dV c.m c.u x kn:=⟨_,rfl⟩
       have vF:=hide Bf
       have Fq:Hid (r=Vf.andThen rS fun st'=>Vf.kJ c.u.code.length ⟨st',Vf.lQ x kn.fl⟩ (Vf.goes x i) ⟨come,rest⟩):=by
        unfold Hid
        rw [HRR.out,Vf.eB,← Bf]
        cases rS <;> rfl
       have Xa:Hid (Ok (bz c.m) rS):=by rw [Bf];exact Jw hR.out hu.out vW.out sK.out
       have Bg:Hid (∀ w',wc.grownBy w' (some F)→Below B wc w'):=fun w' hg=>below_grown hg (by have:=lI.env.base;have:=lI.env.lt;omega) (fun j e=>by cases e;exact lI.env.base)
       clear lI hb4 mO hq4 i0 i1 i2 Bf HRR
       go_wp2_with fail
       refine wp_region_held_drew (S:=fun w'=>w'.cell? ⟨F,7,none⟩=some (.slice (some ⟨bc,oc,none⟩) c.u.code.length c.cc)∧w'.cell? ⟨F,14,none⟩=some (.int .i64 (i:Int))∧w'.cell? ⟨bc,oc+i * 3,none⟩=some (.int .i64 x.op)∧w'.cell? ⟨bc,oc+i * 3+1,none⟩=some (.int .i64 x.a)∧w'.cell? ⟨bc,oc+i * 3+2,none⟩=some (.int .i64 x.n)) (by kernel_rfl) q4 (fun hHeld=>?_)
       refine wpAnyH_take (i:=0) (oi:=_) (v:=?_) rfl (by kernel_rfl) (by kernel_rfl) (by kernel_rfl) (fun _ _ _ h=>h) (Or.inl ⟨by rfl,?_⟩) (by assumption) ?_
       rotate_left
       ·intro w hSw
        (try dsimp only at hSw)
        go_simp
        (try with_reducible rfl)
       (try go_frame)
       refine wpAnyH_take (i:=1) (oi:=_) (v:=?_) rfl (by kernel_rfl) (by kernel_rfl) (by kernel_rfl) (fun _ _ _ h=>h) (Or.inl ⟨by rfl,?_⟩) (by assumption) ?_
       rotate_left
       ·intro w hSw
        (try dsimp only at hSw)
        go_simp
        (try with_reducible rfl)
       (try go_frame)
       refine wpAnyH_take (i:=2) (oi:=_) (v:=?_) rfl (by kernel_rfl) (by kernel_rfl) (by kernel_rfl) (fun _ _ _ h=>h) (Or.inl ⟨by rfl,?_⟩) (by assumption) ?_
       rotate_left
       ·intro w hSw
        (try dsimp only at hSw)
        go_simp
        (try with_reducible rfl)
       (try go_frame)
       refine wpAnyH_take (i:=3) (oi:=_) (v:=?_) rfl (by kernel_rfl) (by kernel_rfl) (by kernel_rfl) (fun _ _ _ h=>h) (Or.inl ⟨by rfl,?_⟩) (by assumption) ?_
       rotate_left
       ·intro w hSw
        (try dsimp only at hSw)
        go_simp
        (try with_reducible rfl)
       (try go_frame)
       refine wpAnyH_take (i:=4) (oi:=_) (v:=?_) rfl (by kernel_rfl) (by kernel_rfl) (by kernel_rfl) (fun _ _ _ h=>h) (Or.inl ⟨by rfl,?_⟩) (by assumption) ?_
       rotate_left
       ·intro w hSw
        (try dsimp only at hSw)
        go_simp
        (try with_reducible rfl)
       (try go_frame)
       refine wpAnyH_take (i:=5) (oi:=_) (v:=?_) rfl (by kernel_rfl) (by kernel_rfl) (by kernel_rfl) (fun _ _ _ h=>h) (Or.inl ⟨by rfl,?_⟩) (by assumption) ?_
       rotate_left
       ·intro w hSw
        (try dsimp only at hSw)
        go_simp
        (try with_reducible rfl)
       (try go_frame)
       refine wpAnyH_take (i:=6) (oi:=_) (v:=?_) rfl (by kernel_rfl) (by kernel_rfl) (by kernel_rfl) (fun _ _ _ h=>h) (Or.inl ⟨by rfl,?_⟩) (by assumption) ?_
       rotate_left
       ·intro w hSw
        (try dsimp only at hSw)
        go_simp
        (try with_reducible rfl)
       (try go_frame)
       refine wpAnyH_take (i:=7) (oi:=_) (v:=?_) rfl (by kernel_rfl) (by kernel_rfl) (by kernel_rfl) (fun _ _ _ h=>h) (Or.inl ⟨by rfl,?_⟩) (by assumption) ?_
       rotate_left
       ·intro w hSw
        (try dsimp only at hSw)
        go_simp
        (try with_reducible rfl)
       (try go_frame)
       refine wpAnyH_take (i:=8) (oi:=_) (v:=?_) rfl (by kernel_rfl) (by kernel_rfl) (by kernel_rfl) (fun _ _ _ h=>h) (Or.inl ⟨by rfl,?_⟩) (by assumption) ?_
       rotate_left
       ·intro w hSw
        (try dsimp only at hSw)
        go_simp
        (try with_reducible rfl)
       (try go_frame)
       refine wpAnyH_take (i:=9) (oi:=_) (v:=?_) rfl (by kernel_rfl) (by kernel_rfl) (by kernel_rfl) (fun _ _ _ h=>h) (Or.inl ⟨by rfl,?_⟩) (by assumption) ?_
       rotate_left
       ·intro w hSw
        (try dsimp only at hSw)
        go_simp
        (try with_reducible rfl)
       (try go_frame)
       refine wpAnyH_take (i:=10) (oi:=_) (v:=?_) rfl (by kernel_rfl) (by kernel_rfl) (by kernel_rfl) (fun _ _ _ h=>h) (Or.inl ⟨by rfl,?_⟩) (by assumption) ?_
       rotate_left
       ·intro w hSw
        (try dsimp only at hSw)
        go_simp
        (try with_reducible rfl)
       (try go_frame)
       refine wpAnyH_take (i:=11) (oi:=_) (v:=?_) rfl (by kernel_rfl) (by kernel_rfl) (by kernel_rfl) (fun _ _ _ h=>h) (Or.inl ⟨by rfl,?_⟩) (by assumption) ?_
       rotate_left
       ·intro w hSw
        (try dsimp only at hSw)
        go_simp
        (try with_reducible rfl)
       (try go_frame)
       refine wpAnyH_take (i:=12) (oi:=_) (v:=?_) rfl (by kernel_rfl) (by kernel_rfl) (by kernel_rfl) (fun _ _ _ h=>h) (Or.inl ⟨by rfl,?_⟩) (by assumption) ?_
       rotate_left
       ·intro w hSw
        (try dsimp only at hSw)
        go_simp
        (try with_reducible rfl)
       (try go_frame)
       refine wpAnyH_ready (rs:=[13]) (by kernel_rfl) (by simp) ?_
       refine AllReadyH.cons (o:=_) rfl (fun K hK=>?_) AllReadyH.nil
       go_simp
       refine (DN c F B Jl kn.st kn.fl (i:Int) W9 x.op x.a x.n _ (hide jH.out.drew) (hide vH.out.env.drew) sK.out.2 (hide sK.out.1) hR vW hz1 rS vF).mono ?_
       rintro e w5 hS
       have hg5:wc.grownBy w5 (some F):=iH hS.grown
       cases rS with
       | error ic =>
        obtain rfl:=hS.no ic rfl
        have HE:=hide (yx.out ic Fq.out)
        have sO:Hid (ic≠0):=jS.out ic Fq.out
        have tC:Hid (Below B w w5):=tu.out.trans (Bg.out w5 hg5)
        clear hS hK hg5
        go_wp2
        rw [HE.out.1,HE.out.2]
        exact ⟨rfl,tC.out,MN sO.out⟩
       | ok qY =>
        obtain ⟨rfl,adx,Bh⟩:=hS.yes qY rfl
        have jm:Hid (WF c B F w5 ⟨qY,Vf.lQ x kn.fl⟩ (i:Int) ⟨come,rest⟩):=vH.out.own (k':=⟨qY,Vf.lQ x kn.fl⟩) hg5 Bh (fun tp rv' h'=>by
         have:=jH.out.blk.symm.trans h'.blk
         simp at this
         exact this.2)
        have MW:Hid (bz c.m qY):=Xa.out qY rfl
        have MX:Hid (r=Vf.kJ c.u.code.length ⟨qY,Vf.lQ x kn.fl⟩ (Vf.goes x i) ⟨come,rest⟩):=Fq.out
        have q5:=Fp.out w5 (fun j hj=>(Bg.out w5 hg5).block j hj) ⟨_,_,_,_,Bh⟩
        have tC:Hid (Below B w w5):=tu.out.trans (Bg.out w5 hg5)
        have yz:=hide Bh
        have qc:Hid (∀ w',Below B w5 w'→(∃ top st f rv,aA c w' F top st f (i:Int) rv)→(w'.cell? ⟨F,7,none⟩=some (.slice (some ⟨bc,oc,none⟩) c.u.code.length c.cc)∧w'.cell? ⟨F,14,none⟩=some (.int .i64 (i:Int))∧w'.cell? ⟨bc,oc+i * 3,none⟩=some (.int .i64 x.op)∧w'.cell? ⟨bc,oc+i * 3+1,none⟩=some (.int .i64 x.a)∧w'.cell? ⟨bc,oc+i * 3+2,none⟩=some (.int .i64 x.n))):=fun w' hb hF'=>Fp.out w' (fun j hj=>(hb.block j hj).trans ((Bg.out w5 hg5).block j hj)) hF'
        refine hK.out _ _ q5 (fun hHeld=>?_)
        clear hK hS hg5 Bh hHeld q4
        refine wpAnyH_done (by kernel_rfl) ?_ _
        have Xb:rest.length≤99999999:=by have h1:=qX.out;have h2:rest.length≤Vf.mu c.u.code.length ⟨come,rest⟩:=Vf.Q8 (s:=⟨come,rest⟩);have h3:=MV.out;omega
        go_wp2_with fail
        refine wp_region_held_drew (S:=fun w'=>w'.cell? ⟨F,7,none⟩=some (.slice (some ⟨bc,oc,none⟩) c.u.code.length c.cc)∧w'.cell? ⟨F,14,none⟩=some (.int .i64 (i:Int))∧w'.cell? ⟨bc,oc+i * 3,none⟩=some (.int .i64 x.op)∧w'.cell? ⟨bc,oc+i * 3+1,none⟩=some (.int .i64 x.a)∧w'.cell? ⟨bc,oc+i * 3+2,none⟩=some (.int .i64 x.n)) (by kernel_rfl) q5 (fun hHeld=>?_)
        refine wpAnyH_take (i:=0) (oi:=_) (v:=?_) rfl (by kernel_rfl) (by kernel_rfl) (by kernel_rfl) (fun _ _ _ h=>h) (Or.inl ⟨by rfl,?_⟩) (by assumption) ?_
        rotate_left
        ·intro w hSw
         (try dsimp only at hSw)
         go_simp
         (try with_reducible rfl)
        (try go_frame)
        refine wpAnyH_take (i:=1) (oi:=_) (v:=?_) rfl (by kernel_rfl) (by kernel_rfl) (by kernel_rfl) (fun _ _ _ h=>h) (Or.inl ⟨by rfl,?_⟩) (by assumption) ?_
        rotate_left
        ·intro w hSw
         (try dsimp only at hSw)
         go_simp
         (try with_reducible rfl)
        (try go_frame)
        refine wpAnyH_take (i:=2) (oi:=_) (v:=?_) rfl (by kernel_rfl) (by kernel_rfl) (by kernel_rfl) (fun _ _ _ h=>h) (Or.inl ⟨by rfl,?_⟩) (by assumption) ?_
        rotate_left
        ·intro w hSw
         (try dsimp only at hSw)
         go_simp
         (try with_reducible rfl)
        (try go_frame)
        refine wpAnyH_take (i:=3) (oi:=_) (v:=?_) rfl (by kernel_rfl) (by kernel_rfl) (by kernel_rfl) (fun _ _ _ h=>h) (Or.inl ⟨by rfl,?_⟩) (by assumption) ?_
        rotate_left
        ·intro w hSw
         (try dsimp only at hSw)
         go_simp
         (try with_reducible rfl)
        (try go_frame)
        refine wpAnyH_take (i:=4) (oi:=_) (v:=?_) rfl (by kernel_rfl) (by kernel_rfl) (by kernel_rfl) (fun _ _ _ h=>h) (Or.inl ⟨by rfl,?_⟩) (by assumption) ?_
        rotate_left
        ·intro w hSw
         (try dsimp only at hSw)
         go_simp
         (try with_reducible rfl)
        (try go_frame)
        refine wpAnyH_take (i:=5) (oi:=_) (v:=?_) rfl (by kernel_rfl) (by kernel_rfl) (by kernel_rfl) (fun _ _ _ h=>h) (Or.inl ⟨by rfl,?_⟩) (by assumption) ?_
        rotate_left
        ·intro w hSw
         (try dsimp only at hSw)
         go_simp
         (try with_reducible rfl)
        (try go_frame)
        refine wpAnyH_take (i:=6) (oi:=_) (v:=?_) rfl (by kernel_rfl) (by kernel_rfl) (by kernel_rfl) (fun _ _ _ h=>h) (Or.inl ⟨by rfl,?_⟩) (by assumption) ?_
        rotate_left
        ·intro w hSw
         (try dsimp only at hSw)
         go_simp
         (try with_reducible rfl)
        (try go_frame)
        refine wpAnyH_take (i:=7) (oi:=_) (v:=?_) rfl (by kernel_rfl) (by kernel_rfl) (by kernel_rfl) (fun _ _ _ h=>h) (Or.inl ⟨by rfl,?_⟩) (by assumption) ?_
        rotate_left
        ·intro w hSw
         (try dsimp only at hSw)
         go_simp
         (try with_reducible rfl)
        (try go_frame)
        refine wpAnyH_take (i:=8) (oi:=_) (v:=?_) rfl (by kernel_rfl) (by kernel_rfl) (by kernel_rfl) (fun _ _ _ h=>h) (Or.inl ⟨by rfl,?_⟩) (by assumption) ?_
        rotate_left
        ·intro w hSw
         (try dsimp only at hSw)
         go_simp
         (try with_reducible rfl)
        (try go_frame)
        refine wpAnyH_take (i:=9) (oi:=_) (v:=?_) rfl (by kernel_rfl) (by kernel_rfl) (by kernel_rfl) (fun _ _ _ h=>h) (Or.inl ⟨by rfl,?_⟩) (by assumption) ?_
        rotate_left
        ·intro w hSw
         (try dsimp only at hSw)
         go_simp
         (try with_reducible rfl)
        (try go_frame)
        refine wpAnyH_take (i:=10) (oi:=_) (v:=?_) rfl (by kernel_rfl) (by kernel_rfl) (by kernel_rfl) (fun _ _ _ h=>h) (Or.inl ⟨by rfl,?_⟩) (by assumption) ?_
        rotate_left
        ·intro w hSw
         (try dsimp only at hSw)
         go_simp
         (try with_reducible rfl)
        (try go_frame)
        refine wpAnyH_take (i:=11) (oi:=_) (v:=?_) rfl (by kernel_rfl) (by kernel_rfl) (by kernel_rfl) (fun _ _ _ h=>h) (Or.inl ⟨by rfl,?_⟩) (by assumption) ?_
        rotate_left
        ·intro w hSw
         (try dsimp only at hSw)
         go_simp
         (try with_reducible rfl)
        (try go_frame)
        refine wpAnyH_take (i:=12) (oi:=_) (v:=?_) rfl (by kernel_rfl) (by kernel_rfl) (by kernel_rfl) (fun _ _ _ h=>h) (Or.inl ⟨by rfl,?_⟩) (by assumption) ?_
        rotate_left
        ·intro w hSw
         (try dsimp only at hSw)
         go_simp
         (try with_reducible rfl)
        (try go_frame)
        refine wpAnyH_ready (rs:=[13]) (by kernel_rfl) (by simp) ?_
        refine AllReadyH.cons (o:=_) rfl (fun K hK=>?_) AllReadyH.nil
        go_simp
        refine (WM c B F ⟨qY,Vf.lQ x kn.fl⟩ i ⟨come,rest⟩ x.op x.a x.n _ (hide (jm.out.quiet (sU (World.grownBy.refl _ _)))) Xb (by omega) vW HI2 MW r MX).mono ?_
        rintro e w6 hS
        have qd:Hid (Below B w w6):=tC.out.trans (by have:=hS.below;exact ⟨this.os,this.tape,this.output,this.size,this.block⟩)
        cases r with
        | error ic =>
         obtain rfl:=hS.no ic rfl
         have HE:=hide (yx.out ic rfl)
         have sO:Hid (ic≠0):=jS.out ic rfl
         clear hS hK
         go_wp2
         rw [HE.out.1,HE.out.2]
         exact ⟨rfl,qd.out,MN sO.out⟩
        | ok s6 =>
         obtain ⟨rfl,Fs⟩:=hS.yes s6 rfl
         have Xc:Hid (Inv c.m c.u s6):=Dt (k:=⟨qY,Vf.lQ x kn.fl⟩) MW.out HI2.out (Vf.zZ vW.out i) MX.out.symm
         have Xd:=hide (WV.out s6 rfl)
         have vX:=hide (yj.out s6 rfl)
         have Xf:=hide Fs
         obtain ⟨ady,rv6,Ac,_⟩:=Fs.fl
         refine hK.out _ _ (qc.out w6 (by have:=hS.below;exact ⟨this.os,this.tape,this.output,this.size,this.block⟩) ⟨_,_,_,_,Ac⟩) (fun hHeld=>?_)
         clear hK hS Fs Ac hHeld q5
         refine wpAnyH_done (by kernel_rfl) ?_ _
         go_wp2
         go_roundg f
         case measure=>omega
         case rel =>
          have h1:=MS.out
          have h2:=MV.out
          have h3:=Xd.out
          have h4:=qX.out
          exact ⟨_,_,s6,Xf.out,qd.out,Xc.out,by omega,by omega,vX.out⟩
theorem fA (w:World)(a b:Obj):w.grownBy ((w.alloc a).alloc b) none:=aT (aT (World.grownBy.refl _ _) _) _
theorem Xg (c:FC)(a nn:Int)(w:World)(b:Bool)(hb:Hid (b=(a == 0 || a == 1))) :
  Calls Tryz.prog 96 #[iT c,.agg #[.int .i64 2,.int .i64 a,.int .i64 nn]] w fun e w'=>e=.returned (.bool b)∧w.grownBy w' none:=by
 go_enter Tryz.func96,Tryz.ntmps96
 go_wp2
 all_goals
  go_ret
  refine ⟨qN ?_,fA _ _ _⟩
  rw [hb.out]
  (try simp [*])
  (try omega)
theorem Xh (c:FC)(a nn:Int)(w:World)(b:Bool)(hb:Hid (b=(decide (0≤a) && decide (a < c.u.locals.length)))) :
  Calls Tryz.prog 96 #[iT c,.agg #[.int .i64 3,.int .i64 a,.int .i64 nn]] w fun e w'=>e=.returned (.bool b)∧w.grownBy w' none:=by
 go_enter Tryz.func96,Tryz.ntmps96
 go_wp2
 all_goals
  go_ret
  refine ⟨qN ?_,fA _ _ _⟩
  rw [hb.out]
  (try simp [*])
  (try omega)
theorem Xi (c:FC)(a nn:Int)(w:World)(b:Bool)(hb:Hid (b=(decide (0≤a) && decide (a < c.u.locals.length)))) :
  Calls Tryz.prog 96 #[iT c,.agg #[.int .i64 4,.int .i64 a,.int .i64 nn]] w fun e w'=>e=.returned (.bool b)∧w.grownBy w' none:=by
 go_enter Tryz.func96,Tryz.ntmps96
 go_wp2
 all_goals
  go_ret
  refine ⟨qN ?_,fA _ _ _⟩
  rw [hb.out]
  (try simp [*])
  (try omega)
theorem Xj (c:FC)(a nn:Int)(w:World)(b:Bool)(hb:Hid (b=(decide (0≤a) && decide (a < c.u.code.length)))) :
  Calls Tryz.prog 96 #[iT c,.agg #[.int .i64 21,.int .i64 a,.int .i64 nn]] w fun e w'=>e=.returned (.bool b)∧w.grownBy w' none:=by
 go_enter Tryz.func96,Tryz.ntmps96
 go_wp2
 all_goals
  go_ret
  refine ⟨qN ?_,fA _ _ _⟩
  rw [hb.out]
  (try simp [*])
  (try omega)
theorem Xk (c:FC)(a nn:Int)(w:World)(b:Bool)(hb:Hid (b=(decide (0≤a) && decide (a < c.u.code.length)))) :
  Calls Tryz.prog 96 #[iT c,.agg #[.int .i64 22,.int .i64 a,.int .i64 nn]] w fun e w'=>e=.returned (.bool b)∧w.grownBy w' none:=by
 go_enter Tryz.func96,Tryz.ntmps96
 go_wp2
 all_goals
  go_ret
  refine ⟨qN ?_,fA _ _ _⟩
  rw [hb.out]
  (try simp [*])
  (try omega)
theorem Xl (c:FC)(a nn:Int)(w:World)(b:Bool)(hb:Hid (b=(decide (0≤a) && decide (a < c.m.boxes.length)))) :
  Calls Tryz.prog 96 #[iT c,.agg #[.int .i64 26,.int .i64 a,.int .i64 nn]] w fun e w'=>e=.returned (.bool b)∧w.grownBy w' none:=by
 go_enter Tryz.func96,Tryz.ntmps96
 go_wp2
 all_goals
  go_ret
  refine ⟨qN ?_,fA _ _ _⟩
  rw [hb.out]
  (try simp [*])
  (try omega)
theorem Xm (c:FC)(a nn:Int)(w:World)(b:Bool)(hb:Hid (b=(decide (0≤a) && decide (a < c.m.boxes.length)))) :
  Calls Tryz.prog 96 #[iT c,.agg #[.int .i64 27,.int .i64 a,.int .i64 nn]] w fun e w'=>e=.returned (.bool b)∧w.grownBy w' none:=by
 go_enter Tryz.func96,Tryz.ntmps96
 go_wp2
 all_goals
  go_ret
  refine ⟨qN ?_,fA _ _ _⟩
  rw [hb.out]
  (try simp [*])
  (try omega)
theorem Xn (c:FC)(B:Nat)(a nn:Int)(w:World)(hmd:Hid (bn B w c.m c.ab c.au))(hB:B≤w.heap.size)(b:Bool)(hb:Hid (b=Vf.is c.m 2 a)) :
  Calls Tryz.prog 96 #[iT c,.agg #[.int .i64 23,.int .i64 a,.int .i64 nn]] w fun e w'=>e=.returned (.bool b)∧w.grownBy w' none:=by
 have HM:Hid (bn B ((w.alloc (dE c)).alloc (ak 23 a nn)) c.m c.ab c.au):=hmd.out.low (fU (fA _ _ _) hB)
 go_enter Tryz.func96,Tryz.ntmps96
 go_wp2_with fail
 refine (ym c.m c.ab c.au c.cb c.cu B 2 a _ HM (by simp;omega) b hb).mono ?_
 rintro e w2 ⟨rfl,rfl⟩
 go_wp2
 go_ret
 exact ⟨rfl,aT (fA _ _ _) _⟩
theorem Xo (c:FC)(B:Nat)(a nn:Int)(w:World)(hmd:Hid (bn B w c.m c.ab c.au))(hB:B≤w.heap.size)(b:Bool)(hb:Hid (b=Vf.is c.m 3 a)) :
  Calls Tryz.prog 96 #[iT c,.agg #[.int .i64 29,.int .i64 a,.int .i64 nn]] w fun e w'=>e=.returned (.bool b)∧w.grownBy w' none:=by
 have HM:Hid (bn B ((w.alloc (dE c)).alloc (ak 29 a nn)) c.m c.ab c.au):=hmd.out.low (fU (fA _ _ _) hB)
 go_enter Tryz.func96,Tryz.ntmps96
 go_wp2_with fail
 refine (ym c.m c.ab c.au c.cb c.cu B 3 a _ HM (by simp;omega) b hb).mono ?_
 rintro e w2 ⟨rfl,rfl⟩
 go_wp2
 go_ret
 exact ⟨rfl,aT (fA _ _ _) _⟩
theorem Xp (c:FC)(op a nn:Int)(hop:Hid (op≠2∧op≠3∧op≠4∧op≠21∧op≠22∧op≠23∧op≠26∧op≠27∧op≠29))(w:World) :
  Calls Tryz.prog 96 #[iT c,.agg #[.int .i64 op,.int .i64 a,.int .i64 nn]] w fun e w'=>e=.returned (.bool true)∧w.grownBy w' none:=by
 have g2:(op == 2)=false:=by have:=hop.out;simp;omega
 have g3:(op == 3)=false:=by have:=hop.out;simp;omega
 have g4:(op == 4)=false:=by have:=hop.out;simp;omega
 have g21:(op == 21)=false:=by have:=hop.out;simp;omega
 have g22:(op == 22)=false:=by have:=hop.out;simp;omega
 have g23:(op == 23)=false:=by have:=hop.out;simp;omega
 have g26:(op == 26)=false:=by have:=hop.out;simp;omega
 have g27:(op == 27)=false:=by have:=hop.out;simp;omega
 have g29:(op == 29)=false:=by have:=hop.out;simp;omega
 go_enter Tryz.func96,Tryz.ntmps96
 go_wp2
 go_ret
 exact ⟨rfl,fA _ _ _⟩
theorem Xq (c:FC)(B:Nat)(op a nn:Int)(w:World)(hmd:Hid (bn B w c.m c.ab c.au))(hB:B≤w.heap.size)(b:Bool)(hb:Hid (b=Vf.ranged c.m c.u ⟨op,a,nn⟩)) :
  Calls Tryz.prog 96 #[iT c,.agg #[.int .i64 op,.int .i64 a,.int .i64 nn]] w fun e w'=>e=.returned (.bool b)∧w.grownBy w' none:=by
 by_cases h2:op=2
 ·subst h2;exact Xg c a nn w b (hide hb.out)
 by_cases h3:op=3
 ·subst h3;exact Xh c a nn w b (hide hb.out)
 by_cases h4:op=4
 ·subst h4;exact Xi c a nn w b (hide hb.out)
 by_cases h21:op=21
 ·subst h21;exact Xj c a nn w b (hide hb.out)
 by_cases h22:op=22
 ·subst h22;exact Xk c a nn w b (hide hb.out)
 by_cases h23:op=23
 ·subst h23;exact Xn c B a nn w hmd hB b (hide hb.out)
 by_cases gJ:op=29
 ·subst gJ;exact Xo c B a nn w hmd hB b (hide hb.out)
 by_cases bE:op=26
 ·subst bE;exact Xl c a nn w b (hide hb.out)
 by_cases h27:op=27
 ·subst h27;exact Xm c a nn w b (hide hb.out)
 have e:b=true:=by
  rw [hb.out,Vf.ranged,if_neg h2,if_neg (by rintro (h | h);exact h3 h;exact h4 h),if_neg (by rintro (h | h);exact h21 h;exact h22 h),if_neg h23,if_neg gJ,if_neg (by rintro (h | h);exact bE h;exact h27 h)]
 rw [e]
 exact Xp c op a nn (hide ⟨h2,h3,h4,h21,h22,h23,bE,h27,gJ⟩) w
def HE (er num:Int)(w:World)(e:Ending)(w':World):Prop:=w.grownBy w' none∧e=if er=0 then .returned (.tuple #[]) else .panicked [bZ er num]
theorem Xr (c:FC)(B:Nat)(w:World)(hmd:Hid (bn B w c.m c.ab c.au))(hun:Hid (gP B w c.u c.al c.ac c.cl c.cc))(hB:B≤w.heap.size)(hmu:c.m.units.length≤30)(er:Int)(hr:Hid (er=Vf.fM c.m c.u)) :
  Calls Tryz.prog 56 #[iT c] w fun e w'=>HE er 0 w e w':=by
 obtain ⟨b1,hb1⟩:∃ b,b=Vf.xq c.u:=⟨_,rfl⟩
 obtain ⟨b2,hb2⟩:∃ b,b=Vf.sized c.u:=⟨_,rfl⟩
 obtain ⟨b3,hb3⟩:∃ b,b=Vf.typed c.m c.u:=⟨_,rfl⟩
 have HR:Hid (er=if b1=false then 1 else if b2=false then 5 else if b3=false then 9 else 0):=by unfold Hid;rw [hr.out,hb1,hb2,hb3];rfl
 have H1:=hide hb1
 have H2:=hide hb2
 have H3:=hide hb3
 have lJ:Hid (bn B (((w.alloc (dE c)).alloc (dE c)).alloc (dE c)) c.m c.ab c.au):=hmd.out.low (fU (aT (fA _ _ _) _) hB)
 have qf:Hid (gP B (((w.alloc (dE c)).alloc (dE c)).alloc (dE c)) c.u c.al c.ac c.cl c.cc):=hun.out.low (fU (aT (fA _ _ _) _) hB)
 clear hr hb1 hb2 hb3
 go_enter Tryz.func56,Tryz.ntmps56
 go_wp2_with fail
 refine (VL c _ b1 H1).mono ?_
 rintro e w1 ⟨rfl,rfl⟩
 cases b1 with
 | false =>
  have aZ:Hid (er=1):=HR.out
  go_wp2_with fail
  refine (rG 0 1 _).mono ?_
  rintro e w2 ⟨rfl,rfl⟩
  go_wp2
  rw [aZ.out]
  exact ⟨rfl,fA _ _ _,rfl⟩
 | true =>
  go_wp2_with fail
  refine (VM c _ b2 H2).mono ?_
  rintro e w2 ⟨rfl,rfl⟩
  cases b2 with
  | false =>
   have aZ:Hid (er=5):=HR.out
   go_wp2_with fail
   refine (rG 0 5 _).mono ?_
   rintro e w2 ⟨rfl,rfl⟩
   go_wp2
   rw [aZ.out]
   exact ⟨rfl,aT (fA _ _ _) _,rfl⟩
  | true =>
   go_wp2_with fail
   refine (VN c B _ lJ qf (by simp;omega) hmu b3 H3).mono ?_
   rintro e w3 ⟨rfl,hg3⟩
   have fD:Hid (w.grownBy w3 none):=bY (aT (fA _ _ _) _) hg3
   clear hg3
   cases b3 with
   | false =>
    have aZ:Hid (er=9):=HR.out
    go_wp2_with fail
    refine (rG 0 9 _).mono ?_
    rintro e w2 ⟨rfl,rfl⟩
    go_wp2
    rw [aZ.out]
    exact ⟨rfl,fD.out,rfl⟩
   | true =>
    have aZ:Hid (er=0):=HR.out
    go_wp2
    go_end0
    rw [aZ.out]
    exact ⟨fD.out,rfl⟩
theorem Fu {α:Type}(f:α→Int){l:List α}{k:Nat}{x:α}(h:l[k]?=some x):Vf.cO f (l.drop k) k=if f x=0 then Vf.cO f (l.drop (k+1)) (k+1) else (f x,k):=by
 obtain ⟨hk,rfl⟩:=List.getElem?_eq_some_iff.1 h
 rw [List.drop_eq_getElem_cons hk]
 rfl
structure Xt (c:FC) (w:World) (er num:Int) (k:Nat) (W:World):Prop where
 le:k≤c.u.code.length
 grown:(w.alloc (dE c)).grownBy W none
 rest:(er,num)=((Vf.cO (Vf.bD c.m c.u) (c.u.code.drop k) k).1,((Vf.cO (Vf.bD c.m c.u) (c.u.code.drop k) k).2:Int))
theorem Xu (c:FC)(B:Nat)(w:World)(hmd:Hid (bn B w c.m c.ab c.au))(hun:Hid (gP B w c.u c.al c.ac c.cl c.cc))(hB:B≤w.heap.size)(er num:Int)(hr:Hid ((er,num)=((Vf.cO (Vf.bD c.m c.u) c.u.code 0).1,((Vf.cO (Vf.bD c.m c.u) c.u.code 0).2:Int)))) :
  Calls Tryz.prog 57 #[iT c] w fun e w'=>HE er num w e w':=by
 have hlo:c.u.code.length≤9223372036854775807:=hun.out.few.2
 go_enter Tryz.func57,Tryz.ntmps57
 go_wp2
 go_loopw [8] (fun v wr=>∃ k:Nat,v=.int .i64 k∧Xt c w er num k wr) (fun v _=>c.u.code.length - (intOf v).toNat)
 case atStart=>exact ⟨0,rfl,Nat.zero_le _,World.grownBy.refl _ _,hr.out⟩
 case round =>
  obtain ⟨k,rfl,hA⟩:=hrel
  have HA:=hide hA
  have hk:=hA.le
  clear hA
  by_cases hlt:k < c.u.code.length
  ·obtain ⟨x,hx⟩:∃ x,c.u.code[k]?=some x:=⟨_,List.getElem?_eq_getElem hlt⟩
   have hlow:Low B w wr:=fun j hj=>(bX HA.out.grown (by simp;omega)).trans (Below.heap_alloc _ _ _ (by omega))
   obtain ⟨_,_,_,bl,ol,hal,hbl,i0,i1,i2⟩:=(hun.out.code.low hlow) k x hx
   have hub:wr.heap[w.heap.size]?=some (dE c):=(bX HA.out.grown (by simp)).trans (heap_alloc_new w _)
   obtain ⟨y0,y1,y2,y3,y4,y5,y6,y7⟩:=sP hub
   have hwr:w.heap.size < wr.heap.size:=lt_of_block hub
   have oq:Hid (bn B (wr.alloc (ak x.op x.a x.n)) c.m c.ab c.au):=(hmd.out.low hlow).low (fU (aT (World.grownBy.refl _ _) _) (by omega))
   have HN:Hid ((er,num)=if Vf.bD c.m c.u x=0 then ((Vf.cO (Vf.bD c.m c.u) (c.u.code.drop (k+1)) (k+1)).1,((Vf.cO (Vf.bD c.m c.u) (c.u.code.drop (k+1)) (k+1)).2:Int)) else (Vf.bD c.m c.u x,(k:Int))):=by
    unfold Hid
    rw [HA.out.rest,Fu _ hx]
    split <;> rfl
   have HG:Hid (w.grownBy wr none):=bY (aT (World.grownBy.refl _ _) _) HA.out.grown
   have nk:=hide hal
   clear hx hub hlow hal
   rw [nk.out]
   by_cases hop:x.op < 1∨32 < x.op
   ·have aZ:Hid (er=1∧num=(k:Int)):=by
     have h1:Vf.bD c.m c.u x=1:=by unfold Vf.bD;rw [if_pos hop]
     have:=HN.out
     rw [h1] at this
     cases this
     exact ⟨rfl,rfl⟩
    rcases hop with hop | hop
    ·have d1:decide (x.op < 1)=true:=by simpa using hop
     go_wp2_with fail
     refine (rG (k:Int) 1 _).mono ?_
     rintro e w2 ⟨rfl,rfl⟩
     go_wp2
     rw [aZ.out.1,aZ.out.2]
     exact ⟨rfl,aT HG.out _,rfl⟩
    ·have d1:decide (x.op < 1)=false:=by simp;omega
     have d2:decide (32 < x.op)=true:=by simpa using hop
     go_wp2_with fail
     refine (rG (k:Int) 1 _).mono ?_
     rintro e w2 ⟨rfl,rfl⟩
     go_wp2
     rw [aZ.out.1,aZ.out.2]
     exact ⟨rfl,aT HG.out _,rfl⟩
   ·have d1:decide (x.op < 1)=false:=by simp;omega
    have d2:decide (32 < x.op)=false:=by simp;omega
    obtain ⟨b,hb⟩:∃ b,b=Vf.ranged c.m c.u ⟨x.op,x.a,x.n⟩:=⟨_,rfl⟩
    have HB:=hide hb
    have yx:Hid (Vf.bD c.m c.u x=if b=false then 3 else 0):=by unfold Hid;unfold Vf.bD;rw [if_neg hop,hb]
    clear hb hop
    go_wp2_with fail
    refine (Xq c B x.op x.a x.n _ oq (by simp;omega) b HB).mono ?_
    rintro e w2 ⟨rfl,hg2⟩
    have HG2:Hid ((w.alloc (dE c)).grownBy w2 none):=bY (aT HA.out.grown _) hg2
    have fD:Hid (w.grownBy w2 none):=bY (aT HG.out _) hg2
    clear hg2 y0 y1 y2 y3 y4 y5 y6 y7 i0 i1 i2
    cases b with
    | false =>
     have aZ:Hid (er=3∧num=(k:Int)):=by
      have:=HN.out
      rw [yx.out] at this
      cases this
      exact ⟨rfl,rfl⟩
     go_wp2_with fail
     refine (rG (k:Int) 3 _).mono ?_
     rintro e w3 ⟨rfl,rfl⟩
     go_wp2
     rw [aZ.out.1,aZ.out.2]
     exact ⟨rfl,fD.out,rfl⟩
    | true =>
     have bM:Hid ((er,num)=((Vf.cO (Vf.bD c.m c.u) (c.u.code.drop (k+1)) (k+1)).1,((Vf.cO (Vf.bD c.m c.u) (c.u.code.drop (k+1)) (k+1)).2:Int))):=by
      have:=HN.out
      rw [yx.out] at this
      exact this
     go_wp2
     go_roundw
     case rel=>exact ⟨k+1,by go_num,hlt,HG2.out,bM.out⟩
     case measure=>simp [intOf];omega
  ·have aZ:Hid (er=0∧num=0):=by
    have:=HA.out.rest
    rw [List.drop_eq_nil_of_le (by omega)] at this
    cases this
    exact ⟨rfl,rfl⟩
   have HG:Hid (w.grownBy wr none):=bY (aT (World.grownBy.refl _ _) _) HA.out.grown
   go_wp2
   go_end0
   rw [aZ.out.1,aZ.out.2]
   exact ⟨HG.out,rfl⟩
theorem MZ {w:World}{b:Nat}{v0 v1:Value}{t:TypeId}(h:w.heap[b]?=some (.cells #[v0,v1] t (0,0))) :
  w.cell? ⟨b,0,none⟩=some v0∧w.cell? ⟨b,1,none⟩=some v1∧w.frozen? ⟨b,0,none⟩=false∧w.frozen? ⟨b,1,none⟩=false:=by simp [World.cell?,World.frozen?,h]
theorem Xv (v:Value)(w:World):(Instr.typeAssert (.iface 60 v) 20 60 false).run Tryz.prog w=.ok v w:=by kernel_rfl
theorem Xw (F:Nat)(er num:Int)(older:List PanicEntry)(w:World)(hF:w.heap[F]?=some (.cells #[.int .i64 0,.int .i64 0] 60 (0,0))) :
  CallsD Tryz.prog 78 #[.pointer (some ⟨F,0,none⟩)] (.panicking (bZ er num :: older)) w fun e u' w' =>
   e=.returned (.tuple #[])∧u'=.panicking ({ v:=.iface 60 (.agg #[.int .i64 er,.int .i64 num]),recovered:=true } :: older)∧w'=(w.setCell ⟨F,0,none⟩ (.int .i64 er)).setCell ⟨F,1,none⟩ (.int .i64 num):=by
 obtain ⟨c0,c1,f0,f1⟩:=MZ hF
 refine callsD_of_wpS Tryz.func78 rfl fun c₀ cs hu=>?_
 apply wpS_seq
 apply wpS_region
 simp [wpOpsS,go_sem,recoverD,hu,Tryz.ntmps78,Exit.thenS]
 apply wpS_seq
 apply wpS_region
 simp [wpOpsS,go_sem,Exit.thenS]
 refine wpS_cond (t:=true) (by simp [Act.eval,Array.replicate]) ?_
 simp only [if_true]
 apply wpS_region
 simp [wpOpsS,go_sem,Xv,c0,c1,f0,f1,bodyPostS,results,Tryz.results78]
theorem Fv (F:Nat)(w:World) :
  CallsD Tryz.prog 78 #[.pointer (some ⟨F,0,none⟩)] .returning w fun e u' w'=>e=.returned (.tuple #[])∧u'=.returning∧w'=w:=by
 refine callsD_of_wpS Tryz.func78 rfl fun c₀ cs hu=>?_
 apply wpS_seq
 apply wpS_region
 simp [wpOpsS,go_sem,recoverD,hu,Tryz.ntmps78,Exit.thenS]
 apply wpS_seq
 apply wpS_region
 simp [wpOpsS,go_sem,Exit.thenS]
 refine wpS_cond (t:=false) (by simp [Act.eval,Array.replicate]) ?_
 simp only [Bool.false_eq_true,if_false]
 refine wpS_of_wp (wp_skip ?_)
 cases c₀
 simp_all [bodyPostS,results,Tryz.results78]
abbrev oC:Obj:=.cells #[.int .i64 0,.int .i64 0] 60 (0,0)
theorem M0 (g:FuncId)(cap:Array Value)(er num:Int)(X:World→Prop)(w:World)(hz:er=0→num=0)(hcf:∀ w:World,(callFunc g cap).run Tryz.prog w=.ok (.enter g cap) w)
  (hw:Calls Tryz.prog g cap (w.alloc oC) fun e w'=>X w'∧w'.heap[w.heap.size]?=some oC∧fJ er num e) :
  Calls Tryz.prog 45 #[.func (.func g) #[] cap] w fun e w'=>e=.returned (.agg #[.int .i64 er,.int .i64 num])∧∃ wx,X wx∧wx.heap[w.heap.size]?=some oC∧w'=(wx.setCell ⟨w.heap.size,0,none⟩ (.int .i64 er)).setCell ⟨w.heap.size,1,none⟩ (.int .i64 num):=by
 have vJ:∀ (fn:Fn) (first cap:Array Value) (w:World),(Instr.makeFunc fn first cap).run Tryz.prog w=.ok (.func fn first cap) w:=fun _ _ _ _=>rfl
 go_enter_defers Tryz.func45,Tryz.ntmps45
 go_wp2_with fail
 refine hw.mono ?_
 rintro e w1 ⟨hX,hF,ht⟩
 obtain ⟨c0,c1,f0,f1⟩:=MZ hF
 have HX:Hid (X w1):=hX
 have HF:Hid (w1.heap[w.heap.size]?=some oC):=hF
 clear hX hF
 by_cases h0:er=0
 ·have hn:=hz h0
  subst h0
  subst hn
  obtain rfl:e=.returned (.tuple #[]):=ht
  clear hw hz
  go_wp2
  refine leaves_cons (f:=78) (args:=#[.pointer (some ⟨w.heap.size,0,none⟩)]) (by simp) (by simp [go_sem]) ?_
  refine (Fv w.heap.size _).mono ?_
  rintro e u' w'' ⟨rfl,rfl,rfl⟩
  show Leaves _ _ _ _ [] .returning _
  exact ⟨.agg #[.int .i64 0,.int .i64 0],by simp [results,Tryz.results45,go_sem,c0,c1],rfl,w1,HX.out,HF.out,rfl⟩
 ·obtain rfl:e=.panicked [bZ er num]:=by unfold fJ at ht;rw [if_neg h0] at ht;exact ht
  clear ht hw hz h0
  go_wp2
  refine leaves_cons (f:=78) (args:=#[.pointer (some ⟨w.heap.size,0,none⟩)]) (by simp) (by simp [go_sem]) ?_
  refine (Xw w.heap.size er num [] _ HF.out).mono ?_
  rintro e u' w'' ⟨rfl,rfl,rfl⟩
  show Leaves _ _ _ _ [] .returning _
  exact ⟨.agg #[.int .i64 er,.int .i64 num],by simp [results,Tryz.results45,go_sem,c0,c1],rfl,w1,HX.out,HF.out,rfl⟩
theorem bn.mono {B C:Nat}{w:World}{m:Vf.Md}{ab au:Option Addr}(h:bn B w m ab au)(hB:B≤C):bn C w m ab au:=by
 refine ⟨h.few,fun i x hx=>?_,fun i x hx=>?_⟩
 ·obtain ⟨h1,h2,b,off,e,hb,r⟩:=h.boxes i x hx
  exact ⟨h1,h2,b,off,e,by omega,r⟩
 ·obtain ⟨b,off,al,cl,ac,cc,e,hb,hu,r⟩:=h.units i x hx
  refine ⟨b,off,al,cl,ac,cc,e,by omega,⟨hu.nums,hu.few,hu.ah,fun j y hy=>?_,fun j y hy=>?_⟩,r⟩
  ·obtain ⟨h1,b,off,e,hb,r⟩:=hu.locals j y hy
   exact ⟨h1,b,off,e,by omega,r⟩
  ·obtain ⟨h1,h2,h3,b,off,e,hb,r⟩:=hu.code j y hy
   exact ⟨h1,h2,h3,b,off,e,by omega,r⟩
theorem gP.mono {B C:Nat}{w:World}{u:Vf.Un}{al ac:Option Addr}{cl cc:Nat}(hu:gP B w u al ac cl cc)(hB:B≤C):gP C w u al ac cl cc:=by
 refine ⟨hu.nums,hu.few,hu.ah,fun j y hy=>?_,fun j y hy=>?_⟩
 ·obtain ⟨h1,b,off,e,hb,r⟩:=hu.locals j y hy
  exact ⟨h1,b,off,e,by omega,r⟩
 ·obtain ⟨h1,h2,h3,b,off,e,hb,r⟩:=hu.code j y hy
  exact ⟨h1,h2,h3,b,off,e,by omega,r⟩
theorem Xx (c:FC)(B:Nat)(w:World)(hmd:Hid (bn B w c.m c.ab c.au))(hun:Hid (gP B w c.u c.al c.ac c.cl c.cc))(hB:B≤w.heap.size)(hmu:c.m.units.length≤30)(er num:Int)(hr:Hid ((er,num)=((Vf.ib c.m c.u).1,((Vf.ib c.m c.u).2:Int)))) :
  Calls Tryz.prog 55 #[iT c] w fun e w'=>w.grownBy w' none∧fJ er num e:=by
 obtain ⟨y0,y1,y2,y3,y4,y5,y6,y7⟩:=sP (heap_alloc_new w (dE c))
 have HT:Hid (w.grownBy (w.alloc (dE c)) none):=aT (World.grownBy.refl _ _) _
 have xz:Hid (bn B (w.alloc (dE c)) c.m c.ab c.au):=hmd.out.low (fU HT.out hB)
 have Xy:Hid (gP B (w.alloc (dE c)) c.u c.al c.ac c.cl c.cc):=hun.out.low (fU HT.out hB)
 obtain ⟨eh,heh⟩:∃ eh,eh=Vf.fM c.m c.u:=⟨_,rfl⟩
 have HH:=hide heh
 have HR:Hid ((er,num)=if eh=0 then ((Vf.cO (Vf.bD c.m c.u) c.u.code 0).1,((Vf.cO (Vf.bD c.m c.u) c.u.code 0).2:Int)) else (eh,0)):=by
  unfold Hid
  rw [hr.out,Vf.ib,← heh]
  split <;> rfl
 clear hr heh
 go_enter Tryz.func55,Tryz.ntmps55
 go_wp2_with fail
 refine (Xr c B _ xz Xy (by simp;omega) hmu eh HH).mono ?_
 rintro e w1 ⟨hg1,he⟩
 have aH:Hid (w.grownBy w1 none):=bY HT.out hg1
 have hub:w1.heap[w.heap.size]?=some (dE c):=(bX hg1 (by simp)).trans (heap_alloc_new w _)
 by_cases h0:eh=0
 ·obtain rfl:e=.returned (.tuple #[]):=by rw [if_pos h0] at he;exact he
  have HR2:Hid ((er,num)=((Vf.cO (Vf.bD c.m c.u) c.u.code 0).1,((Vf.cO (Vf.bD c.m c.u) c.u.code 0).2:Int))):=by have:=HR.out;rw [if_pos h0] at this;exact this
  obtain ⟨x0,x1,x2,x3,x4,x5,x6,x7⟩:=sP hub
  have lJ:Hid (bn B w1 c.m c.ab c.au):=hmd.out.low (fU aH.out hB)
  have qf:Hid (gP B w1 c.u c.al c.ac c.cl c.cc):=hun.out.low (fU aH.out hB)
  have hz:=aH.out.size
  clear he hg1 hub h0 y0 y1 y2 y3 y4 y5 y6 y7
  go_wp2_with fail
  refine (Xu c B _ lJ qf (by omega) er num HR2).mono ?_
  rintro e w2 ⟨hg2,he2⟩
  have HG2:Hid (w.grownBy w2 none):=bY aH.out hg2
  clear hg2
  by_cases h1:er=0
  ·obtain rfl:e=.returned (.tuple #[]):=by rw [if_pos h1] at he2;exact he2
   have HE:Hid (fJ er num (.returned (.tuple #[]))):=he2
   clear he2 h1
   go_wp2
   go_end0
   exact ⟨HG2.out,HE.out⟩
  ·obtain rfl:e=.panicked [bZ er num]:=by rw [if_neg h1] at he2;exact he2
   have HE:Hid (fJ er num (.panicked [bZ er num])):=he2
   clear he2 h1
   go_wp2
   exact ⟨rfl,HG2.out,HE.out⟩
 ·obtain rfl:e=.panicked [bZ eh 0]:=by rw [if_neg h0] at he;exact he
  have HR2:Hid (er=eh∧num=0):=by have:=HR.out;rw [if_neg h0] at this;cases this;exact ⟨rfl,rfl⟩
  have HE:Hid (fJ eh 0 (.panicked [bZ eh 0])):=he
  clear he hg1 hub h0
  go_wp2
  rw [HR2.out.1,HR2.out.2]
  exact ⟨rfl,aH.out,HE.out⟩
theorem Xz (c:FC)(B:Nat)(w:World)(hmd:Hid (bn B w c.m c.ab c.au))(hun:Hid (gP B w c.u c.al c.ac c.cl c.cc))(hB:B≤w.heap.size)(hR:Hid (Rt c.m))(hu:Hid (Vf.fM c.m c.u=0))(hfo:Hid (Vf.Forms c.m c.u))(er num:Int)(hr:Hid ((er,num)=((Vf.gN c.m c.u).1,((Vf.gN c.m c.u).2:Int)))) :
  Calls Tryz.prog 58 #[iT c] w fun e w'=>w.grownBy w' none∧fJ er num e:=by
 have hmm:∀ w:World,(Instr.makeMap 129 Option.none).run Tryz.prog w=.ok (.map (some w.heap.size)) (w.alloc (.map #[] 0)):=fun _=>rfl
 obtain ⟨W,hW⟩:∃ W:World,((w.alloc (dE c)).alloc (.map #[] 0)).alloc (gQ { c with M:=w.heap.size+1 } none [] Vf.Fl.none 0 (.slice none 0 0))=W:=⟨_,rfl⟩
 have hT:w.grownBy W none:=by rw [← hW];exact aT (fA _ _ _) _
 have Fw:W.heap[w.heap.size+1+1]?=some (gQ { c with M:=w.heap.size+1 } none [] Vf.Fl.none 0 (.slice none 0 0)):=by
  have e:((w.alloc (dE c)).alloc (.map #[] 0)).heap.size=w.heap.size+1+1:=by simp
  rw [← hW,← e]
  exact heap_alloc_new _ _
 have H0:Hid (aA { c with M:=w.heap.size+1 } W (w.heap.size+1+1) none [] Vf.Fl.none 0 (.slice none 0 0)):=⟨Fw,rfl⟩
 have HE:Hid (Env { c with M:=w.heap.size+1 } w.heap.size (w.heap.size+1+1) W):=⟨(hmd.out.mono hB).low (fU hT (Nat.le_refl _)),(hun.out.mono hB).low (fU hT (Nat.le_refl _)),by omega,lt_of_block Fw⟩
 have HC:Hid (eT W (w.heap.size+1) (fun _=>none)):=by
  have h1:=(eT.new (w.alloc (dE c))).alloc (gQ { c with M:=w.heap.size+1 } none [] Vf.Fl.none 0 (.slice none 0 0))
  have e:(w.alloc (dE c)).heap.size=w.heap.size+1:=by simp
  rw [e,hW] at h1
  exact h1
 have HT:=hide hT
 have HW:=hide hW
 clear hW hT Fw
 go_enter Tryz.func58,Tryz.ntmps58
 go_wp2_with fail
 rw [show ((w.alloc (dE c)).alloc (.map #[] 0)).alloc (.cells #[.slice c.ab c.m.boxes.length c.cb,.slice c.au c.m.units.length c.cu,.int .i64 c.u.kind,.int .i64 c.u.params,.slice c.al c.u.locals.length c.cl,.int .i64 c.u.result,.int .i64 c.u.takes,.slice c.ac c.u.code.length c.cc,.pointer none,.int .i64 0,.int .u64 0,.int .u64 0,.int .u64 0,.int .u64 0,.int .i64 0,.slice none 0 0,.map (some (w.heap.size+1))] 139)=W from HW.out]
 refine (WS { c with M:=w.heap.size+1 } w.heap.size (w.heap.size+1+1) _ H0 HE HC (by simp) hR hu hfo er num hr).mono ?_
 rintro e w1 ⟨hb1,he⟩
 have aH:Hid (w.grownBy w1 none):=⟨hb1.os.trans HT.out.os,hb1.tape.trans HT.out.tape,hb1.output.trans HT.out.output,Nat.le_trans HT.out.size (by have:=hb1.size;exact this),fun k hk _=>(hb1.block k hk).trans (HT.out.block k hk (by simp))⟩
 clear hb1
 by_cases h1:er=0
 ·obtain rfl:e=.returned (.tuple #[]):=by unfold fJ at he;rw [if_pos h1] at he;exact he
  have HX:Hid (fJ er num (.returned (.tuple #[]))):=he
  clear he h1
  go_wp2
  go_end0
  exact ⟨aH.out,HX.out⟩
 ·obtain rfl:e=.panicked [bZ er num]:=by unfold fJ at he;rw [if_neg h1] at he;exact he
  have HX:Hid (fJ er num (.panicked [bZ er num])):=he
  clear he h1
  go_wp2
  exact ⟨rfl,aH.out,HX.out⟩
end Go.Proofs.YthffafaoobpedaaGreatDoor
