/- WHAT whole DOES: a unit's flow. -/
import Derived.Test.YthffafaoobpedabGreatDoorM24
import Derived.Test.YthffafaoobpedabGreatDoorM20
import Derived.Test.YthffafaoobpedabGreatDoorM3
set_option maxRecDepth 100000
set_option maxHeartbeats 4000000
namespace Go.Proofs.YthffafaoobpedabGreatDoor
open Go.RowKit
def Thrown (er num:Int)(e:Ending):Prop:=e=if er=0 then .returned (.tuple #[]) else .panicked [fltE er num]
theorem thrown_ok:Thrown 0 0 (.returned (.tuple #[])):=rfl
theorem thrown_no {er num:Int}(h:er≠0):Thrown er num (.panicked [fltE er num]):=by unfold Thrown;rw [if_neg h]
def WAt (c:FC)(B F:Nat)(er num:Int)(w:World)(gk:Nat)(W:World):Prop :=
 ∃ k n s,WF c B F W k n s∧Below B w W∧Inv c.m c.u s∧Vf.mu c.u.code.length s < gk∧Vf.mu c.u.code.length s≤3000000∧(er,num)=((Vf.flow c.m c.u gk s).1,((Vf.flow c.m c.u gk s).2:Int))
theorem cells_set {w:World}{N:Nat}{cs:Array Value}{t:TypeId}{fr:Nat × Nat}(h:w.heap[N]?=some (.cells cs t fr))(o:Nat)(v:Value):(w.setCell ⟨N,o,none⟩ v).heap[N]?=some (.cells (cs.setIfInBounds o v) t fr):=by
 simp only [World.setCell,Array.getElem?_modify,if_true,h,Option.map_some]
 rfl
theorem WF.front {c:FC}{B F i:Nat}{w:World}{k:Vf.Kn}{n:Int}{come:Nat→Option Vf.Kn}{rest:List Nat}{top:Option Addr}{rv rv':Value}(h:WF c B F w k n ⟨come,i :: rest⟩)(hF:FlIn c w F top k.st k.fl n rv)(hq:QR w B rv' rest):WF c B F ((w.setCell ⟨F,14,none⟩ (.int .i64 (i:Int))).setCell ⟨F,15,none⟩ rv').drew k (i:Int) ⟨come,rest⟩∧Below B w ((w.setCell ⟨F,14,none⟩ (.int .i64 (i:Int))).setCell ⟨F,15,none⟩ rv').drew:=by
 have hg:w.grownBy ((w.setCell ⟨F,14,none⟩ (.int .i64 (i:Int))).setCell ⟨F,15,none⟩ rv').drew (some F):=grown_drew2 (grown_set (grown_set (grown_refl w F) 14 _) 15 _)
 have hne:=h.come.ne hF.blk
 have kc:=kc_block hg hF.blk (fun cs e=>by cases e)
 refine ⟨⟨h.env.grown hg,h.mB,⟨top,rv',⟨?_,hF.sk.keep kc⟩,hq.keep fun j hj=>hg.block j (hq.lt j hj).2 (fun e=>hq.ty hF.blk (fun cs fr e2=>by cases e2) (by rw [hj,← e]))⟩,h.come.keep (hg.block _ h.come.lt (by simp;omega)) kc⟩,below_grown hg (by have:=h.env.base;have:=h.env.lt;omega) (fun j e=>by cases e;exact h.env.base)⟩
 show ((w.setCell ⟨F,14,none⟩ (.int .i64 (i:Int))).setCell ⟨F,15,none⟩ rv').heap[F]?=_
 simp only [World.setCell,Array.getElem?_modify,if_true,hF.blk,Option.map_some]
 rfl
theorem fl_six (c:FC)(top top':Option Addr)(k kn:Vf.Kn)(n:Int)(rv:Value):some (Obj.cells (((((((#[.slice c.ab c.m.boxes.length c.cb,.slice c.au c.m.units.length c.cu,.int .i64 c.u.kind,.int .i64 c.u.params,.slice c.al c.u.locals.length c.cl,.int .i64 c.u.result,.int .i64 c.u.takes,.slice c.ac c.u.code.length c.cc,.pointer top,.int .i64 (k.st.length:Int),bvV k.fl.a,bvV k.fl.b,bvV k.fl.c,bvV k.fl.d,.int .i64 n,rv,.map (some c.M)]:Array Value).setIfInBounds 8 (.pointer top')).setIfInBounds 9 (.int .i64 (kn.st.length:Int))).setIfInBounds 10 (bvV kn.fl.a)).setIfInBounds 11 (bvV kn.fl.b)).setIfInBounds 12 (bvV kn.fl.c)).setIfInBounds 13 (bvV kn.fl.d)) 139 (0,0))=some (flO c top' kn.st kn.fl n rv):=by
 simp only [List.setIfInBounds_toArray,List.set_cons_succ,List.set_cons_zero]
theorem fl_load {c:FC}{w:World}{F:Nat}{top top':Option Addr}{k kn:Vf.Kn}{n:Int}{rv:Value}(h:w.heap[F]?=some (flO c top k.st k.fl n rv)):((((((w.setCell ⟨F,8,none⟩ (.pointer top')).setCell ⟨F,9,none⟩ (.int .i64 (kn.st.length:Int))).setCell ⟨F,10,none⟩ (bvV kn.fl.a)).setCell ⟨F,11,none⟩ (bvV kn.fl.b)).setCell ⟨F,12,none⟩ (bvV kn.fl.c)).setCell ⟨F,13,none⟩ (bvV kn.fl.d)).heap[F]?=some (flO c top' kn.st kn.fl n rv):=by
 have h1:=cells_set (cells_set (cells_set (cells_set (cells_set (cells_set h 8 (.pointer top')) 9 (.int .i64 (kn.st.length:Int))) 10 (bvV kn.fl.a)) 11 (bvV kn.fl.b)) 12 (bvV kn.fl.c)) 13 (bvV kn.fl.d)
 rw [h1]
 exact fl_six c top top' k kn n rv
theorem WF.load {c:FC}{B F:Nat}{w:World}{k kn:Vf.Kn}{n:Int}{s:Vf.S}{top top':Option Addr}{rv:Value}(h:WF c B F w k n s)(hF:FlIn c w F top k.st k.fl n rv)(hs:SkIn w top' kn.st) :
  WF c B F ((((((w.setCell ⟨F,8,none⟩ (.pointer top')).setCell ⟨F,9,none⟩ (.int .i64 (kn.st.length:Int))).setCell ⟨F,10,none⟩ (bvV kn.fl.a)).setCell ⟨F,11,none⟩ (bvV kn.fl.b)).setCell ⟨F,12,none⟩ (bvV kn.fl.c)).setCell ⟨F,13,none⟩ (bvV kn.fl.d)).drew kn n s∧Below B w ((((((w.setCell ⟨F,8,none⟩ (.pointer top')).setCell ⟨F,9,none⟩ (.int .i64 (kn.st.length:Int))).setCell ⟨F,10,none⟩ (bvV kn.fl.a)).setCell ⟨F,11,none⟩ (bvV kn.fl.b)).setCell ⟨F,12,none⟩ (bvV kn.fl.c)).setCell ⟨F,13,none⟩ (bvV kn.fl.d)).drew:=by
 have hg0:=grown_set (grown_set (grown_set (grown_set (grown_set (grown_set (grown_refl w F) 8 (.pointer top')) 9 (.int .i64 (kn.st.length:Int))) 10 (bvV kn.fl.a)) 11 (bvV kn.fl.b)) 12 (bvV kn.fl.c)) 13 (bvV kn.fl.d)
 have hb:=fl_load (top':=top') (kn:=kn) hF.blk
 generalize ((((((w.setCell ⟨F,8,none⟩ (.pointer top')).setCell ⟨F,9,none⟩ (.int .i64 (kn.st.length:Int))).setCell ⟨F,10,none⟩ (bvV kn.fl.a)).setCell ⟨F,11,none⟩ (bvV kn.fl.b)).setCell ⟨F,12,none⟩ (bvV kn.fl.c)).setCell ⟨F,13,none⟩ (bvV kn.fl.d))=X at *
 have hg:=grown_drew2 hg0
 refine ⟨h.own (top:=top') (rv:=rv) hg (FlIn.drew ⟨hb,hs.grown hg0 hF.blk⟩) (fun top2 rv2 h2=>?_),below_grown hg (by have:=h.env.base;have:=h.env.lt;omega) (fun j e=>by cases e;exact h.env.base)⟩
 have:=hF.blk.symm.trans h2.blk
 simp at this
 exact this.2
theorem flow_nil {m:Vf.Md}{u:Vf.Un}{come:Nat→Option Vf.Kn}(f:Nat):Vf.flow m u f ⟨come,[]⟩=(0,0):=by cases f <;> rfl
theorem whole_any (c:FC)(B F:Nat)(w:World)(h0:Hid (FlIn c w F none [] Vf.Fl.none 0 (.slice none 0 0)))(hE:Hid (Env c B F w))(hC:Hid (ComeIn w c.M (fun _=>none)))(hM:B≤c.M)(hR:Hid (Rt c.m))(hu:Hid (Vf.headE c.m c.u=0))(hfo:Hid (Vf.Forms c.m c.u))(er num:Int)(hr:Hid ((er,num)=((Vf.flowF c.m c.u).1,((Vf.flowF c.m c.u).2:Int)))) :
  Calls Tryz.prog 55 #[.pointer (some ⟨F,0,none⟩)] w fun e w'=>Below B w w'∧Thrown er num e:=by
 have hlt:=hE.out.lt
 have hBF:=hE.out.base
 obtain ⟨hz1,hz2,hz3,hz4,hz5,hz6⟩:=sized_true (headE_zero hu.out).2.1
 obtain ⟨p,hp⟩:∃ p:Nat,c.u.params=p:=⟨c.u.params.toNat,by omega⟩
 have hp6:p≤6:=by omega
 have c3:=(fl_cells h0.out.blk).2.2.2.1
 rw [hp] at c3
 have HP:Hid (c.u.params.toNat=p):=by unfold Hid;omega
 clear hp hz2 hz3 hz4
 go_enter Tryz.func55,Tryz.ntmps55
 go_wp2
 go_loopw [9] (fun v wr=>∃ k:Nat,v=.int .i64 k∧k≤p∧Hid (FlIn c wr F none [] (Vf.Fl.first k) 0 (.slice none 0 0))∧Hid (w.grownBy wr (some F))) (fun v _=>p - (intOf v).toNat)
 case atStart=>exact ⟨0,rfl,Nat.zero_le _,h0,grown_refl _ _⟩
 case round =>
  obtain ⟨k,rfl,hkp,HF,HG⟩:=hrel
  clear c3
  by_cases hk:k < p
  ·go_wp2_with fail
   refine (fill_any c F none [] (Vf.Fl.first k) 0 (.slice none 0 0) k (by omega) _ HF).mono ?_
   rintro e w1 ⟨rfl,hg1,hF1⟩
   have HG1:Hid (w.grownBy w1 (some F)):=grown_tr HG.out hg1
   have HF1:Hid (FlIn c w1 F none [] (Vf.Fl.first (k+1)) 0 (.slice none 0 0)):=hF1
   clear hg1 hF1
   go_wp2
   go_roundw
   case rel=>exact ⟨k+1,by go_num,by omega,HF1,HG1⟩
   case measure=>simp [intOf];omega
  ·obtain rfl:k=p:=by omega
   obtain ⟨d8,d9,_⟩:=fl_cells2 HF.out.blk
   obtain ⟨d10,d11,d12,d13,_⟩:=fl_cells3 HF.out.blk
   have kcw:KC w wr:=kc_block HG.out h0.out.blk (fun cs e=>by cases e)
   have hne:=hC.out.ne h0.out.blk
   have HW:Hid (WF c B F wr ⟨[],Vf.Fl.first k⟩ 0 ⟨fun _=>none,[]⟩):=⟨hE.out.grown HG.out,hM,⟨none,_,HF.out,QR.nil _ _⟩,hC.out.keep (HG.out.block _ hC.out.lt (by simp;omega)) kcw⟩
   have HB:Hid (Below B w wr):=below_grown HG.out (by omega) (fun j e=>by cases e;exact hBF)
   have HST:Hid ((⟨fun _=>none,[]⟩:Vf.S).note 0 ⟨[],Vf.Fl.first k⟩=Vf.start c.u):=by unfold Hid;unfold Vf.start;rw [HP.out]
   clear kcw hne
   go_wp2_with fail
   refine (note_any c B F ⟨[],Vf.Fl.first k⟩ ⟨[],Vf.Fl.first k⟩ 0 ⟨fun _=>none,[]⟩ 0 none _ HW (hide rfl) (Nat.zero_le _)).mono ?_
   rintro e w1 ⟨rfl,hW1,hb1⟩
   rw [HST.out] at hW1
   have HWA:Hid (WAt c B F er num w (Vf.mu c.u.code.length (Vf.start c.u)+1) w1):=by
    refine ⟨_,_,_,hW1,HB.out.trans hb1,?_,by omega,?_,hr.out⟩
    ·refine note_inv ⟨fun i k hk=>(by cases hk),fun i hi=>(by cases hi)⟩ hz5 ⟨fun t ht=>(by cases ht),by simp⟩
    ·have:=Vf.mu_start (u:=c.u)
     omega
   have HB1:Hid (Below B w w1):=HB.out.trans hb1
   clear hW1 hb1 d8 d9 d10 d11 d12 d13 hkp hk HW HB HST HF HG
   go_wp2_with fail
   go_loopg [] (Vf.mu c.u.code.length (Vf.start c.u)+1) (fun gk wr=>WAt c B F er num w gk wr)
   case atStart=>exact HWA.out
   case round =>
    obtain ⟨kk,n,s,hW,hb,hI,hmu,hm3,hfl⟩:=hrel
    clear HWA HB1
    have hltr:=hW.env.lt
    obtain ⟨top,rv,hF,hq⟩:=hW.fl
    obtain ⟨come,row⟩:=s
    have HW:=hide hW
    have HB:=hide hb
    have HI:=hide hI
    have HMU:=hide hmu
    have HM3:=hide hm3
    have HFL:=hide hfl
    have HF:=hide hF
    clear hW hb hI hmu hm3 hfl hF
    cases row with
    | nil =>
     obtain ⟨ar,cr,hrv⟩:=hq.form
     subst hrv
     have d15:=(fl_cells4 HF.out.blk).2.1
     have HE:Hid (er=0∧num=0):=by
      have:=HFL.out
      rw [flow_nil] at this
      cases this
      exact ⟨rfl,rfl⟩
     clear hq
     go_wp2
     go_end0
     rw [HE.out.1,HE.out.2]
     exact ⟨HB.out,thrown_ok⟩
    | cons i rest =>
     obtain ⟨g,off,cap,hrv,hcap,cx,hq1,hq2⟩:=hq.pop
     subst hrv
     have hgF:g≠F:=fun e=>by
      subst e
      exact hq.ty HF.out.blk (fun cs fr e=>by cases e) rfl
     obtain ⟨d14,d15,d16,z14,z15⟩:=fl_cells4 HF.out.blk
     have hL0:(0:Int) < (rest.length:Int)+1:=by omega
     have HQ1:=hide hq1
     have HQ2:=hide hq2
     clear hq hq1 hq2
     go_upto_region 7 with fail
     go_cut [] (fun wx=>WF c B F wx kk (i:Int) ⟨come,rest⟩∧Below B wr wx)
     case first =>
      have m0:(0:Int)≤(rest.length:Int):=by omega
      by_cases hc1:cap=1
      ·subst hc1
       have hr0:rest.length=0:=by omega
       have HQ:=hide (HQ1.out rfl)
       rw [hr0] at d15 hL0 HF
       rw [hr0]
       go_region
       all_goals
        go_wp2_with fail
        go_meet
        exact HW.out.front HF.out HQ.out
      ·have HQ:=hide (HQ2.out hc1)
       have hcI:¬ (cap:Int)=1:=by omega
       go_region
       all_goals
        go_wp2_with fail
        go_meet
        exact HW.out.front HF.out HQ.out
     case rest =>
      obtain ⟨hW2,hb2⟩:=hcut
      obtain ⟨kn,hkn0⟩:=HI.out.row i List.mem_cons_self
      have hkn:come i=some kn:=hkn0
      clear hkn0
      obtain ⟨hil,hok⟩:=HI.out.come i kn hkn
      obtain ⟨x,hx⟩:∃ x,c.u.code[i]?=some x:=⟨_,List.getElem?_eq_getElem hil⟩
      have HX:=hide hx
      have HOK:=hide hok
      have HKN:=hide hkn
      have HB2:Hid (Below B w wc):=HB.out.trans hb2
      have HI2:Hid (Inv c.m c.u ⟨come,rest⟩):=⟨HI.out.come,fun j hj=>HI.out.row j (List.mem_cons_of_mem _ hj)⟩
      have hil4:i < 4000:=by omega
      obtain ⟨r,hrr⟩:∃ r,r=Vf.look c.m c.u i ⟨come,rest⟩:=⟨_,rfl⟩
      have HRR:Hid (r=Vf.andThen (Vf.reck c.m c.u x kn) fun k'=>Vf.goAll c.u.code.length k' (Vf.goes x i) ⟨come,rest⟩):=by
       unfold Hid
       rw [hrr,Vf.look]
       simp only [hkn,hx]
      have HNZ:Hid (NZ r):=by rw [hrr];exact look_nz _ _ _ _
      have HLM:Hid (∀ s',r=.ok s'→Vf.mu c.u.code.length s'≤Vf.mu c.u.code.length ⟨come,rest⟩):=fun s' e=>Vf.look_mu hfo.out (hrr.symm.trans e)
      have HFX:Hid (Vf.formE c.m c.u x=0):=hfo.out x (List.mem_of_getElem? hx)
      have HMR:Hid (Vf.mu c.u.code.length ⟨come,i :: rest⟩=Vf.mu c.u.code.length ⟨come,rest⟩+1):=Vf.mu_row
      obtain ⟨f,rfl⟩:∃ f,gk=f+1:=⟨gk - 1,by have:=HMU.out;omega⟩
      have HFE:Hid (∀ er',r=.error er'→er=er'∧num=(i:Int)):=fun er' e=>by
       have h1:=HFL.out
       have h2:Vf.flow c.m c.u (f+1) ⟨come,i :: rest⟩=(er',i):=by
        unfold Vf.flow
        simp only
        rw [← hrr,e]
       rw [h2] at h1
       cases h1
       exact ⟨rfl,rfl⟩
      have HFO:Hid (∀ s',r=.ok s'→(er,num)=((Vf.flow c.m c.u f s').1,((Vf.flow c.m c.u f s').2:Int))):=fun s' e=>by
       have h1:=HFL.out
       have h2:Vf.flow c.m c.u (f+1) ⟨come,i :: rest⟩=Vf.flow c.m c.u f s':=by
        conv=>lhs;unfold Vf.flow
        simp only
        rw [← hrr,e]
       rw [h2] at h1
       exact h1
      clear hx hok hkn hrr hb2 HFL HQ1 HQ2 cx d14 d15 d16 z14 z15 HW HF HI HB hgF
      obtain ⟨top2,rv2,hF2,hq2⟩:=hW2.fl
      obtain ⟨e14,e15,e16,y14,y15⟩:=fl_cells4 hF2.blk
      obtain ⟨e8,e9,y8,y9⟩:=fl_cells2 hF2.blk
      obtain ⟨e10,e11,e12,e13,y10,y11,y12,y13⟩:=fl_cells3 hF2.blk
      obtain ⟨tk,hsk,hlk,_⟩:=run_has hW2.come.drew HKN.out
      have HLD:=hide (hW2.load hF2 (hsk.keep fun _ _ hb=>hb))
      have HB3:=hide (HB2.out.trans HLD.out.2)
      clear hF2 hq2 hsk hW2
      go_upto_region 8 with fail
      go_cut [] (fun wx=>WF c B F wx kn (i:Int) ⟨come,rest⟩∧Below B w wx)
      case first =>
       go_region
       all_goals
        go_wp2_with fail
        go_meet
        exact ⟨HLD.out.1,HB3.out⟩
      case rest =>
       obtain ⟨hW4,hb4⟩:=hcut
       clear e8 e9 e10 e11 e12 e13 e14 e15 e16 y8 y9 y10 y11 y12 y13 y14 y15 hlk HLD HB3 HB2
       have HW4:=hide hW4
       have HB4:=hide hb4
       obtain ⟨top4,rv4,hF4,hq4⟩:=hW4.fl
       have HF4:=hide hF4
       obtain ⟨_,_,_,bc,oc,hac,hbc,i0,i1,i2⟩:=hW4.env.un.code i x HX.out
       have HSC:Hid (∀ w',Low B wc w'→(∃ top st f rv,FlIn c w' F top st f (i:Int) rv)→(w'.cell? ⟨F,7,none⟩=some (.slice (some ⟨bc,oc,none⟩) c.u.code.length c.cc)∧w'.cell? ⟨F,14,none⟩=some (.int .i64 (i:Int))∧w'.cell? ⟨bc,oc+i * 3,none⟩=some (.int .i64 x.op)∧w'.cell? ⟨bc,oc+i * 3+1,none⟩=some (.int .i64 x.a)∧w'.cell? ⟨bc,oc+i * 3+2,none⟩=some (.int .i64 x.n))):=fun w' hlow ⟨tp,st,f',rv',hF'⟩=>by
        have c7:=(fl_cells hF'.blk).2.2.2.2.2.2.2
        rw [hac] at c7
        exact ⟨c7,(fl_cells4 hF'.blk).1,(cell_eq (hlow bc hbc) _).trans i0,(cell_eq (hlow bc hbc) _).trans i1,(cell_eq (hlow bc hbc) _).trans i2⟩
       have hiI:(i:Int) < (c.u.code.length:Int):=by omega
       have q4:=HSC.out wc (fun _ _=>rfl) ⟨_,_,_,_,hF4⟩
       obtain ⟨rS,hrS⟩:∃ rS,rS=Vf.reckS c.m c.u x kn:=⟨_,rfl⟩
       have HRS:=hide hrS
       have HR5:Hid (r=Vf.andThen rS fun st'=>Vf.goAll c.u.code.length ⟨st',Vf.reckF x kn.fl⟩ (Vf.goes x i) ⟨come,rest⟩):=by
        unfold Hid
        rw [HRR.out,Vf.reck,← hrS]
        cases rS <;> rfl
       have HOK2:Hid (Ok (OkS c.m) rS):=by rw [hrS];exact reckS_ok hR.out hu.out HFX.out HOK.out
       have HBl:Hid (∀ w',wc.grownBy w' (some F)→Below B wc w'):=fun w' hg=>below_grown hg (by have:=hW4.env.base;have:=hW4.env.lt;omega) (fun j e=>by cases e;exact hW4.env.base)
       clear hW4 hb4 hF4 hq4 i0 i1 i2 hrS HRR
       go_wp2_with fail
       refine wp_region_held_drew (S:=fun w'=>w'.cell? ⟨F,7,none⟩=some (.slice (some ⟨bc,oc,none⟩) c.u.code.length c.cc)∧w'.cell? ⟨F,14,none⟩=some (.int .i64 (i:Int))∧w'.cell? ⟨bc,oc+i * 3,none⟩=some (.int .i64 x.op)∧w'.cell? ⟨bc,oc+i * 3+1,none⟩=some (.int .i64 x.a)∧w'.cell? ⟨bc,oc+i * 3+2,none⟩=some (.int .i64 x.n)) (by kernel_rfl) q4 (fun hHeld=>?_)
       refine wpAnyH_take (i:=0) (oi:=_) (v:=?_) rfl (by kernel_rfl) (by kernel_rfl) (by kernel_rfl) (fun _ _ _ h=>h) (Or.inl ⟨by rfl,?_⟩) (by assumption) ?_
       rotate_left
       ·intro w hSw
        (try dsimp only at hSw)
        go_simp
        (try with_reducible rfl)
       (try go_frame)
       refine wpAnyH_take (i:=1) (oi:=_) (v:=?_) rfl (by kernel_rfl) (by kernel_rfl) (by kernel_rfl) (fun _ _ _ h=>h) (Or.inl ⟨by rfl,?_⟩) (by assumption) ?_
       rotate_left
       ·intro w hSw
        (try dsimp only at hSw)
        go_simp
        (try with_reducible rfl)
       (try go_frame)
       refine wpAnyH_take (i:=2) (oi:=_) (v:=?_) rfl (by kernel_rfl) (by kernel_rfl) (by kernel_rfl) (fun _ _ _ h=>h) (Or.inl ⟨by rfl,?_⟩) (by assumption) ?_
       rotate_left
       ·intro w hSw
        (try dsimp only at hSw)
        go_simp
        (try with_reducible rfl)
       (try go_frame)
       refine wpAnyH_take (i:=3) (oi:=_) (v:=?_) rfl (by kernel_rfl) (by kernel_rfl) (by kernel_rfl) (fun _ _ _ h=>h) (Or.inl ⟨by rfl,?_⟩) (by assumption) ?_
       rotate_left
       ·intro w hSw
        (try dsimp only at hSw)
        go_simp
        (try with_reducible rfl)
       (try go_frame)
       refine wpAnyH_take (i:=4) (oi:=_) (v:=?_) rfl (by kernel_rfl) (by kernel_rfl) (by kernel_rfl) (fun _ _ _ h=>h) (Or.inl ⟨by rfl,?_⟩) (by assumption) ?_
       rotate_left
       ·intro w hSw
        (try dsimp only at hSw)
        go_simp
        (try with_reducible rfl)
       (try go_frame)
       refine wpAnyH_take (i:=5) (oi:=_) (v:=?_) rfl (by kernel_rfl) (by kernel_rfl) (by kernel_rfl) (fun _ _ _ h=>h) (Or.inl ⟨by rfl,?_⟩) (by assumption) ?_
       rotate_left
       ·intro w hSw
        (try dsimp only at hSw)
        go_simp
        (try with_reducible rfl)
       (try go_frame)
       refine wpAnyH_take (i:=6) (oi:=_) (v:=?_) rfl (by kernel_rfl) (by kernel_rfl) (by kernel_rfl) (fun _ _ _ h=>h) (Or.inl ⟨by rfl,?_⟩) (by assumption) ?_
       rotate_left
       ·intro w hSw
        (try dsimp only at hSw)
        go_simp
        (try with_reducible rfl)
       (try go_frame)
       refine wpAnyH_take (i:=7) (oi:=_) (v:=?_) rfl (by kernel_rfl) (by kernel_rfl) (by kernel_rfl) (fun _ _ _ h=>h) (Or.inl ⟨by rfl,?_⟩) (by assumption) ?_
       rotate_left
       ·intro w hSw
        (try dsimp only at hSw)
        go_simp
        (try with_reducible rfl)
       (try go_frame)
       refine wpAnyH_take (i:=8) (oi:=_) (v:=?_) rfl (by kernel_rfl) (by kernel_rfl) (by kernel_rfl) (fun _ _ _ h=>h) (Or.inl ⟨by rfl,?_⟩) (by assumption) ?_
       rotate_left
       ·intro w hSw
        (try dsimp only at hSw)
        go_simp
        (try with_reducible rfl)
       (try go_frame)
       refine wpAnyH_take (i:=9) (oi:=_) (v:=?_) rfl (by kernel_rfl) (by kernel_rfl) (by kernel_rfl) (fun _ _ _ h=>h) (Or.inl ⟨by rfl,?_⟩) (by assumption) ?_
       rotate_left
       ·intro w hSw
        (try dsimp only at hSw)
        go_simp
        (try with_reducible rfl)
       (try go_frame)
       refine wpAnyH_take (i:=10) (oi:=_) (v:=?_) rfl (by kernel_rfl) (by kernel_rfl) (by kernel_rfl) (fun _ _ _ h=>h) (Or.inl ⟨by rfl,?_⟩) (by assumption) ?_
       rotate_left
       ·intro w hSw
        (try dsimp only at hSw)
        go_simp
        (try with_reducible rfl)
       (try go_frame)
       refine wpAnyH_take (i:=11) (oi:=_) (v:=?_) rfl (by kernel_rfl) (by kernel_rfl) (by kernel_rfl) (fun _ _ _ h=>h) (Or.inl ⟨by rfl,?_⟩) (by assumption) ?_
       rotate_left
       ·intro w hSw
        (try dsimp only at hSw)
        go_simp
        (try with_reducible rfl)
       (try go_frame)
       refine wpAnyH_take (i:=12) (oi:=_) (v:=?_) rfl (by kernel_rfl) (by kernel_rfl) (by kernel_rfl) (fun _ _ _ h=>h) (Or.inl ⟨by rfl,?_⟩) (by assumption) ?_
       rotate_left
       ·intro w hSw
        (try dsimp only at hSw)
        go_simp
        (try with_reducible rfl)
       (try go_frame)
       refine wpAnyH_ready (rs:=[13]) (by kernel_rfl) (by simp) ?_
       refine AllReadyH.cons (o:=_) rfl (fun K hK=>?_) AllReadyH.nil
       go_simp
       refine (reckon_any c F B top4 kn.st kn.fl (i:Int) rv4 x.op x.a x.n _ (hide HF4.out.drew) (hide HW4.out.env.drew) HOK.out.2 (hide HOK.out.1) hR HFX hz1 rS HRS).mono ?_
       rintro e w5 hS
       have hg5:wc.grownBy w5 (some F):=grown_drew hS.grown
       cases rS with
       | error er' =>
        obtain rfl:=hS.no er' rfl
        have HE:=hide (HFE.out er' HR5.out)
        have HE0:Hid (er'≠0):=HNZ.out er' HR5.out
        have HB5:Hid (Below B w w5):=HB4.out.trans (HBl.out w5 hg5)
        clear hS hK hg5
        go_wp2
        rw [HE.out.1,HE.out.2]
        exact ⟨rfl,HB5.out,thrown_no HE0.out⟩
       | ok st5 =>
        obtain ⟨rfl,top5,hF5⟩:=hS.yes st5 rfl
        have HW5:Hid (WF c B F w5 ⟨st5,Vf.reckF x kn.fl⟩ (i:Int) ⟨come,rest⟩):=HW4.out.own (k':=⟨st5,Vf.reckF x kn.fl⟩) hg5 hF5 (fun tp rv' h'=>by
         have:=HF4.out.blk.symm.trans h'.blk
         simp at this
         exact this.2)
        have HOK5:Hid (OkS c.m st5):=HOK2.out st5 rfl
        have HR6:Hid (r=Vf.goAll c.u.code.length ⟨st5,Vf.reckF x kn.fl⟩ (Vf.goes x i) ⟨come,rest⟩):=HR5.out
        have q5:=HSC.out w5 (fun j hj=>(HBl.out w5 hg5).block j hj) ⟨_,_,_,_,hF5⟩
        have HB5:Hid (Below B w w5):=HB4.out.trans (HBl.out w5 hg5)
        have HF5:=hide hF5
        have HS5:Hid (∀ w',Below B w5 w'→(∃ top st f rv,FlIn c w' F top st f (i:Int) rv)→(w'.cell? ⟨F,7,none⟩=some (.slice (some ⟨bc,oc,none⟩) c.u.code.length c.cc)∧w'.cell? ⟨F,14,none⟩=some (.int .i64 (i:Int))∧w'.cell? ⟨bc,oc+i * 3,none⟩=some (.int .i64 x.op)∧w'.cell? ⟨bc,oc+i * 3+1,none⟩=some (.int .i64 x.a)∧w'.cell? ⟨bc,oc+i * 3+2,none⟩=some (.int .i64 x.n))):=fun w' hb hF'=>HSC.out w' (fun j hj=>(hb.block j hj).trans ((HBl.out w5 hg5).block j hj)) hF'
        refine hK.out _ _ q5 (fun hHeld=>?_)
        clear hK hS hg5 hF5 hHeld q4
        refine wpAnyH_done (by kernel_rfl) ?_ _
        have hrow5:rest.length≤99999999:=by have h1:=HM3.out;have h2:rest.length≤Vf.mu c.u.code.length ⟨come,rest⟩:=Vf.row_few (s:=⟨come,rest⟩);have h3:=HMR.out;omega
        go_wp2_with fail
        refine wp_region_held_drew (S:=fun w'=>w'.cell? ⟨F,7,none⟩=some (.slice (some ⟨bc,oc,none⟩) c.u.code.length c.cc)∧w'.cell? ⟨F,14,none⟩=some (.int .i64 (i:Int))∧w'.cell? ⟨bc,oc+i * 3,none⟩=some (.int .i64 x.op)∧w'.cell? ⟨bc,oc+i * 3+1,none⟩=some (.int .i64 x.a)∧w'.cell? ⟨bc,oc+i * 3+2,none⟩=some (.int .i64 x.n)) (by kernel_rfl) q5 (fun hHeld=>?_)
        refine wpAnyH_take (i:=0) (oi:=_) (v:=?_) rfl (by kernel_rfl) (by kernel_rfl) (by kernel_rfl) (fun _ _ _ h=>h) (Or.inl ⟨by rfl,?_⟩) (by assumption) ?_
        rotate_left
        ·intro w hSw
         (try dsimp only at hSw)
         go_simp
         (try with_reducible rfl)
        (try go_frame)
        refine wpAnyH_take (i:=1) (oi:=_) (v:=?_) rfl (by kernel_rfl) (by kernel_rfl) (by kernel_rfl) (fun _ _ _ h=>h) (Or.inl ⟨by rfl,?_⟩) (by assumption) ?_
        rotate_left
        ·intro w hSw
         (try dsimp only at hSw)
         go_simp
         (try with_reducible rfl)
        (try go_frame)
        refine wpAnyH_take (i:=2) (oi:=_) (v:=?_) rfl (by kernel_rfl) (by kernel_rfl) (by kernel_rfl) (fun _ _ _ h=>h) (Or.inl ⟨by rfl,?_⟩) (by assumption) ?_
        rotate_left
        ·intro w hSw
         (try dsimp only at hSw)
         go_simp
         (try with_reducible rfl)
        (try go_frame)
        refine wpAnyH_take (i:=3) (oi:=_) (v:=?_) rfl (by kernel_rfl) (by kernel_rfl) (by kernel_rfl) (fun _ _ _ h=>h) (Or.inl ⟨by rfl,?_⟩) (by assumption) ?_
        rotate_left
        ·intro w hSw
         (try dsimp only at hSw)
         go_simp
         (try with_reducible rfl)
        (try go_frame)
        refine wpAnyH_take (i:=4) (oi:=_) (v:=?_) rfl (by kernel_rfl) (by kernel_rfl) (by kernel_rfl) (fun _ _ _ h=>h) (Or.inl ⟨by rfl,?_⟩) (by assumption) ?_
        rotate_left
        ·intro w hSw
         (try dsimp only at hSw)
         go_simp
         (try with_reducible rfl)
        (try go_frame)
        refine wpAnyH_take (i:=5) (oi:=_) (v:=?_) rfl (by kernel_rfl) (by kernel_rfl) (by kernel_rfl) (fun _ _ _ h=>h) (Or.inl ⟨by rfl,?_⟩) (by assumption) ?_
        rotate_left
        ·intro w hSw
         (try dsimp only at hSw)
         go_simp
         (try with_reducible rfl)
        (try go_frame)
        refine wpAnyH_take (i:=6) (oi:=_) (v:=?_) rfl (by kernel_rfl) (by kernel_rfl) (by kernel_rfl) (fun _ _ _ h=>h) (Or.inl ⟨by rfl,?_⟩) (by assumption) ?_
        rotate_left
        ·intro w hSw
         (try dsimp only at hSw)
         go_simp
         (try with_reducible rfl)
        (try go_frame)
        refine wpAnyH_take (i:=7) (oi:=_) (v:=?_) rfl (by kernel_rfl) (by kernel_rfl) (by kernel_rfl) (fun _ _ _ h=>h) (Or.inl ⟨by rfl,?_⟩) (by assumption) ?_
        rotate_left
        ·intro w hSw
         (try dsimp only at hSw)
         go_simp
         (try with_reducible rfl)
        (try go_frame)
        refine wpAnyH_take (i:=8) (oi:=_) (v:=?_) rfl (by kernel_rfl) (by kernel_rfl) (by kernel_rfl) (fun _ _ _ h=>h) (Or.inl ⟨by rfl,?_⟩) (by assumption) ?_
        rotate_left
        ·intro w hSw
         (try dsimp only at hSw)
         go_simp
         (try with_reducible rfl)
        (try go_frame)
        refine wpAnyH_take (i:=9) (oi:=_) (v:=?_) rfl (by kernel_rfl) (by kernel_rfl) (by kernel_rfl) (fun _ _ _ h=>h) (Or.inl ⟨by rfl,?_⟩) (by assumption) ?_
        rotate_left
        ·intro w hSw
         (try dsimp only at hSw)
         go_simp
         (try with_reducible rfl)
        (try go_frame)
        refine wpAnyH_take (i:=10) (oi:=_) (v:=?_) rfl (by kernel_rfl) (by kernel_rfl) (by kernel_rfl) (fun _ _ _ h=>h) (Or.inl ⟨by rfl,?_⟩) (by assumption) ?_
        rotate_left
        ·intro w hSw
         (try dsimp only at hSw)
         go_simp
         (try with_reducible rfl)
        (try go_frame)
        refine wpAnyH_take (i:=11) (oi:=_) (v:=?_) rfl (by kernel_rfl) (by kernel_rfl) (by kernel_rfl) (fun _ _ _ h=>h) (Or.inl ⟨by rfl,?_⟩) (by assumption) ?_
        rotate_left
        ·intro w hSw
         (try dsimp only at hSw)
         go_simp
         (try with_reducible rfl)
        (try go_frame)
        refine wpAnyH_take (i:=12) (oi:=_) (v:=?_) rfl (by kernel_rfl) (by kernel_rfl) (by kernel_rfl) (fun _ _ _ h=>h) (Or.inl ⟨by rfl,?_⟩) (by assumption) ?_
        rotate_left
        ·intro w hSw
         (try dsimp only at hSw)
         go_simp
         (try with_reducible rfl)
        (try go_frame)
        refine wpAnyH_ready (rs:=[13]) (by kernel_rfl) (by simp) ?_
        refine AllReadyH.cons (o:=_) rfl (fun K hK=>?_) AllReadyH.nil
        go_simp
        refine (leave_any c B F ⟨st5,Vf.reckF x kn.fl⟩ i ⟨come,rest⟩ x.op x.a x.n _ (hide (HW5.out.quiet (grown0_drew (World.grownBy.refl _ _)))) hrow5 (by omega) HFX HI2 HOK5 r HR6).mono ?_
        rintro e w6 hS
        have HB6:Hid (Below B w w6):=HB5.out.trans (by have:=hS.below;exact ⟨this.os,this.tape,this.output,this.size,this.block⟩)
        cases r with
        | error er' =>
         obtain rfl:=hS.no er' rfl
         have HE:=hide (HFE.out er' rfl)
         have HE0:Hid (er'≠0):=HNZ.out er' rfl
         clear hS hK
         go_wp2
         rw [HE.out.1,HE.out.2]
         exact ⟨rfl,HB6.out,thrown_no HE0.out⟩
        | ok s6 =>
         obtain ⟨rfl,hW6⟩:=hS.yes s6 rfl
         have HI6:Hid (Inv c.m c.u s6):=goAll_inv (k:=⟨st5,Vf.reckF x kn.fl⟩) HOK5.out HI2.out (Vf.goes_nn HFX.out i) HR6.out.symm
         have HM6:=hide (HLM.out s6 rfl)
         have HF6:=hide (HFO.out s6 rfl)
         have HW6:=hide hW6
         obtain ⟨top6,rv6,hF6,_⟩:=hW6.fl
         refine hK.out _ _ (HS5.out w6 (by have:=hS.below;exact ⟨this.os,this.tape,this.output,this.size,this.block⟩) ⟨_,_,_,_,hF6⟩) (fun hHeld=>?_)
         clear hK hS hW6 hF6 hHeld q5
         refine wpAnyH_done (by kernel_rfl) ?_ _
         go_wp2
         go_roundg f
         case measure=>omega
         case rel =>
          have h1:=HMU.out
          have h2:=HMR.out
          have h3:=HM6.out
          have h4:=HM3.out
          exact ⟨_,_,s6,HW6.out,HB6.out,HI6.out,by omega,by omega,HF6.out⟩
theorem two_new (w:World)(a b:Obj):w.grownBy ((w.alloc a).alloc b) none:=grown0_new (grown0_new (World.grownBy.refl _ _) _) _
theorem ranged2 (c:FC)(a nn:Int)(w:World)(b:Bool)(hb:Hid (b=(a == 0 || a == 1))) :
  Calls Tryz.prog 92 #[utV c,.agg #[.int .i64 2,.int .i64 a,.int .i64 nn]] w fun e w'=>e=.returned (.bool b)∧w.grownBy w' none:=by
 go_enter Tryz.func92,Tryz.ntmps92
 go_wp2
 all_goals
  go_ret
  refine ⟨bool_ret ?_,two_new _ _ _⟩
  rw [hb.out]
  (try simp [*])
  (try omega)
theorem ranged3 (c:FC)(a nn:Int)(w:World)(b:Bool)(hb:Hid (b=(decide (0≤a) && decide (a < c.u.locals.length)))) :
  Calls Tryz.prog 92 #[utV c,.agg #[.int .i64 3,.int .i64 a,.int .i64 nn]] w fun e w'=>e=.returned (.bool b)∧w.grownBy w' none:=by
 go_enter Tryz.func92,Tryz.ntmps92
 go_wp2
 all_goals
  go_ret
  refine ⟨bool_ret ?_,two_new _ _ _⟩
  rw [hb.out]
  (try simp [*])
  (try omega)
theorem ranged4 (c:FC)(a nn:Int)(w:World)(b:Bool)(hb:Hid (b=(decide (0≤a) && decide (a < c.u.locals.length)))) :
  Calls Tryz.prog 92 #[utV c,.agg #[.int .i64 4,.int .i64 a,.int .i64 nn]] w fun e w'=>e=.returned (.bool b)∧w.grownBy w' none:=by
 go_enter Tryz.func92,Tryz.ntmps92
 go_wp2
 all_goals
  go_ret
  refine ⟨bool_ret ?_,two_new _ _ _⟩
  rw [hb.out]
  (try simp [*])
  (try omega)
theorem ranged21 (c:FC)(a nn:Int)(w:World)(b:Bool)(hb:Hid (b=(decide (0≤a) && decide (a < c.u.code.length)))) :
  Calls Tryz.prog 92 #[utV c,.agg #[.int .i64 21,.int .i64 a,.int .i64 nn]] w fun e w'=>e=.returned (.bool b)∧w.grownBy w' none:=by
 go_enter Tryz.func92,Tryz.ntmps92
 go_wp2
 all_goals
  go_ret
  refine ⟨bool_ret ?_,two_new _ _ _⟩
  rw [hb.out]
  (try simp [*])
  (try omega)
theorem ranged22 (c:FC)(a nn:Int)(w:World)(b:Bool)(hb:Hid (b=(decide (0≤a) && decide (a < c.u.code.length)))) :
  Calls Tryz.prog 92 #[utV c,.agg #[.int .i64 22,.int .i64 a,.int .i64 nn]] w fun e w'=>e=.returned (.bool b)∧w.grownBy w' none:=by
 go_enter Tryz.func92,Tryz.ntmps92
 go_wp2
 all_goals
  go_ret
  refine ⟨bool_ret ?_,two_new _ _ _⟩
  rw [hb.out]
  (try simp [*])
  (try omega)
theorem ranged26 (c:FC)(a nn:Int)(w:World)(b:Bool)(hb:Hid (b=(decide (0≤a) && decide (a < c.m.boxes.length)))) :
  Calls Tryz.prog 92 #[utV c,.agg #[.int .i64 26,.int .i64 a,.int .i64 nn]] w fun e w'=>e=.returned (.bool b)∧w.grownBy w' none:=by
 go_enter Tryz.func92,Tryz.ntmps92
 go_wp2
 all_goals
  go_ret
  refine ⟨bool_ret ?_,two_new _ _ _⟩
  rw [hb.out]
  (try simp [*])
  (try omega)
theorem ranged27 (c:FC)(a nn:Int)(w:World)(b:Bool)(hb:Hid (b=(decide (0≤a) && decide (a < c.m.boxes.length)))) :
  Calls Tryz.prog 92 #[utV c,.agg #[.int .i64 27,.int .i64 a,.int .i64 nn]] w fun e w'=>e=.returned (.bool b)∧w.grownBy w' none:=by
 go_enter Tryz.func92,Tryz.ntmps92
 go_wp2
 all_goals
  go_ret
  refine ⟨bool_ret ?_,two_new _ _ _⟩
  rw [hb.out]
  (try simp [*])
  (try omega)
theorem ranged23 (c:FC)(B:Nat)(a nn:Int)(w:World)(hmd:Hid (ModIn B w c.m c.ab c.au))(hB:B≤w.heap.size)(b:Bool)(hb:Hid (b=Vf.is c.m 2 a)) :
  Calls Tryz.prog 92 #[utV c,.agg #[.int .i64 23,.int .i64 a,.int .i64 nn]] w fun e w'=>e=.returned (.bool b)∧w.grownBy w' none:=by
 have HM:Hid (ModIn B ((w.alloc (utO c)).alloc (insO 23 a nn)) c.m c.ab c.au):=hmd.out.low (low0 (two_new _ _ _) hB)
 go_enter Tryz.func92,Tryz.ntmps92
 go_wp2_with fail
 refine (is_any c.m c.ab c.au c.cb c.cu B 2 a _ HM (by simp;omega) b hb).mono ?_
 rintro e w2 ⟨rfl,rfl⟩
 go_wp2
 go_ret
 exact ⟨rfl,grown0_new (two_new _ _ _) _⟩
theorem ranged29 (c:FC)(B:Nat)(a nn:Int)(w:World)(hmd:Hid (ModIn B w c.m c.ab c.au))(hB:B≤w.heap.size)(b:Bool)(hb:Hid (b=Vf.is c.m 3 a)) :
  Calls Tryz.prog 92 #[utV c,.agg #[.int .i64 29,.int .i64 a,.int .i64 nn]] w fun e w'=>e=.returned (.bool b)∧w.grownBy w' none:=by
 have HM:Hid (ModIn B ((w.alloc (utO c)).alloc (insO 29 a nn)) c.m c.ab c.au):=hmd.out.low (low0 (two_new _ _ _) hB)
 go_enter Tryz.func92,Tryz.ntmps92
 go_wp2_with fail
 refine (is_any c.m c.ab c.au c.cb c.cu B 3 a _ HM (by simp;omega) b hb).mono ?_
 rintro e w2 ⟨rfl,rfl⟩
 go_wp2
 go_ret
 exact ⟨rfl,grown0_new (two_new _ _ _) _⟩
theorem rangedD (c:FC)(op a nn:Int)(hop:Hid (op≠2∧op≠3∧op≠4∧op≠21∧op≠22∧op≠23∧op≠26∧op≠27∧op≠29))(w:World) :
  Calls Tryz.prog 92 #[utV c,.agg #[.int .i64 op,.int .i64 a,.int .i64 nn]] w fun e w'=>e=.returned (.bool true)∧w.grownBy w' none:=by
 have g2:(op == 2)=false:=by have:=hop.out;simp;omega
 have g3:(op == 3)=false:=by have:=hop.out;simp;omega
 have g4:(op == 4)=false:=by have:=hop.out;simp;omega
 have g21:(op == 21)=false:=by have:=hop.out;simp;omega
 have g22:(op == 22)=false:=by have:=hop.out;simp;omega
 have g23:(op == 23)=false:=by have:=hop.out;simp;omega
 have g26:(op == 26)=false:=by have:=hop.out;simp;omega
 have g27:(op == 27)=false:=by have:=hop.out;simp;omega
 have g29:(op == 29)=false:=by have:=hop.out;simp;omega
 go_enter Tryz.func92,Tryz.ntmps92
 go_wp2
 go_ret
 exact ⟨rfl,two_new _ _ _⟩
theorem ranged_any (c:FC)(B:Nat)(op a nn:Int)(w:World)(hmd:Hid (ModIn B w c.m c.ab c.au))(hB:B≤w.heap.size)(b:Bool)(hb:Hid (b=Vf.ranged c.m c.u ⟨op,a,nn⟩)) :
  Calls Tryz.prog 92 #[utV c,.agg #[.int .i64 op,.int .i64 a,.int .i64 nn]] w fun e w'=>e=.returned (.bool b)∧w.grownBy w' none:=by
 by_cases h2:op=2
 ·subst h2;exact ranged2 c a nn w b (hide hb.out)
 by_cases h3:op=3
 ·subst h3;exact ranged3 c a nn w b (hide hb.out)
 by_cases h4:op=4
 ·subst h4;exact ranged4 c a nn w b (hide hb.out)
 by_cases h21:op=21
 ·subst h21;exact ranged21 c a nn w b (hide hb.out)
 by_cases h22:op=22
 ·subst h22;exact ranged22 c a nn w b (hide hb.out)
 by_cases h23:op=23
 ·subst h23;exact ranged23 c B a nn w hmd hB b (hide hb.out)
 by_cases h29:op=29
 ·subst h29;exact ranged29 c B a nn w hmd hB b (hide hb.out)
 by_cases h26:op=26
 ·subst h26;exact ranged26 c a nn w b (hide hb.out)
 by_cases h27:op=27
 ·subst h27;exact ranged27 c a nn w b (hide hb.out)
 have e:b=true:=by
  rw [hb.out,Vf.ranged,if_neg h2,if_neg (by rintro (h | h);exact h3 h;exact h4 h),if_neg (by rintro (h | h);exact h21 h;exact h22 h),if_neg h23,if_neg h29,if_neg (by rintro (h | h);exact h26 h;exact h27 h)]
 rw [e]
 exact rangedD c op a nn (hide ⟨h2,h3,h4,h21,h22,h23,h26,h27,h29⟩) w
def HE (er num:Int)(w:World)(e:Ending)(w':World):Prop:=w.grownBy w' none∧e=if er=0 then .returned (.tuple #[]) else .panicked [fltE er num]
theorem head_any (c:FC)(B:Nat)(w:World)(hmd:Hid (ModIn B w c.m c.ab c.au))(hun:Hid (UnIn B w c.u c.al c.ac c.cl c.cc))(hB:B≤w.heap.size)(hmu:c.m.units.length≤30)(er:Int)(hr:Hid (er=Vf.headE c.m c.u)) :
  Calls Tryz.prog 52 #[utV c] w fun e w'=>HE er 0 w e w':=by
 obtain ⟨b1,hb1⟩:∃ b,b=Vf.kindly c.u:=⟨_,rfl⟩
 obtain ⟨b2,hb2⟩:∃ b,b=Vf.sized c.u:=⟨_,rfl⟩
 obtain ⟨b3,hb3⟩:∃ b,b=Vf.typed c.m c.u:=⟨_,rfl⟩
 have HR:Hid (er=if b1=false then 1 else if b2=false then 5 else if b3=false then 9 else 0):=by unfold Hid;rw [hr.out,hb1,hb2,hb3];rfl
 have H1:=hide hb1
 have H2:=hide hb2
 have H3:=hide hb3
 have HM2:Hid (ModIn B (((w.alloc (utO c)).alloc (utO c)).alloc (utO c)) c.m c.ab c.au):=hmd.out.low (low0 (grown0_new (two_new _ _ _) _) hB)
 have HU2:Hid (UnIn B (((w.alloc (utO c)).alloc (utO c)).alloc (utO c)) c.u c.al c.ac c.cl c.cc):=hun.out.low (low0 (grown0_new (two_new _ _ _) _) hB)
 clear hr hb1 hb2 hb3
 go_enter Tryz.func52,Tryz.ntmps52
 go_wp2_with fail
 refine (kindly_any c _ b1 H1).mono ?_
 rintro e w1 ⟨rfl,rfl⟩
 cases b1 with
 | false =>
  have HE1:Hid (er=1):=HR.out
  go_wp2_with fail
  refine (throw_any 0 1 _).mono ?_
  rintro e w2 ⟨rfl,rfl⟩
  go_wp2
  rw [HE1.out]
  exact ⟨rfl,two_new _ _ _,rfl⟩
 | true =>
  go_wp2_with fail
  refine (sized_any c _ b2 H2).mono ?_
  rintro e w2 ⟨rfl,rfl⟩
  cases b2 with
  | false =>
   have HE1:Hid (er=5):=HR.out
   go_wp2_with fail
   refine (throw_any 0 5 _).mono ?_
   rintro e w2 ⟨rfl,rfl⟩
   go_wp2
   rw [HE1.out]
   exact ⟨rfl,grown0_new (two_new _ _ _) _,rfl⟩
  | true =>
   go_wp2_with fail
   refine (typed_any c B _ HM2 HU2 (by simp;omega) hmu b3 H3).mono ?_
   rintro e w3 ⟨rfl,hg3⟩
   have HG3:Hid (w.grownBy w3 none):=grown0_tr' (grown0_new (two_new _ _ _) _) hg3
   clear hg3
   cases b3 with
   | false =>
    have HE1:Hid (er=9):=HR.out
    go_wp2_with fail
    refine (throw_any 0 9 _).mono ?_
    rintro e w2 ⟨rfl,rfl⟩
    go_wp2
    rw [HE1.out]
    exact ⟨rfl,HG3.out,rfl⟩
   | true =>
    have HE1:Hid (er=0):=HR.out
    go_wp2
    go_end0
    rw [HE1.out]
    exact ⟨HG3.out,rfl⟩
theorem firstE_drop {α:Type}(f:α→Int){l:List α}{k:Nat}{x:α}(h:l[k]?=some x):Vf.firstE f (l.drop k) k=if f x=0 then Vf.firstE f (l.drop (k+1)) (k+1) else (f x,k):=by
 obtain ⟨hk,rfl⟩:=List.getElem?_eq_some_iff.1 h
 rw [List.drop_eq_getElem_cons hk]
 rfl
structure FmAt (c:FC) (w:World) (er num:Int) (k:Nat) (W:World):Prop where
 le:k≤c.u.code.length
 grown:(w.alloc (utO c)).grownBy W none
 rest:(er,num)=((Vf.firstE (Vf.formE c.m c.u) (c.u.code.drop k) k).1,((Vf.firstE (Vf.formE c.m c.u) (c.u.code.drop k) k).2:Int))
theorem forms_any (c:FC)(B:Nat)(w:World)(hmd:Hid (ModIn B w c.m c.ab c.au))(hun:Hid (UnIn B w c.u c.al c.ac c.cl c.cc))(hB:B≤w.heap.size)(er num:Int)(hr:Hid ((er,num)=((Vf.firstE (Vf.formE c.m c.u) c.u.code 0).1,((Vf.firstE (Vf.formE c.m c.u) c.u.code 0).2:Int)))) :
  Calls Tryz.prog 53 #[utV c] w fun e w'=>HE er num w e w':=by
 have hlo:c.u.code.length≤9223372036854775807:=hun.out.few.2
 go_enter Tryz.func53,Tryz.ntmps53
 go_wp2
 go_loopw [8] (fun v wr=>∃ k:Nat,v=.int .i64 k∧FmAt c w er num k wr) (fun v _=>c.u.code.length - (intOf v).toNat)
 case atStart=>exact ⟨0,rfl,Nat.zero_le _,World.grownBy.refl _ _,hr.out⟩
 case round =>
  obtain ⟨k,rfl,hA⟩:=hrel
  have HA:=hide hA
  have hk:=hA.le
  clear hA
  by_cases hlt:k < c.u.code.length
  ·obtain ⟨x,hx⟩:∃ x,c.u.code[k]?=some x:=⟨_,List.getElem?_eq_getElem hlt⟩
   have hlow:Low B w wr:=fun j hj=>(kept0 HA.out.grown (by simp;omega)).trans (Below.heap_alloc _ _ _ (by omega))
   obtain ⟨_,_,_,bl,ol,hal,hbl,i0,i1,i2⟩:=(hun.out.code.low hlow) k x hx
   have hub:wr.heap[w.heap.size]?=some (utO c):=(kept0 HA.out.grown (by simp)).trans (heap_alloc_new w _)
   obtain ⟨y0,y1,y2,y3,y4,y5,y6,y7⟩:=ut_cells hub
   have hwr:w.heap.size < wr.heap.size:=lt_of_block hub
   have HMr:Hid (ModIn B (wr.alloc (insO x.op x.a x.n)) c.m c.ab c.au):=(hmd.out.low hlow).low (low0 (grown0_new (World.grownBy.refl _ _) _) (by omega))
   have HN:Hid ((er,num)=if Vf.formE c.m c.u x=0 then ((Vf.firstE (Vf.formE c.m c.u) (c.u.code.drop (k+1)) (k+1)).1,((Vf.firstE (Vf.formE c.m c.u) (c.u.code.drop (k+1)) (k+1)).2:Int)) else (Vf.formE c.m c.u x,(k:Int))):=by
    unfold Hid
    rw [HA.out.rest,firstE_drop _ hx]
    split <;> rfl
   have HG:Hid (w.grownBy wr none):=grown0_tr' (grown0_new (World.grownBy.refl _ _) _) HA.out.grown
   have HAL:=hide hal
   clear hx hub hlow hal
   rw [HAL.out]
   by_cases hop:x.op < 1∨32 < x.op
   ·have HE1:Hid (er=1∧num=(k:Int)):=by
     have h1:Vf.formE c.m c.u x=1:=by unfold Vf.formE;rw [if_pos hop]
     have:=HN.out
     rw [h1] at this
     cases this
     exact ⟨rfl,rfl⟩
    rcases hop with hop | hop
    ·have d1:decide (x.op < 1)=true:=by simpa using hop
     go_wp2_with fail
     refine (throw_any (k:Int) 1 _).mono ?_
     rintro e w2 ⟨rfl,rfl⟩
     go_wp2
     rw [HE1.out.1,HE1.out.2]
     exact ⟨rfl,grown0_new HG.out _,rfl⟩
    ·have d1:decide (x.op < 1)=false:=by simp;omega
     have d2:decide (32 < x.op)=true:=by simpa using hop
     go_wp2_with fail
     refine (throw_any (k:Int) 1 _).mono ?_
     rintro e w2 ⟨rfl,rfl⟩
     go_wp2
     rw [HE1.out.1,HE1.out.2]
     exact ⟨rfl,grown0_new HG.out _,rfl⟩
   ·have d1:decide (x.op < 1)=false:=by simp;omega
    have d2:decide (32 < x.op)=false:=by simp;omega
    obtain ⟨b,hb⟩:∃ b,b=Vf.ranged c.m c.u ⟨x.op,x.a,x.n⟩:=⟨_,rfl⟩
    have HB:=hide hb
    have HFE:Hid (Vf.formE c.m c.u x=if b=false then 3 else 0):=by unfold Hid;unfold Vf.formE;rw [if_neg hop,hb]
    clear hb hop
    go_wp2_with fail
    refine (ranged_any c B x.op x.a x.n _ HMr (by simp;omega) b HB).mono ?_
    rintro e w2 ⟨rfl,hg2⟩
    have HG2:Hid ((w.alloc (utO c)).grownBy w2 none):=grown0_tr' (grown0_new HA.out.grown _) hg2
    have HG3:Hid (w.grownBy w2 none):=grown0_tr' (grown0_new HG.out _) hg2
    clear hg2 y0 y1 y2 y3 y4 y5 y6 y7 i0 i1 i2
    cases b with
    | false =>
     have HE1:Hid (er=3∧num=(k:Int)):=by
      have:=HN.out
      rw [HFE.out] at this
      cases this
      exact ⟨rfl,rfl⟩
     go_wp2_with fail
     refine (throw_any (k:Int) 3 _).mono ?_
     rintro e w3 ⟨rfl,rfl⟩
     go_wp2
     rw [HE1.out.1,HE1.out.2]
     exact ⟨rfl,HG3.out,rfl⟩
    | true =>
     have HN2:Hid ((er,num)=((Vf.firstE (Vf.formE c.m c.u) (c.u.code.drop (k+1)) (k+1)).1,((Vf.firstE (Vf.formE c.m c.u) (c.u.code.drop (k+1)) (k+1)).2:Int))):=by
      have:=HN.out
      rw [HFE.out] at this
      exact this
     go_wp2
     go_roundw
     case rel=>exact ⟨k+1,by go_num,hlt,HG2.out,HN2.out⟩
     case measure=>simp [intOf];omega
  ·have HE1:Hid (er=0∧num=0):=by
    have:=HA.out.rest
    rw [List.drop_eq_nil_of_le (by omega)] at this
    cases this
    exact ⟨rfl,rfl⟩
   have HG:Hid (w.grownBy wr none):=grown0_tr' (grown0_new (World.grownBy.refl _ _) _) HA.out.grown
   go_wp2
   go_end0
   rw [HE1.out.1,HE1.out.2]
   exact ⟨HG.out,rfl⟩
theorem two_cell {w:World}{b:Nat}{v0 v1:Value}{t:TypeId}(h:w.heap[b]?=some (.cells #[v0,v1] t (0,0))) :
  w.cell? ⟨b,0,none⟩=some v0∧w.cell? ⟨b,1,none⟩=some v1∧w.frozen? ⟨b,0,none⟩=false∧w.frozen? ⟨b,1,none⟩=false:=by simp [World.cell?,World.frozen?,h]
theorem assert_fault (v:Value)(w:World):(Instr.typeAssert (.iface 60 v) 20 60 false).run Tryz.prog w=.ok v w:=by kernel_rfl
theorem catch_thrown (F:Nat)(er num:Int)(older:List PanicEntry)(w:World)(hF:w.heap[F]?=some (.cells #[.int .i64 0,.int .i64 0] 60 (0,0))) :
  CallsD Tryz.prog 74 #[.pointer (some ⟨F,0,none⟩)] (.panicking (fltE er num :: older)) w fun e u' w' =>
   e=.returned (.tuple #[])∧u'=.panicking ({ v:=.iface 60 (.agg #[.int .i64 er,.int .i64 num]),recovered:=true } :: older)∧w'=(w.setCell ⟨F,0,none⟩ (.int .i64 er)).setCell ⟨F,1,none⟩ (.int .i64 num):=by
 obtain ⟨c0,c1,f0,f1⟩:=two_cell hF
 refine callsD_of_wpS Tryz.func74 rfl fun c₀ cs hu=>?_
 apply wpS_seq
 apply wpS_region
 simp [wpOpsS,go_sem,recoverD,hu,Tryz.ntmps74,Exit.thenS]
 apply wpS_seq
 apply wpS_region
 simp [wpOpsS,go_sem,Exit.thenS]
 refine wpS_cond (t:=true) (by simp [Act.eval,Array.replicate]) ?_
 simp only [if_true]
 apply wpS_region
 simp [wpOpsS,go_sem,assert_fault,c0,c1,f0,f1,bodyPostS,results,Tryz.results74]
theorem catch_none (F:Nat)(w:World) :
  CallsD Tryz.prog 74 #[.pointer (some ⟨F,0,none⟩)] .returning w fun e u' w'=>e=.returned (.tuple #[])∧u'=.returning∧w'=w:=by
 refine callsD_of_wpS Tryz.func74 rfl fun c₀ cs hu=>?_
 apply wpS_seq
 apply wpS_region
 simp [wpOpsS,go_sem,recoverD,hu,Tryz.ntmps74,Exit.thenS]
 apply wpS_seq
 apply wpS_region
 simp [wpOpsS,go_sem,Exit.thenS]
 refine wpS_cond (t:=false) (by simp [Act.eval,Array.replicate]) ?_
 simp only [Bool.false_eq_true,if_false]
 refine wpS_of_wp (wp_skip ?_)
 cases c₀
 simp_all [bodyPostS,results,Tryz.results74]
abbrev Z2C:Obj:=.cells #[.int .i64 0,.int .i64 0] 60 (0,0)
theorem caught_any (g:FuncId)(cap:Array Value)(er num:Int)(X:World→Prop)(w:World)(hz:er=0→num=0)(hcf:∀ w:World,(callFunc g cap).run Tryz.prog w=.ok (.enter g cap) w)
  (hw:Calls Tryz.prog g cap (w.alloc Z2C) fun e w'=>X w'∧w'.heap[w.heap.size]?=some Z2C∧Thrown er num e) :
  Calls Tryz.prog 41 #[.func (.func g) #[] cap] w fun e w'=>e=.returned (.agg #[.int .i64 er,.int .i64 num])∧∃ wx,X wx∧wx.heap[w.heap.size]?=some Z2C∧w'=(wx.setCell ⟨w.heap.size,0,none⟩ (.int .i64 er)).setCell ⟨w.heap.size,1,none⟩ (.int .i64 num):=by
 have hmf:∀ (fn:Fn) (first cap:Array Value) (w:World),(Instr.makeFunc fn first cap).run Tryz.prog w=.ok (.func fn first cap) w:=fun _ _ _ _=>rfl
 go_enter_defers Tryz.func41,Tryz.ntmps41
 go_wp2_with fail
 refine hw.mono ?_
 rintro e w1 ⟨hX,hF,ht⟩
 obtain ⟨c0,c1,f0,f1⟩:=two_cell hF
 have HX:Hid (X w1):=hX
 have HF:Hid (w1.heap[w.heap.size]?=some Z2C):=hF
 clear hX hF
 by_cases h0:er=0
 ·have hn:=hz h0
  subst h0
  subst hn
  obtain rfl:e=.returned (.tuple #[]):=ht
  clear hw hz
  go_wp2
  refine leaves_cons (f:=74) (args:=#[.pointer (some ⟨w.heap.size,0,none⟩)]) (by simp) (by simp [go_sem]) ?_
  refine (catch_none w.heap.size _).mono ?_
  rintro e u' w'' ⟨rfl,rfl,rfl⟩
  show Leaves _ _ _ _ [] .returning _
  exact ⟨.agg #[.int .i64 0,.int .i64 0],by simp [results,Tryz.results41,go_sem,c0,c1],rfl,w1,HX.out,HF.out,rfl⟩
 ·obtain rfl:e=.panicked [fltE er num]:=by unfold Thrown at ht;rw [if_neg h0] at ht;exact ht
  clear ht hw hz h0
  go_wp2
  refine leaves_cons (f:=74) (args:=#[.pointer (some ⟨w.heap.size,0,none⟩)]) (by simp) (by simp [go_sem]) ?_
  refine (catch_thrown w.heap.size er num [] _ HF.out).mono ?_
  rintro e u' w'' ⟨rfl,rfl,rfl⟩
  show Leaves _ _ _ _ [] .returning _
  exact ⟨.agg #[.int .i64 er,.int .i64 num],by simp [results,Tryz.results41,go_sem,c0,c1],rfl,w1,HX.out,HF.out,rfl⟩
theorem ModIn.mono {B C:Nat}{w:World}{m:Vf.Md}{ab au:Option Addr}(h:ModIn B w m ab au)(hB:B≤C):ModIn C w m ab au:=by
 refine ⟨h.few,fun i x hx=>?_,fun i x hx=>?_⟩
 ·obtain ⟨h1,h2,b,off,e,hb,r⟩:=h.boxes i x hx
  exact ⟨h1,h2,b,off,e,by omega,r⟩
 ·obtain ⟨b,off,al,cl,ac,cc,e,hb,hu,r⟩:=h.units i x hx
  refine ⟨b,off,al,cl,ac,cc,e,by omega,⟨hu.nums,hu.few,hu.caps,fun j y hy=>?_,fun j y hy=>?_⟩,r⟩
  ·obtain ⟨h1,b,off,e,hb,r⟩:=hu.locals j y hy
   exact ⟨h1,b,off,e,by omega,r⟩
  ·obtain ⟨h1,h2,h3,b,off,e,hb,r⟩:=hu.code j y hy
   exact ⟨h1,h2,h3,b,off,e,by omega,r⟩
theorem UnIn.mono {B C:Nat}{w:World}{u:Vf.Un}{al ac:Option Addr}{cl cc:Nat}(hu:UnIn B w u al ac cl cc)(hB:B≤C):UnIn C w u al ac cl cc:=by
 refine ⟨hu.nums,hu.few,hu.caps,fun j y hy=>?_,fun j y hy=>?_⟩
 ·obtain ⟨h1,b,off,e,hb,r⟩:=hu.locals j y hy
  exact ⟨h1,b,off,e,by omega,r⟩
 ·obtain ⟨h1,h2,h3,b,off,e,hb,r⟩:=hu.code j y hy
  exact ⟨h1,h2,h3,b,off,e,by omega,r⟩
theorem shapes1_any (c:FC)(B:Nat)(w:World)(hmd:Hid (ModIn B w c.m c.ab c.au))(hun:Hid (UnIn B w c.u c.al c.ac c.cl c.cc))(hB:B≤w.heap.size)(hmu:c.m.units.length≤30)(er num:Int)(hr:Hid ((er,num)=((Vf.shapeF c.m c.u).1,((Vf.shapeF c.m c.u).2:Int)))) :
  Calls Tryz.prog 51 #[utV c] w fun e w'=>w.grownBy w' none∧Thrown er num e:=by
 obtain ⟨y0,y1,y2,y3,y4,y5,y6,y7⟩:=ut_cells (heap_alloc_new w (utO c))
 have HT:Hid (w.grownBy (w.alloc (utO c)) none):=grown0_new (World.grownBy.refl _ _) _
 have HM1:Hid (ModIn B (w.alloc (utO c)) c.m c.ab c.au):=hmd.out.low (low0 HT.out hB)
 have HU1:Hid (UnIn B (w.alloc (utO c)) c.u c.al c.ac c.cl c.cc):=hun.out.low (low0 HT.out hB)
 obtain ⟨eh,heh⟩:∃ eh,eh=Vf.headE c.m c.u:=⟨_,rfl⟩
 have HH:=hide heh
 have HR:Hid ((er,num)=if eh=0 then ((Vf.firstE (Vf.formE c.m c.u) c.u.code 0).1,((Vf.firstE (Vf.formE c.m c.u) c.u.code 0).2:Int)) else (eh,0)):=by
  unfold Hid
  rw [hr.out,Vf.shapeF,← heh]
  split <;> rfl
 clear hr heh
 go_enter Tryz.func51,Tryz.ntmps51
 go_wp2_with fail
 refine (head_any c B _ HM1 HU1 (by simp;omega) hmu eh HH).mono ?_
 rintro e w1 ⟨hg1,he⟩
 have HG1:Hid (w.grownBy w1 none):=grown0_tr' HT.out hg1
 have hub:w1.heap[w.heap.size]?=some (utO c):=(kept0 hg1 (by simp)).trans (heap_alloc_new w _)
 by_cases h0:eh=0
 ·obtain rfl:e=.returned (.tuple #[]):=by rw [if_pos h0] at he;exact he
  have HR2:Hid ((er,num)=((Vf.firstE (Vf.formE c.m c.u) c.u.code 0).1,((Vf.firstE (Vf.formE c.m c.u) c.u.code 0).2:Int))):=by have:=HR.out;rw [if_pos h0] at this;exact this
  obtain ⟨x0,x1,x2,x3,x4,x5,x6,x7⟩:=ut_cells hub
  have HM2:Hid (ModIn B w1 c.m c.ab c.au):=hmd.out.low (low0 HG1.out hB)
  have HU2:Hid (UnIn B w1 c.u c.al c.ac c.cl c.cc):=hun.out.low (low0 HG1.out hB)
  have hz:=HG1.out.size
  clear he hg1 hub h0 y0 y1 y2 y3 y4 y5 y6 y7
  go_wp2_with fail
  refine (forms_any c B _ HM2 HU2 (by omega) er num HR2).mono ?_
  rintro e w2 ⟨hg2,he2⟩
  have HG2:Hid (w.grownBy w2 none):=grown0_tr' HG1.out hg2
  clear hg2
  by_cases h1:er=0
  ·obtain rfl:e=.returned (.tuple #[]):=by rw [if_pos h1] at he2;exact he2
   have HE:Hid (Thrown er num (.returned (.tuple #[]))):=he2
   clear he2 h1
   go_wp2
   go_end0
   exact ⟨HG2.out,HE.out⟩
  ·obtain rfl:e=.panicked [fltE er num]:=by rw [if_neg h1] at he2;exact he2
   have HE:Hid (Thrown er num (.panicked [fltE er num])):=he2
   clear he2 h1
   go_wp2
   exact ⟨rfl,HG2.out,HE.out⟩
 ·obtain rfl:e=.panicked [fltE eh 0]:=by rw [if_neg h0] at he;exact he
  have HR2:Hid (er=eh∧num=0):=by have:=HR.out;rw [if_neg h0] at this;cases this;exact ⟨rfl,rfl⟩
  have HE:Hid (Thrown eh 0 (.panicked [fltE eh 0])):=he
  clear he hg1 hub h0
  go_wp2
  rw [HR2.out.1,HR2.out.2]
  exact ⟨rfl,HG1.out,HE.out⟩
theorem flows1_any (c:FC)(B:Nat)(w:World)(hmd:Hid (ModIn B w c.m c.ab c.au))(hun:Hid (UnIn B w c.u c.al c.ac c.cl c.cc))(hB:B≤w.heap.size)(hR:Hid (Rt c.m))(hu:Hid (Vf.headE c.m c.u=0))(hfo:Hid (Vf.Forms c.m c.u))(er num:Int)(hr:Hid ((er,num)=((Vf.flowF c.m c.u).1,((Vf.flowF c.m c.u).2:Int)))) :
  Calls Tryz.prog 54 #[utV c] w fun e w'=>w.grownBy w' none∧Thrown er num e:=by
 have hmm:∀ w:World,(Instr.makeMap 129 Option.none).run Tryz.prog w=.ok (.map (some w.heap.size)) (w.alloc (.map #[] 0)):=fun _=>rfl
 obtain ⟨W,hW⟩:∃ W:World,((w.alloc (utO c)).alloc (.map #[] 0)).alloc (flO { c with M:=w.heap.size+1 } none [] Vf.Fl.none 0 (.slice none 0 0))=W:=⟨_,rfl⟩
 have hT:w.grownBy W none:=by rw [← hW];exact grown0_new (two_new _ _ _) _
 have hFb:W.heap[w.heap.size+1+1]?=some (flO { c with M:=w.heap.size+1 } none [] Vf.Fl.none 0 (.slice none 0 0)):=by
  have e:((w.alloc (utO c)).alloc (.map #[] 0)).heap.size=w.heap.size+1+1:=by simp
  rw [← hW,← e]
  exact heap_alloc_new _ _
 have H0:Hid (FlIn { c with M:=w.heap.size+1 } W (w.heap.size+1+1) none [] Vf.Fl.none 0 (.slice none 0 0)):=⟨hFb,rfl⟩
 have HE:Hid (Env { c with M:=w.heap.size+1 } w.heap.size (w.heap.size+1+1) W):=⟨(hmd.out.mono hB).low (low0 hT (Nat.le_refl _)),(hun.out.mono hB).low (low0 hT (Nat.le_refl _)),by omega,lt_of_block hFb⟩
 have HC:Hid (ComeIn W (w.heap.size+1) (fun _=>none)):=by
  have h1:=(ComeIn.new (w.alloc (utO c))).alloc (flO { c with M:=w.heap.size+1 } none [] Vf.Fl.none 0 (.slice none 0 0))
  have e:(w.alloc (utO c)).heap.size=w.heap.size+1:=by simp
  rw [e,hW] at h1
  exact h1
 have HT:=hide hT
 have HW:=hide hW
 clear hW hT hFb
 go_enter Tryz.func54,Tryz.ntmps54
 go_wp2_with fail
 rw [show ((w.alloc (utO c)).alloc (.map #[] 0)).alloc (.cells #[.slice c.ab c.m.boxes.length c.cb,.slice c.au c.m.units.length c.cu,.int .i64 c.u.kind,.int .i64 c.u.params,.slice c.al c.u.locals.length c.cl,.int .i64 c.u.result,.int .i64 c.u.takes,.slice c.ac c.u.code.length c.cc,.pointer none,.int .i64 0,.int .u64 0,.int .u64 0,.int .u64 0,.int .u64 0,.int .i64 0,.slice none 0 0,.map (some (w.heap.size+1))] 139)=W from HW.out]
 refine (whole_any { c with M:=w.heap.size+1 } w.heap.size (w.heap.size+1+1) _ H0 HE HC (by simp) hR hu hfo er num hr).mono ?_
 rintro e w1 ⟨hb1,he⟩
 have HG1:Hid (w.grownBy w1 none):=⟨hb1.os.trans HT.out.os,hb1.tape.trans HT.out.tape,hb1.output.trans HT.out.output,Nat.le_trans HT.out.size (by have:=hb1.size;exact this),fun k hk _=>(hb1.block k hk).trans (HT.out.block k hk (by simp))⟩
 clear hb1
 by_cases h1:er=0
 ·obtain rfl:e=.returned (.tuple #[]):=by unfold Thrown at he;rw [if_pos h1] at he;exact he
  have HX:Hid (Thrown er num (.returned (.tuple #[]))):=he
  clear he h1
  go_wp2
  go_end0
  exact ⟨HG1.out,HX.out⟩
 ·obtain rfl:e=.panicked [fltE er num]:=by unfold Thrown at he;rw [if_neg h1] at he;exact he
  have HX:Hid (Thrown er num (.panicked [fltE er num])):=he
  clear he h1
  go_wp2
  exact ⟨rfl,HG1.out,HX.out⟩
end Go.Proofs.YthffafaoobpedabGreatDoor
