/- The walk of the printer's def. -/
import Derived.Test.YtolfleeidpeomaaGreatDoorM26
import Derived.Test.YtolfleeidpeomaaGreatDoorM24
import Derived.Test.YtolfleeidpeomaaGreatDoorM25
set_option maxRecDepth 100000
set_option maxHeartbeats 2000000
namespace Go.Proofs.YtolfleeidpeomaaGreatDoor
open Go.RowKit
structure mP (d:Sy.Df):Prop where
 lo:1≤d.kind
 hi:d.kind≤4
 uu:d.kind=2∨d.kind=3→∀ p ∈ d.params,Sy.bN p.ty=0
 takes:d.kind=3→Sy.bN d.takes=0
 ty:d.kind≠4→Sy.bN d.ty=0
 cap:d.kind=1→1≤d.cap∧d.cap≤20
 body:d.kind≠1→∀ s ∈ d.body,Sy.lC 39 s
theorem iZ (t:Sy.Ty):(Sy.cZ t).length=1:=rfl
def iL (P Bs:Nat)(mv:Value)(ws:List ByteArray)(o:Obj)(w w1:World):Prop:=PR w1 P Bs ws mv∧Fr P Bs w w1∧w1.heap[w.heap.size]?=some o
theorem iL.step {P Bs:Nat}{mv:Value}{ws out:List ByteArray}{d:Sy.Df}{pa:Option Addr}{pc:Nat}{ba:Option Addr}{bc:Nat}{w w1 w2:World}{e:Ending}(h:iL P Bs mv ws (dA d pa pc ba bc) w w1)(hP:P≠w.heap.size)(hp:bV P Bs mv ws out w1 e w2):iL P Bs mv (ws++out) (dA d pa pc ba bc) w w2 :=
 ⟨hp.2.1,h.2.1.trans hp.2.2,jH h.2.2 (by decide) (fun e=>hP e.symm) hp.2.2⟩
theorem dfT_1 {d:Sy.Df}(hk:d.kind=1):Sy.fI d=[⟨#[98,111,120]⟩,d.name]++Sy.cZ d.ty++[Sy.iU d.cap,⟨#[59]⟩]:=by
 unfold Sy.fI
 rw [if_pos hk]
theorem dfT_2 {d:Sy.Df}(hk:d.kind=2):Sy.fI d=[⟨#[102,110]⟩,d.name]++Sy.fB d.params++Sy.cZ d.ty++Sy.aV (Sy.aC 39) d.body:=by
 unfold Sy.fI
 rw [if_neg (show ¬ d.kind=1 by omega),if_pos hk]
theorem dfT_3 {d:Sy.Df}(hk:d.kind=3):Sy.fI d=[⟨#[103,101,110]⟩,d.name]++Sy.fB d.params++[⟨#[116,97,107,101,115]⟩]++Sy.cZ d.takes++[⟨#[121,105,101,108,100,115]⟩]++Sy.cZ d.ty++Sy.aV (Sy.aC 39) d.body:=by
 unfold Sy.fI
 rw [if_neg (show ¬ d.kind=1 by omega),if_neg (show ¬ d.kind=2 by omega),if_pos hk]
theorem dfT_4 {d:Sy.Df}(hk:d.kind=4):Sy.fI d=[⟨#[116,97,115,107]⟩,d.name]++Sy.aV (Sy.aC 39) d.body:=by
 unfold Sy.fI
 rw [if_neg (show ¬ d.kind=1 by omega),if_neg (show ¬ d.kind=2 by omega),if_neg (show ¬ d.kind=3 by omega)]
theorem aaq (B M P Bs:Nat)(hL:Lay B M P Bs)(d:Sy.Df)(pa:Option Addr)(pc:Nat)(ba:Option Addr)(bc:Nat)(ws:List ByteArray)(w:World)(hok:Hid (mP d))(hX:Hid (jL B w d pa ba))(cz:Hid (PR w P Bs ws (.map (some M))))(hM:Hid (jm w M))(jW:Bs≤w.heap.size)(hn:ws.length+(Sy.fI d).length≤1000000) :
  Calls Tryz.prog 11 #[.pointer (some ⟨P,0,none⟩),o9 d pa pc ba bc] w fun e w'=>bV P Bs (.map (some M)) ws (Sy.fI d) w e w':=by
 have HS:Hid (yE B M P Bs 39):=P8 B M P Bs hL 39
 have fC:=hL
 obtain ⟨hbp,hpb,hmb,hmp,iA⟩:=hL
 have hk1:=hok.out.lo
 have hk2:=hok.out.hi
 have kQ:P≠w.heap.size:=by omega
 have aY:Hid (w.grownBy (w.alloc (dA d pa pc ba bc)) none):=World.grownBy_alloc _ _ _
 have uI:Hid (iL P Bs (.map (some M)) ws (dA d pa pc ba bc) w (w.alloc (dA d pa pc ba bc))):=⟨cz.out.grown aY.out,Fr.alloc _ _ _ _,heap_alloc_new w _⟩
 have hs0:Bs≤(w.alloc (dA d pa pc ba bc)).heap.size:=by simp;omega
 obtain ⟨o,ho⟩:∃ o,o=Sy.fI d:=⟨_,rfl⟩
 rw [← ho] at hn ⊢
 have HO:Hid (o=Sy.fI d):=ho
 clear ho
 rcases (show d.kind=1∨d.kind=2∨d.kind=3∨d.kind=4 by omega) with hk | hk | hk | hk
 ·have e1:(d.kind==1)=true:=by simp;omega
  have aI:Hid (d.kind=1):=hk
  clear hk hk1 hk2
  have aP:Hid (o=[⟨#[98,111,120]⟩,d.name]++Sy.cZ d.ty++[Sy.iU d.cap,⟨#[59]⟩]):=HO.out.trans (dfT_1 aI.out)
  have hno:ws.length+o.length≤1000000:=hn
  rw [aP.out] at hno
  simp only [List.length_append,List.length_cons,List.length_nil,Sy.cZ] at hno
  clear hn
  go_enter Tryz.func11,Tryz.ntmps11
  go_upto_region 3 with fail
  go_cut [] (fun wx=>iL P Bs (.map (some M)) (ws++[⟨#[98,111,120]⟩,d.name]) (dA d pa pc ba bc) w wx)
  case first =>
   go_region_with (go_at_call 26;refine (oO P Bs ws [(⟨#[98,111,120]⟩:ByteArray),d.name] _ 2 (w.heap.size+1) (w.alloc (dA d pa pc ba bc)) (by simp) uI.out.1 hpb hs0 (by show ws.length+2≤_;omega)).mono ?_;rintro e w2 hp;have DY:Hid (iL P Bs (.map (some M)) (ws++[⟨#[98,111,120]⟩,d.name]) (dA d pa pc ba bc) w w2):=uI.out.step kQ hp;obtain rfl:=hp.1;clear hp)
   all_goals
    go_wp2_with fail
    go_meet
    exact Hid.out (by assumption)
  case rest =>
   have HC:Hid (iL P Bs (.map (some M)) (ws++[⟨#[98,111,120]⟩,d.name]) (dA d pa pc ba bc) w wc):=hcut
   have hsc:Bs≤wc.heap.size:=by have:=HC.out.2.1.size;omega
   clear hcut
   obtain ⟨b0,b1,b2,b3,b4,b5,b6,b7,b8⟩:=eF HC.out.2.2
   go_wp2_with fail
   refine (AL P Bs (ws++[(⟨#[98,111,120]⟩:ByteArray),d.name]) _ d.ty wc HC.out.1 hpb hsc (by have:=iZ d.ty;have:=iZ d.takes;simp only [List.length_append,List.length_cons,List.length_nil];omega) (AJ (hok.out.ty (by have:=aI.out;omega)))).mono ?_
   rintro e v1 hp
   have iE:Hid (iL P Bs (.map (some M)) ((ws++[(⟨#[98,111,120]⟩:ByteArray),d.name])++Sy.cZ d.ty) (dA d pa pc ba bc) w v1):=HC.out.step kQ hp
   have yG:Bs≤v1.heap.size:=by have:=iE.out.2.1.size;omega
   obtain rfl:=hp.1
   clear hp b0 b1 b2 b3 b4 b5 b6 b7 b8
   obtain ⟨b0,b1,b2,b3,b4,b5,b6,b7,b8⟩:=eF iE.out.2.2
   obtain ⟨hc1,hc2⟩:=hok.out.cap aI.out
   obtain ⟨i,hi⟩:∃ i:Nat,d.cap=i:=⟨d.cap.toNat,by omega⟩
   have hit:=Tryz.strconv_Itoa_small i (by omega) v1.drew
   rw [← hi] at hit
   have kW:Sy.iU d.cap=⟨(Lib.decDigits i).toArray⟩:=by rw [hi];unfold Sy.iU Lib.itoa;rw [if_neg (by omega)];rfl
   rw [← kW] at hit
   have P9:Hid (∀ e w2,bV P Bs (.map (some M)) ((ws++[(⟨#[98,111,120]⟩:ByteArray),d.name])++Sy.cZ d.ty) [Sy.iU d.cap,⟨#[59]⟩] v1 e w2→bV P Bs (.map (some M)) ws o w e w2):=fun e w2 hp=>⟨hp.1,by rw [aP.out];have:=hp.2.1;simpa using this,iE.out.2.1.trans hp.2.2⟩
   obtain ⟨tn,htn⟩:∃ tn,tn=Sy.iU d.cap:=⟨_,rfl⟩
   rw [← htn] at hit P9
   clear hi kW htn hc1 hc2
   go_upto_region 5 with fail
   go_region_with (first | (go_at_call 28;refine hit.mono ?_;rintro e w5 ⟨rfl,rfl⟩) | (go_at_call 26;refine (oO P Bs ((ws++[(⟨#[98,111,120]⟩:ByteArray),d.name])++Sy.cZ d.ty) [tn,⟨#[59]⟩] _ 2 v1.heap.size v1 rfl iE.out.1 hpb yG (by have:=iZ d.ty;have:=iZ d.takes;simp only [List.length_append,List.length_cons,List.length_nil];omega)).mono ?_;rintro e w5 hp;have DY:Hid (bV P Bs (.map (some M)) ws o w e w5):=P9.out e w5 hp;obtain rfl:=hp.1;clear hp))
   all_goals
    go_wp2
    refine bodyPost_ret (results_none rfl _ _ _) rfl ?_
    exact Hid.out (by assumption)
 ·have e1:(d.kind==1)=false:=by simp;omega
  have e2:(d.kind==2)=true:=by simp;omega
  have aI:Hid (d.kind=2):=hk
  clear hk hk1 hk2
  have aP:Hid (o=[⟨#[102,110]⟩,d.name]++Sy.fB d.params++Sy.cZ d.ty++Sy.aV (Sy.aC 39) d.body):=HO.out.trans (dfT_2 aI.out)
  have hno:ws.length+o.length≤1000000:=hn
  rw [aP.out] at hno
  simp only [List.length_append,List.length_cons,List.length_nil,Sy.cZ] at hno
  clear hn
  go_enter Tryz.func11,Tryz.ntmps11
  go_upto_region 7 with fail
  go_cut [] (fun wx=>iL P Bs (.map (some M)) (ws++[⟨#[102,110]⟩,d.name]) (dA d pa pc ba bc) w wx)
  case first =>
   go_region_with (go_at_call 26;refine (oO P Bs ws [(⟨#[102,110]⟩:ByteArray),d.name] _ 2 (w.heap.size+1) (w.alloc (dA d pa pc ba bc)) (by simp) uI.out.1 hpb hs0 (by show ws.length+2≤_;omega)).mono ?_;rintro e w2 hp;have DY:Hid (iL P Bs (.map (some M)) (ws++[⟨#[102,110]⟩,d.name]) (dA d pa pc ba bc) w w2):=uI.out.step kQ hp;obtain rfl:=hp.1;clear hp)
   all_goals
    go_wp2_with fail
    go_meet
    exact Hid.out (by assumption)
  case rest =>
   have HC:Hid (iL P Bs (.map (some M)) (ws++[⟨#[102,110]⟩,d.name]) (dA d pa pc ba bc) w wc):=hcut
   have hsc:Bs≤wc.heap.size:=by have:=HC.out.2.1.size;omega
   clear hcut
   obtain ⟨b0,b1,b2,b3,b4,b5,b6,b7,b8⟩:=eF HC.out.2.2
   go_wp2_with fail
   refine (PY B P Bs _ hbp hpb d.params pa pc (ws++[(⟨#[102,110]⟩:ByteArray),d.name]) wc (hok.out.uu (by have:=aI.out;omega)) (hX.out.2.2.2.1.same (HC.out.2.1.same hbp hpb (by omega))) HC.out.1 hsc (by have:=iZ d.ty;have:=iZ d.takes;simp only [List.length_append,List.length_cons,List.length_nil];omega)).mono ?_
   rintro e v1 hp
   have iE:Hid (iL P Bs (.map (some M)) ((ws++[(⟨#[102,110]⟩:ByteArray),d.name])++Sy.fB d.params) (dA d pa pc ba bc) w v1):=HC.out.step kQ hp
   have yG:Bs≤v1.heap.size:=by have:=iE.out.2.1.size;omega
   obtain rfl:=hp.1
   clear hp b0 b1 b2 b3 b4 b5 b6 b7 b8
   obtain ⟨b0,b1,b2,b3,b4,b5,b6,b7,b8⟩:=eF iE.out.2.2
   go_wp2_with fail
   refine (AL P Bs ((ws++[(⟨#[102,110]⟩:ByteArray),d.name])++Sy.fB d.params) _ d.ty v1 iE.out.1 hpb yG (by have:=iZ d.ty;have:=iZ d.takes;simp only [List.length_append,List.length_cons,List.length_nil];omega) (AJ (hok.out.ty (by have:=aI.out;omega)))).mono ?_
   rintro e v2 hp
   have iD:Hid (iL P Bs (.map (some M)) (((ws++[(⟨#[102,110]⟩:ByteArray),d.name])++Sy.fB d.params)++Sy.cZ d.ty) (dA d pa pc ba bc) w v2):=iE.out.step kQ hp
   have I8:Bs≤v2.heap.size:=by have:=iD.out.2.1.size;omega
   obtain rfl:=hp.1
   clear hp b0 b1 b2 b3 b4 b5 b6 b7 b8
   obtain ⟨hb,kV⟩:=hX.out.2.2.2.2
   have rC:Hid (iw B v2 hb d.body ba):=kV.same (iD.out.2.1.same hbp hpb (by omega))
   clear kV
   obtain ⟨b0,b1,b2,b3,b4,b5,b6,b7,b8⟩:=eF iD.out.2.2
   go_wp2_with fail
   refine (wQ B M P Bs 39 fC HS hb d.body ba bc (((ws++[(⟨#[102,110]⟩:ByteArray),d.name])++Sy.fB d.params)++Sy.cZ d.ty) v2 (hok.out.body (by have:=aI.out;omega)) rC iD.out.1 (hM.out.fr iD.out.2.1 hmb hmp iA hpb) I8 (by have:=iZ d.ty;have:=iZ d.takes;simp only [List.length_append,List.length_cons,List.length_nil];omega)).mono ?_
   rintro e v3 hp
   have mK:Hid (iL P Bs (.map (some M)) ((((ws++[(⟨#[102,110]⟩:ByteArray),d.name])++Sy.fB d.params)++Sy.cZ d.ty)++Sy.aV (Sy.aC 39) d.body) (dA d pa pc ba bc) w v3):=iD.out.step kQ hp
   have Qa:Bs≤v3.heap.size:=by have:=mK.out.2.1.size;omega
   obtain rfl:=hp.1
   clear hp b0 b1 b2 b3 b4 b5 b6 b7 b8
   go_wp2
   go_end0
   exact ⟨rfl,by rw [aP.out];have:=mK.out.1;simpa using this,mK.out.2.1⟩
 ·have e1:(d.kind==1)=false:=by simp;omega
  have e2:(d.kind==2)=false:=by simp;omega
  have e3:(d.kind==3)=true:=by simp;omega
  have aI:Hid (d.kind=3):=hk
  clear hk hk1 hk2
  have aP:Hid (o=[⟨#[103,101,110]⟩,d.name]++Sy.fB d.params++[⟨#[116,97,107,101,115]⟩]++Sy.cZ d.takes++[⟨#[121,105,101,108,100,115]⟩]++Sy.cZ d.ty++Sy.aV (Sy.aC 39) d.body):=HO.out.trans (dfT_3 aI.out)
  have hno:ws.length+o.length≤1000000:=hn
  rw [aP.out] at hno
  simp only [List.length_append,List.length_cons,List.length_nil,Sy.cZ] at hno
  clear hn
  go_enter Tryz.func11,Tryz.ntmps11
  go_upto_region 11 with fail
  go_cut [] (fun wx=>iL P Bs (.map (some M)) (ws++[⟨#[103,101,110]⟩,d.name]) (dA d pa pc ba bc) w wx)
  case first =>
   go_region_with (go_at_call 26;refine (oO P Bs ws [(⟨#[103,101,110]⟩:ByteArray),d.name] _ 2 (w.heap.size+1) (w.alloc (dA d pa pc ba bc)) (by simp) uI.out.1 hpb hs0 (by show ws.length+2≤_;omega)).mono ?_;rintro e w2 hp;have DY:Hid (iL P Bs (.map (some M)) (ws++[⟨#[103,101,110]⟩,d.name]) (dA d pa pc ba bc) w w2):=uI.out.step kQ hp;obtain rfl:=hp.1;clear hp)
   all_goals
    go_wp2_with fail
    go_meet
    exact Hid.out (by assumption)
  case rest =>
   have HC:Hid (iL P Bs (.map (some M)) (ws++[⟨#[103,101,110]⟩,d.name]) (dA d pa pc ba bc) w wc):=hcut
   have hsc:Bs≤wc.heap.size:=by have:=HC.out.2.1.size;omega
   clear hcut
   obtain ⟨b0,b1,b2,b3,b4,b5,b6,b7,b8⟩:=eF HC.out.2.2
   go_wp2_with fail
   refine (PY B P Bs _ hbp hpb d.params pa pc (ws++[(⟨#[103,101,110]⟩:ByteArray),d.name]) wc (hok.out.uu (by have:=aI.out;omega)) (hX.out.2.2.2.1.same (HC.out.2.1.same hbp hpb (by omega))) HC.out.1 hsc (by have:=iZ d.ty;have:=iZ d.takes;simp only [List.length_append,List.length_cons,List.length_nil];omega)).mono ?_
   rintro e v1 hp
   have iE:Hid (iL P Bs (.map (some M)) ((ws++[(⟨#[103,101,110]⟩:ByteArray),d.name])++Sy.fB d.params) (dA d pa pc ba bc) w v1):=HC.out.step kQ hp
   have yG:Bs≤v1.heap.size:=by have:=iE.out.2.1.size;omega
   obtain rfl:=hp.1
   clear hp b0 b1 b2 b3 b4 b5 b6 b7 b8
   obtain ⟨b0,b1,b2,b3,b4,b5,b6,b7,b8⟩:=eF iE.out.2.2
   go_wp2_with fail
   refine (jB P Bs ((ws++[(⟨#[103,101,110]⟩:ByteArray),d.name])++Sy.fB d.params) [(⟨#[116,97,107,101,115]⟩:ByteArray)] _ 1 v1.heap.size v1 rfl iE.out.1 hpb yG (by have:=iZ d.ty;have:=iZ d.takes;simp only [List.length_append,List.length_cons,List.length_nil];omega)).mono ?_
   rintro e v2 hp
   have iD:Hid (iL P Bs (.map (some M)) (((ws++[(⟨#[103,101,110]⟩:ByteArray),d.name])++Sy.fB d.params)++[(⟨#[116,97,107,101,115]⟩:ByteArray)]) (dA d pa pc ba bc) w v2):=iE.out.step kQ hp
   have I8:Bs≤v2.heap.size:=by have:=iD.out.2.1.size;omega
   obtain rfl:=hp.1
   clear hp b0 b1 b2 b3 b4 b5 b6 b7 b8
   obtain ⟨b0,b1,b2,b3,b4,b5,b6,b7,b8⟩:=eF iD.out.2.2
   go_wp2_with fail
   refine (AL P Bs (((ws++[(⟨#[103,101,110]⟩:ByteArray),d.name])++Sy.fB d.params)++[(⟨#[116,97,107,101,115]⟩:ByteArray)]) _ d.takes v2 iD.out.1 hpb I8 (by have:=iZ d.ty;have:=iZ d.takes;simp only [List.length_append,List.length_cons,List.length_nil];omega) (AJ (hok.out.takes (by have:=aI.out;omega)))).mono ?_
   rintro e v3 hp
   have mK:Hid (iL P Bs (.map (some M)) ((((ws++[(⟨#[103,101,110]⟩:ByteArray),d.name])++Sy.fB d.params)++[(⟨#[116,97,107,101,115]⟩:ByteArray)])++Sy.cZ d.takes) (dA d pa pc ba bc) w v3):=iD.out.step kQ hp
   have Qa:Bs≤v3.heap.size:=by have:=mK.out.2.1.size;omega
   obtain rfl:=hp.1
   clear hp b0 b1 b2 b3 b4 b5 b6 b7 b8
   obtain ⟨b0,b1,b2,b3,b4,b5,b6,b7,b8⟩:=eF mK.out.2.2
   go_wp2_with fail
   refine (jB P Bs ((((ws++[(⟨#[103,101,110]⟩:ByteArray),d.name])++Sy.fB d.params)++[(⟨#[116,97,107,101,115]⟩:ByteArray)])++Sy.cZ d.takes) [(⟨#[121,105,101,108,100,115]⟩:ByteArray)] _ 1 v3.heap.size v3 rfl mK.out.1 hpb Qa (by have:=iZ d.ty;have:=iZ d.takes;simp only [List.length_append,List.length_cons,List.length_nil];omega)).mono ?_
   rintro e v4 hp
   have xL:Hid (iL P Bs (.map (some M)) (((((ws++[(⟨#[103,101,110]⟩:ByteArray),d.name])++Sy.fB d.params)++[(⟨#[116,97,107,101,115]⟩:ByteArray)])++Sy.cZ d.takes)++[(⟨#[121,105,101,108,100,115]⟩:ByteArray)]) (dA d pa pc ba bc) w v4):=mK.out.step kQ hp
   have aar:Bs≤v4.heap.size:=by have:=xL.out.2.1.size;omega
   obtain rfl:=hp.1
   clear hp b0 b1 b2 b3 b4 b5 b6 b7 b8
   obtain ⟨b0,b1,b2,b3,b4,b5,b6,b7,b8⟩:=eF xL.out.2.2
   go_wp2_with fail
   refine (AL P Bs (((((ws++[(⟨#[103,101,110]⟩:ByteArray),d.name])++Sy.fB d.params)++[(⟨#[116,97,107,101,115]⟩:ByteArray)])++Sy.cZ d.takes)++[(⟨#[121,105,101,108,100,115]⟩:ByteArray)]) _ d.ty v4 xL.out.1 hpb aar (by have:=iZ d.ty;have:=iZ d.takes;simp only [List.length_append,List.length_cons,List.length_nil];omega) (AJ (hok.out.ty (by have:=aI.out;omega)))).mono ?_
   rintro e v5 hp
   have yH:Hid (iL P Bs (.map (some M)) ((((((ws++[(⟨#[103,101,110]⟩:ByteArray),d.name])++Sy.fB d.params)++[(⟨#[116,97,107,101,115]⟩:ByteArray)])++Sy.cZ d.takes)++[(⟨#[121,105,101,108,100,115]⟩:ByteArray)])++Sy.cZ d.ty) (dA d pa pc ba bc) w v5):=xL.out.step kQ hp
   have aas:Bs≤v5.heap.size:=by have:=yH.out.2.1.size;omega
   obtain rfl:=hp.1
   clear hp b0 b1 b2 b3 b4 b5 b6 b7 b8
   obtain ⟨hb,kV⟩:=hX.out.2.2.2.2
   have rC:Hid (iw B v5 hb d.body ba):=kV.same (yH.out.2.1.same hbp hpb (by omega))
   clear kV
   obtain ⟨b0,b1,b2,b3,b4,b5,b6,b7,b8⟩:=eF yH.out.2.2
   go_wp2_with fail
   refine (wQ B M P Bs 39 fC HS hb d.body ba bc ((((((ws++[(⟨#[103,101,110]⟩:ByteArray),d.name])++Sy.fB d.params)++[(⟨#[116,97,107,101,115]⟩:ByteArray)])++Sy.cZ d.takes)++[(⟨#[121,105,101,108,100,115]⟩:ByteArray)])++Sy.cZ d.ty) v5 (hok.out.body (by have:=aI.out;omega)) rC yH.out.1 (hM.out.fr yH.out.2.1 hmb hmp iA hpb) aas (by have:=iZ d.ty;have:=iZ d.takes;simp only [List.length_append,List.length_cons,List.length_nil];omega)).mono ?_
   rintro e v6 hp
   have I9:Hid (iL P Bs (.map (some M)) (((((((ws++[(⟨#[103,101,110]⟩:ByteArray),d.name])++Sy.fB d.params)++[(⟨#[116,97,107,101,115]⟩:ByteArray)])++Sy.cZ d.takes)++[(⟨#[121,105,101,108,100,115]⟩:ByteArray)])++Sy.cZ d.ty)++Sy.aV (Sy.aC 39) d.body) (dA d pa pc ba bc) w v6):=yH.out.step kQ hp
   have aeP:Bs≤v6.heap.size:=by have:=I9.out.2.1.size;omega
   obtain rfl:=hp.1
   clear hp b0 b1 b2 b3 b4 b5 b6 b7 b8
   go_wp2
   go_end0
   exact ⟨rfl,by rw [aP.out];have:=I9.out.1;simpa using this,I9.out.2.1⟩
 ·have e1:(d.kind==1)=false:=by simp;omega
  have e2:(d.kind==2)=false:=by simp;omega
  have e3:(d.kind==3)=false:=by simp;omega
  have e4:(d.kind==4)=true:=by simp;omega
  have aI:Hid (d.kind=4):=hk
  clear hk hk1 hk2
  have aP:Hid (o=[⟨#[116,97,115,107]⟩,d.name]++Sy.aV (Sy.aC 39) d.body):=HO.out.trans (dfT_4 aI.out)
  have hno:ws.length+o.length≤1000000:=hn
  rw [aP.out] at hno
  simp only [List.length_append,List.length_cons,List.length_nil] at hno
  clear hn
  go_enter Tryz.func11,Tryz.ntmps11
  go_upto_region 18 with fail
  go_region_with (go_at_call 26;refine (oO P Bs ws [(⟨#[116,97,115,107]⟩:ByteArray),d.name] _ 2 (w.heap.size+1) (w.alloc (dA d pa pc ba bc)) (by simp) uI.out.1 hpb hs0 (by show ws.length+2≤_;omega)).mono ?_;rintro e wc hp;have HC:Hid (iL P Bs (.map (some M)) (ws++[⟨#[116,97,115,107]⟩,d.name]) (dA d pa pc ba bc) w wc):=uI.out.step kQ hp;have hsc:Bs≤wc.heap.size:=(by have:=HC.out.2.1.size;omega);obtain rfl:=hp.1;clear hp)
  all_goals
   obtain ⟨hb,kV⟩:=hX.out.2.2.2.2
   have rC:Hid (iw B wc hb d.body ba):=kV.same (HC.out.2.1.same hbp hpb (by omega))
   clear kV
   obtain ⟨b0,b1,b2,b3,b4,b5,b6,b7,b8⟩:=eF HC.out.2.2
   go_wp2_with fail
   refine (wQ B M P Bs 39 fC HS hb d.body ba bc (ws++[(⟨#[116,97,115,107]⟩:ByteArray),d.name]) wc (hok.out.body (by have:=aI.out;omega)) rC HC.out.1 (hM.out.fr HC.out.2.1 hmb hmp iA hpb) hsc (by have:=iZ d.ty;have:=iZ d.takes;simp only [List.length_append,List.length_cons,List.length_nil];omega)).mono ?_
   rintro e v1 hp
   have iE:Hid (iL P Bs (.map (some M)) ((ws++[(⟨#[116,97,115,107]⟩:ByteArray),d.name])++Sy.aV (Sy.aC 39) d.body) (dA d pa pc ba bc) w v1):=HC.out.step kQ hp
   have yG:Bs≤v1.heap.size:=by have:=iE.out.2.1.size;omega
   obtain rfl:=hp.1
   clear hp b0 b1 b2 b3 b4 b5 b6 b7 b8
   go_wp2
   go_end0
   exact ⟨rfl,by rw [aP.out];have:=iE.out.1;simpa using this,iE.out.2.1⟩
theorem aat {d:Sy.Df}{er:Int}(h:d.kind=2∨d.kind=3)(hp:lL d=er)(hne:er≠0):ky d=er:=by
 rcases h with h | h
 ·rw [rest_2 h,hp,if_pos hne]
 ·rw [rest_3 h,hp,if_pos hne]
theorem Qb:∀ (l:List Sy.Pm),Sy.fU l=0→∀ p ∈ l,Sy.bN p.ty=0
 | [],_,p,hp=>by cases hp
 | q :: l,h,p,hp=>by
  unfold Sy.fU at h
  split at h
  ·omega
  ·split at h
   ·rename_i h2;exact absurd h h2
   ·rename_i h2
    rcases List.mem_cons.1 hp with rfl | hp
    ·simpa using h2
    ·exact Qb l h p hp
theorem Gh {d:Sy.Df}{n m:Nat}(h:Sy.dX d n=.ok m):mP d:=by
 unfold Sy.dX at h
 split at h
 ·simp at h
 ·rename_i h0
  have h0:Sy.fw d n=0:=by simpa using h0
  have hz:Sy.bB d.kind 4 40 n=0:=by
   by_cases hq:Sy.bB d.kind 4 40 n=0
   ·exact hq
   ·rw [Ma hq] at h0;exact absurd h0 hq
  obtain ⟨_,hk1,hk2,_⟩:=Sy.iC hz
  have hnm:Sy.nm d.name=true:=by
   cases hq:Sy.nm d.name
   ·rw [Mc hz hq] at h0;omega
   ·rfl
  rw [Md hz hnm] at h0
  have hb:d.kind≠1→∀ s ∈ d.body,Sy.lC 39 s:=by
   intro hk s hs
   rw [if_neg hk] at h
   obtain ⟨i,j,hij⟩:=Sy.I6 h s hs
   exact Sy.I7 39 s i j hij
  have hp:d.kind=2∨d.kind=3→lL d=0:=by
   intro hk
   by_cases hq:lL d=0
   ·exact hq
   ·rw [aat hk rfl hq] at h0;exact absurd h0 hq
  have hp2:d.kind=2∨d.kind=3→∀ p ∈ d.params,Sy.bN p.ty=0:=by
   intro hk
   have:=hp hk
   unfold lL at this
   split at this
   ·omega
   ·exact Qb _ this
  rcases (show d.kind=1∨d.kind=2∨d.kind=3∨d.kind=4 by omega) with hk | hk | hk | hk
  ·rw [rest_1 hk] at h0
   by_cases ht:Sy.bN d.ty=0
   ·rw [if_neg (by simpa using ht)] at h0
    refine ⟨hk1,hk2,hp2,fun h3=>by omega,fun _=>ht,fun _=>?_,hb⟩
    unfold xK at h0
    split at h0
    ·omega
    ·omega
   ·rw [if_pos (by simpa using ht)] at h0;exact absurd h0 ht
  ·rw [rest_2 hk,if_neg (by simpa using hp (.inl hk))] at h0
   exact ⟨hk1,hk2,hp2,fun h3=>by omega,fun _=>h0,fun h1=>by omega,hb⟩
  ·rw [rest_3 hk,if_neg (by simpa using hp (.inr hk))] at h0
   by_cases ht:Sy.bN d.takes=0
   ·rw [if_neg (by simpa using ht)] at h0
    exact ⟨hk1,hk2,hp2,fun _=>ht,fun _=>h0,fun h1=>by omega,hb⟩
   ·rw [if_pos (by simpa using ht)] at h0;exact absurd h0 ht
  ·exact ⟨hk1,hk2,hp2,fun h3=>by omega,fun h4=>absurd hk h4,fun h1=>by omega,hb⟩
def uJ (ws:List ByteArray):ByteArray:=⟨(Lib.join (ws.map (·.data.toList)) [32]).toArray⟩
theorem aau (P Bs:Nat)(ws:List ByteArray)(mv:Value)(w:World)(cz:Hid (PR w P Bs ws mv))(hn:ws.length≤1000000)(hlen:(Lib.join (ws.map (·.data.toList)) [32]).length≤140737488355328) :
  Calls Tryz.prog 12 #[.pointer (some ⟨P,0,none⟩)] w fun e w'=>e=.returned (.string (uJ ws))∧Below w.heap.size w w':=by
 obtain ⟨v,hP,hown⟩:=cz.out
 obtain ⟨c0,c1,f0,f1⟩:=bE hP
 obtain ⟨t,ht⟩:∃ t,t=uJ ws:=⟨_,rfl⟩
 rw [← ht]
 rcases hown.2 with ⟨rfl,h0⟩ | ⟨g,cap,cur,rfl,hg,hh,hc1,hc2,hc3,hc4⟩
 ·have hj:=Tryz.strings_Join_none Option.none 0 ⟨#[32]⟩ w
  have HT:Hid (t=⟨#[]⟩):=by rw [ht];rw [List.length_eq_zero_iff.1 h0];rfl
  clear hP hown ht hlen
  go_enter Tryz.func12,Tryz.ntmps12
  go_wp2_with fail
  refine hj.mono ?_
  rintro e w1 ⟨rfl,rfl⟩
  go_wp2
  go_ret
  exact ⟨by rw [HT.out];rfl,Below.refl _ _⟩
 ·have hj:=Tryz.strings_Join g 0 cap ws ⟨#[32]⟩ w (by
   intro j x hx
   rw [Nat.zero_add,cell_of_row w g j cur _ _ hh]
   have:(cur.toList.take (ws.length * 1))[j]?=some (.string x):=by rw [hc4,List.getElem?_map,hx];rfl
   rw [List.getElem?_take] at this
   split at this
   ·simpa using this
   ·simp at this) (lt_of_block hh) (by omega) hc1 hlen
  have HT:Hid (t=⟨(Lib.join (ws.map (·.data.toList)) [32]).toArray⟩):=ht
  clear hP hown ht hlen hh hc3 hc4
  go_enter Tryz.func12,Tryz.ntmps12
  go_wp2_with fail
  refine hj.mono ?_
  rintro e w1 ⟨rfl,hb⟩
  have HB:Hid (Below w.heap.size w w1):=hb
  clear hb hj
  go_wp2
  go_ret
  exact ⟨by rw [HT.out];rfl,HB.out⟩
structure D5 (d:Sy.Df):Prop where
 ok:mP d
 name:d.name.size≤12
 uu:d.kind=2∨d.kind=3→d.params.length≤6∧(∀ p ∈ d.params,p.name.size≤12)∧Sy.wt (Sy.fB d.params)≤172
 body:d.kind≠1→Sy.AB 39 d.body
theorem Qc:∀ (l:List Sy.Pm),Sy.fU l=0→∀ p ∈ l,p.name.size≤12
 | [],_,p,hp=>by cases hp
 | q :: l,h,p,hp=>by
  unfold Sy.fU at h
  split at h
  ·omega
  ·rename_i h1
   split at h
   ·rename_i h2;exact absurd h h2
   ·rcases List.mem_cons.1 hp with rfl | hp
    ·exact Sy.qi (by simpa using h1)
    ·exact Qc l h p hp
theorem aav {d:Sy.Df}{n m:Nat}(h:Sy.dX d n=.ok m):D5 d:=by
 have hok:=Gh h
 unfold Sy.dX at h
 split at h
 ·simp at h
 ·rename_i h0
  have h0:Sy.fw d n=0:=by simpa using h0
  unfold Sy.fw at h0
  split at h0
  ·rename_i h1;exact absurd h0 h1
  ·rename_i hn
   have hz:=Sy.iC (by simpa using hn:Sy.bB d.kind 4 40 n=0)
   split at h0
   ·omega
   ·rename_i hname
    have hname:=Sy.qi (by simpa using hname:Sy.nm d.name=true)
    split at h0
    ·omega
    ·rename_i h6
     split at h0
     ·rename_i h1;exact absurd h0 h1.2
     ·rename_i hpm
      refine ⟨hok,hname,fun hk=>?_,fun hk=>?_⟩
      ·have e6:d.params.length≤6:=by
        by_cases he:6<d.params.length
        ·exact absurd ⟨hk,he⟩ h6
        ·omega
       have ep:Sy.fU d.params=0:=by
        by_cases he:Sy.fU d.params=0
        ·exact he
        ·exact absurd ⟨hk,he⟩ hpm
       exact ⟨e6,Qc _ ep,Sy.PO ep e6⟩
      ·rw [if_neg hk] at h
       exact ⟨n+1,m,by omega,h⟩
theorem Qd:∀ (l:List Sy.Df) (i n:Nat),(Sy.iB l i n).1=0→∀ d ∈ l,D5 d
 | [],_,_,_,d,hd=>by cases hd
 | e :: l,i,n,h,d,hd=>by
  unfold Sy.iB at h
  cases hw:Sy.dX e n with
  | error er=>rw [hw] at h;exact absurd h (zz hw)
  | ok m =>
   rw [hw] at h
   rcases List.mem_cons.1 hd with rfl | hd
   ·exact aav hw
   ·exact Qd l (i+1) m h d hd
theorem Qe {l:List Sy.Df}(h:(Sy.dx l).1=0):l.length≤30∧(∀ d ∈ l,D5 d)∧Sy.wt (Sy.dW l)≤800000:=by
 unfold Sy.dx at h
 split at h
 ·simp at h
 ·exact ⟨by omega,Qd l 0 0 h,by have:=Sy.PQ l 0 0 h (by omega);omega⟩
theorem aaw {l:List Sy.Df}{k:Nat}{d:Sy.Df}(h:l[k]?=some d):Sy.dW (l.drop k)=Sy.fI d++Sy.dW (l.drop (k+1)):=by
 obtain ⟨hk,rfl⟩:=List.getElem?_eq_some_iff.1 h
 unfold Sy.dW
 rw [List.drop_eq_getElem_cons hk,List.flatMap_cons]
def wR (w:World):Prop:=Lib.TabIs Tryz.prog w "internal/strconv.uint64pow10" .u64 Lib.pow10Tab
theorem wR.below {w w':World}(h:wR w)(hb:Below w.heap.size w w'):wR w':=IV h (fun _ ho=>(hb.block 2 (lt_of_block ho)).trans ho)
theorem F3 (k:Int):1≤Sy.iT k:=by
 unfold Sy.iT
 split <;> omega
theorem D6 {B:Nat}{w w':World}(h:Below w.heap.size w w')(hB:B≤w.heap.size):Go.Proofs.YtolfleeidpeomaaGreatDoor.Same B w w':=fun b o hb=>h.cell (p:=⟨b,o,none⟩) (Nat.lt_of_lt_of_le hb hB)
theorem yI {w w1 w2:World}{n:Nat}(h:Below w.heap.size w w1)(k:Below n w1 w2)(hn:w.heap.size≤n):Below w.heap.size w w2:=h.trans (k.mono hn)
theorem Qf (w:World)(o:Obj):Below w.heap.size w (w.alloc o):=(Below.refl _ w).alloc (Nat.le_refl _) _
end Go.Proofs.YtolfleeidpeomaaGreatDoor
