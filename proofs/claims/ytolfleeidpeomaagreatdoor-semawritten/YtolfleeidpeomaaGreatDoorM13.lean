/- The walks of turned,of exactly,and of ahead. -/
import Derived.Test.YtolfleeidpeomaaGreatDoorM12
import Derived.Deep.RegionWith
import Derived.Deep.DeepCutAuto
set_option maxRecDepth 100000
set_option maxHeartbeats 2000000
namespace Go.Proofs.YtolfleeidpeomaaGreatDoor
open Go.RowKit
theorem bK.one {Q:Nat→Prop}{w:World}{n b:Nat}{kd nn:Int}{s:ByteArray}{y:Sy.Ex}{a:Option Addr}{c:Nat}(hq:bK Q w n y a)(hb:Q b)(hs:s.size≤6000)(hw:w.heap[b]?=some (ic y.kind y.n y.name (.slice a y.kids.length c))):bK Q w (n+1) ⟨kd,nn,s,[y]⟩ (some ⟨b,0,none⟩):=by
 obtain ⟨⟨x0,x1,x2,x3⟩,_⟩:=fP hw
 refine ⟨hs,by simp,fun i k hk=>?_⟩
 match i,hk with
 | 0,hk =>
  simp at hk
  subst hk
  exact ⟨b,0,a,c,rfl,hb,x0,x1,x2,x3,hq⟩
 | i+1,hk=>simp at hk
theorem WU (E:Env)(G:Good E)(d:Nat)(hd:d<200)(hF:Hid (zM E d)):CV E (d+1):=by
 intro kind p r w h hp hr
 have hR:=h.out.lt
 obtain ⟨r1,hr1⟩:∃ r1,r1=Rp.ahead E.l E.en d p:=⟨_,rfl⟩
 have HR1:=aa hr1
 have bI:Hid (r=Rp.andThen r1 fun q y=>.ok (q,⟨kind,0,⟨#[]⟩,[y]⟩)):=by rw [hr.out,hr1];rfl
 have zN:Hid ((200:Int) - ((d+1:Nat):Int)+1=200 - (d:Int)):=by unfold Hid;omega
 clear hr1
 go_enter_defers Tryz.func156,Tryz.ntmps156
 go_wp2_with fail
 refine (Gq E G p _ _ (h.out.alloc G _) hp (by omega) (by omega)).mono ?_
 rintro e w1 ⟨rfl,hd1,hg1⟩
 rw [zN.out] at hd1
 have ax:Hid (w.grownBy w1 (some E.R)):=ay (dM (eD (Below.refl _ w)) _) hg1
 have HZ1:Hid (w1.heap[w.heap.size]?=some ZE):=aA hg1 (by omega) (heap_alloc_new w ZE)
 have HD1:=aa hd1
 clear hg1 hd1
 go_wp2_with fail
 refine (hF.out p r1 _ HD1 hp HR1).mono ?_
 rintro e w2 ⟨hg2,hf2⟩
 have HG2:Hid (w.grownBy w2 (some E.R)):=ay ax.out hg2
 have hZ2:w2.heap[w.heap.size]?=some ZE:=aA hg2 (by omega) HZ1.out
 have hw1:w.heap.size<w1.heap.size:=lt_of_block HZ1.out
 cases r1 with
 | error er =>
  obtain ⟨e1,e2⟩:=er
  obtain ⟨rfl,q,o,hd2,ho1,ho2⟩:=hf2
  have HD2:=aa hd2
  have ae:Hid (r=.error (e1,e2)):=bI.out
  clear hd2 hg2 hZ2
  go_wp2
  refine leaves_cons (f:=104) (args:=#[.pointer (some ⟨E.R,0,none⟩)]) (by simp) (by simp [go_sem]) ?_
  refine (vL E G q o _ _ HD2 (by omega) (by omega)).mono ?_
  rintro e u' w3 ⟨rfl,rfl,hd3,hg3⟩
  refine ⟨ay HG2.out hg3,?_⟩
  rw [ae.out]
  exact ⟨rfl,q,o - 1,hd3,by omega,by omega⟩
 | ok qx =>
  obtain ⟨q,y⟩:=qx
  obtain ⟨⟨v,rfl,a,c,n,rfl,hq⟩,hd2⟩:=hf2
  have ae:Hid (r=.ok (q,⟨kind,0,⟨#[]⟩,[y]⟩)):=bI.out
  have HD2:=aa hd2
  have HQ:=aa hq
  obtain ⟨⟨z0,z1,z2,z3⟩,y0,y1,y2,y3⟩:=fP hZ2
  have hz2:=HG2.out.size
  have WT:w1.heap.size≤w2.heap.size:=hg2.size
  obtain ⟨W,hWd⟩:∃ W,W=((((w2.setCell ⟨w.heap.size,0,none⟩ (.int .i64 kind)).setCell ⟨w.heap.size,1,none⟩ (.int .i64 0)).setCell ⟨w.heap.size,2,none⟩ (.string ⟨#[]⟩)).setCell ⟨w.heap.size,3,none⟩ (.slice (some ⟨w2.heap.size,0,none⟩) 1 1)).alloc (ic y.kind y.n y.name (.slice a y.kids.length c)):=⟨_,rfl⟩
  have WV:Hid (W.heap.size=w2.heap.size+1):=by unfold Hid;rw [hWd];simp
  have zO:Hid (w.grownBy W (some E.R)):=by unfold Hid;rw [hWd];exact dM (eu HG2.out (Nat.le_refl _) _ _ _ _) _
  have Gt:Hid (az E W q (200 - (d:Int))):=by
   refine h.out.grown G zO.out ?_
   rw [hWd]
   exact ((HD2.out.rd.four (by omega) _ _ _ _).on ((Below.refl _ _).alloc (Nat.le_refl _) _))
  have Gs:Hid (W.heap[w.heap.size]?=some (ic kind 0 ⟨#[]⟩ (.slice (some ⟨w2.heap.size,0,none⟩) 1 1))):=by
   unfold Hid
   rw [hWd,Below.heap_alloc _ _ _ (by simp only [World.bC];omega)]
   exact Gr hZ2 _ _ _ _
  have WW:Hid (W.heap[w2.heap.size]?=some (ic y.kind y.n y.name (.slice a y.kids.length c))):=by
   unfold Hid
   rw [hWd]
   have:=heap_alloc_new ((((w2.setCell ⟨w.heap.size,0,none⟩ (.int .i64 kind)).setCell ⟨w.heap.size,1,none⟩ (.int .i64 0)).setCell ⟨w.heap.size,2,none⟩ (.string ⟨#[]⟩)).setCell ⟨w.heap.size,3,none⟩ (.slice (some ⟨w2.heap.size,0,none⟩) 1 1)) (ic y.kind y.n y.name (.slice a y.kids.length c))
   simpa only [World.bC] using this
  have WX:Hid (∀ b,w1.heap.size≤b→b<w2.heap.size→W.heap[b]?=w2.heap[b]?):=by
   intro b hb1 hb2
   rw [hWd,Below.heap_alloc _ _ _ (by simp only [World.bC];omega),kz (by omega)]
  have WY:=aa hWd.symm
  have hlt2:w.heap.size<w2.heap.size:=by omega
  clear hd2 hg2 hq hZ2 hWd
  go_wp2
  rw [WY.out]
  refine leaves_cons (f:=104) (args:=#[.pointer (some ⟨E.R,0,none⟩)]) (by simp) (by simp [go_sem]) ?_
  refine (vL E G q _ _ _ Gt (by omega) (by omega)).mono ?_
  rintro e u' w3 ⟨rfl,rfl,hd3,hg3⟩
  have hs3:=hg3.size
  have hWz:=WV.out
  obtain ⟨⟨t0,t1,t2,t3⟩,_⟩:=fP (aA hg3 (by omega) Gs.out)
  rw [show (200:Int) - (d:Int) - 1=200 - ((d+1:Nat):Int) by omega] at hd3
  show Leaves _ _ _ _ [] .returning _
  refine ⟨dH ⟨kind,0,⟨#[]⟩,[y]⟩ (some ⟨w2.heap.size,0,none⟩) 1,by simp [results,Tryz.results156,go_sem,t0,t1,t2,t3],ay zO.out hg3,?_⟩
  rw [ae.out]
  refine ⟨⟨_,rfl,_,1,n+1,rfl,bK.one (HQ.out.keep (fun b hb=>⟨⟨by omega,by omega⟩,?_⟩)) ⟨by omega,by omega⟩ (by decide) (aA hg3 (by omega) WW.out)⟩,hd3⟩
  rw [hg3.block b (by omega) (by simp;omega),WX.out b hb.1 hb.2]
def M7 (E:Env)(d:Nat):Prop:=∀ (p:Nat) (r:au Sy.Ex) (w:World),Hid (az E w p (200 - (d:Int)))→p≤E.l.length→Hid (r=Rp.piece E.l E.en d (Rp.dm E.l E.en d) p) →
 Calls Tryz.prog 157 #[.pointer (some ⟨E.R,0,none⟩)] w fun e w'=>Ends E (200 - (d:Int)) w r (qP w) e w'
theorem WZ (E:Env)(G:Good E)(d:Nat)(hT:Hid (CV E d))(hP:Hid (M7 E d)):zM E d:=by
 intro p r w h hp hr
 have hR:=h.out.lt
 have hr0:r=Rp.lM E.l E.en d (Rp.dm E.l E.en d) p:=by rw [hr.out,Rp.xN]
 have ma:Hid (w.grownBy (w.alloc ZE) (some E.R)):=dM (eD (Below.refl _ w)) _
 have HD0:Hid (az E (w.alloc ZE) p (200 - (d:Int))):=h.out.alloc G _
 cases h1:tk E.l p ⟨#[45]⟩ with
 | true =>
  have pW:Hid (r=Rp.turned E.l E.en d (Rp.dm E.l E.en d) 4 (p+1)):=by rw [hr0];unfold Rp.lM;rw [h1];rfl
  have hp1:p+1≤E.l.length:=Rp.dY h1
  clear hr0
  go_enter Tryz.func153,Tryz.ntmps153
  go_wp2_with fail
  refine (ek E G p _ ⟨#[45]⟩ true (p+1) _ HD0 hp h1.symm rfl).mono ?_
  rintro e w1 ⟨rfl,hd1,hg1⟩
  have ax:Hid (w.grownBy w1 (some E.R)):=ay ma.out hg1
  have HZ1:Hid (w1.heap[w.heap.size]?=some ZE):=aA hg1 (by omega) (heap_alloc_new w ZE)
  have HD1:=aa hd1
  clear hd1 hg1
  go_wp2_with fail
  refine (hT.out 4 (p+1) r _ HD1 hp1 pW).mono ?_
  rintro e w8 ⟨aL,bL⟩
  have bT:Hid (w.grownBy w8 (some E.R)):=ay ax.out aL
  have bz:w8.heap[w.heap.size]?=some ZE:=aA aL (by omega) HZ1.out
  have rZ:w.heap.size<w1.heap.size:=lt_of_block HZ1.out
  cases r with
  | error er =>
   obtain ⟨e1,e2⟩:=er
   obtain ⟨rfl,aD⟩:=bL
   have aS:=aa aD
   clear aD aL bz
   go_wp2
   exact ⟨rfl,bT.out,rfl,aS.out⟩
  | ok qx =>
   obtain ⟨q,x⟩:=qx
   obtain ⟨⟨v,rfl,a,c,n,rfl,hq⟩,aD⟩:=bL
   have aS:=aa aD
   have HQ:=aa hq
   obtain ⟨⟨z0,z1,z2,z3⟩,y0,y1,y2,y3⟩:=fP bz
   clear aD aL hq bz
   go_wp2
   refine bodyPost_ret (v:=dH x a c) (by simp [results,Tryz.results153,go_sem,z0,z1,z2,z3]) rfl ?_
   refine ⟨eu bT.out (Nat.le_refl _) _ _ _ _,⟨_,rfl,a,c,n,rfl,HQ.out.keep (fun b hb=>⟨⟨by omega,by simp only [World.bC];omega⟩,kz (by omega) _ _ _ _⟩)⟩,h.out.grown G (eu bT.out (Nat.le_refl _) _ _ _ _) (aS.out.rd.four (by omega) _ _ _ _)⟩
 | false =>
  cases h2:tk E.l p ⟨#[110,111,116]⟩ with
  | true =>
   have pW:Hid (r=Rp.turned E.l E.en d (Rp.dm E.l E.en d) 5 (p+1)):=by rw [hr0];unfold Rp.lM;rw [h1,h2];rfl
   have hp1:p+1≤E.l.length:=Rp.dY h2
   clear hr0
   go_enter Tryz.func153,Tryz.ntmps153
   go_wp2_with fail
   refine (ek E G p _ ⟨#[45]⟩ false p _ HD0 hp h1.symm rfl).mono ?_
   rintro e w1 ⟨rfl,hd1,hg1⟩
   have ax:Hid (w.grownBy w1 (some E.R)):=ay ma.out hg1
   have HZ1:Hid (w1.heap[w.heap.size]?=some ZE):=aA hg1 (by omega) (heap_alloc_new w ZE)
   have HD1:=aa hd1
   clear hd1 hg1
   go_wp2_with fail
   refine (ek E G p _ ⟨#[110,111,116]⟩ true (p+1) _ HD1 hp h2.symm rfl).mono ?_
   rintro e w2 ⟨rfl,hd2,hg2⟩
   have HG2:Hid (w.grownBy w2 (some E.R)):=ay ax.out hg2
   have HZ2:Hid (w2.heap[w.heap.size]?=some ZE):=aA hg2 (by omega) HZ1.out
   have HD2:=aa hd2
   clear hd2 hg2
   go_wp2_with fail
   refine (hT.out 5 (p+1) r _ HD2 hp1 pW).mono ?_
   rintro e w8 ⟨aL,bL⟩
   have bT:Hid (w.grownBy w8 (some E.R)):=ay HG2.out aL
   have bz:w8.heap[w.heap.size]?=some ZE:=aA aL (by omega) HZ2.out
   have rZ:w.heap.size<w2.heap.size:=lt_of_block HZ2.out
   cases r with
   | error er =>
    obtain ⟨e1,e2⟩:=er
    obtain ⟨rfl,aD⟩:=bL
    have aS:=aa aD
    clear aD aL bz
    go_wp2
    exact ⟨rfl,bT.out,rfl,aS.out⟩
   | ok qx =>
    obtain ⟨q,x⟩:=qx
    obtain ⟨⟨v,rfl,a,c,n,rfl,hq⟩,aD⟩:=bL
    have aS:=aa aD
    have HQ:=aa hq
    obtain ⟨⟨z0,z1,z2,z3⟩,y0,y1,y2,y3⟩:=fP bz
    clear aD aL hq bz
    go_wp2
    refine bodyPost_ret (v:=dH x a c) (by simp [results,Tryz.results153,go_sem,z0,z1,z2,z3]) rfl ?_
    refine ⟨eu bT.out (Nat.le_refl _) _ _ _ _,⟨_,rfl,a,c,n,rfl,HQ.out.keep (fun b hb=>⟨⟨by omega,by simp only [World.bC];omega⟩,kz (by omega) _ _ _ _⟩)⟩,h.out.grown G (eu bT.out (Nat.le_refl _) _ _ _ _) (aS.out.rd.four (by omega) _ _ _ _)⟩
  | false =>
   have pW:Hid (r=Rp.piece E.l E.en d (Rp.dm E.l E.en d) p):=by rw [hr0];unfold Rp.lM;rw [h1,h2];rfl
   clear hr0
   go_enter Tryz.func153,Tryz.ntmps153
   go_wp2_with fail
   refine (ek E G p _ ⟨#[45]⟩ false p _ HD0 hp h1.symm rfl).mono ?_
   rintro e w1 ⟨rfl,hd1,hg1⟩
   have ax:Hid (w.grownBy w1 (some E.R)):=ay ma.out hg1
   have HZ1:Hid (w1.heap[w.heap.size]?=some ZE):=aA hg1 (by omega) (heap_alloc_new w ZE)
   have HD1:=aa hd1
   clear hd1 hg1
   go_wp2_with fail
   refine (ek E G p _ ⟨#[110,111,116]⟩ false p _ HD1 hp h2.symm rfl).mono ?_
   rintro e w2 ⟨rfl,hd2,hg2⟩
   have HG2:Hid (w.grownBy w2 (some E.R)):=ay ax.out hg2
   have HZ2:Hid (w2.heap[w.heap.size]?=some ZE):=aA hg2 (by omega) HZ1.out
   have HD2:=aa hd2
   clear hd2 hg2
   go_wp2_with fail
   refine (hP.out p r _ HD2 hp pW).mono ?_
   rintro e w8 ⟨aL,bL⟩
   have bT:Hid (w.grownBy w8 (some E.R)):=ay HG2.out aL
   have bz:w8.heap[w.heap.size]?=some ZE:=aA aL (by omega) HZ2.out
   have rZ:w.heap.size<w2.heap.size:=lt_of_block HZ2.out
   cases r with
   | error er =>
    obtain ⟨e1,e2⟩:=er
    obtain ⟨rfl,aD⟩:=bL
    have aS:=aa aD
    clear aD aL bz
    go_wp2
    exact ⟨rfl,bT.out,rfl,aS.out⟩
   | ok qx =>
    obtain ⟨q,x⟩:=qx
    obtain ⟨⟨v,rfl,a,c,n,rfl,hq⟩,aD⟩:=bL
    have aS:=aa aD
    have HQ:=aa hq
    obtain ⟨⟨z0,z1,z2,z3⟩,y0,y1,y2,y3⟩:=fP bz
    clear aD aL hq bz
    go_wp2
    refine bodyPost_ret (v:=dH x a c) (by simp [results,Tryz.results153,go_sem,z0,z1,z2,z3]) rfl ?_
    refine ⟨eu bT.out (Nat.le_refl _) _ _ _ _,⟨_,rfl,a,c,n,rfl,HQ.out.keep (fun b hb=>⟨⟨by omega,by simp only [World.bC];omega⟩,kz (by omega) _ _ _ _⟩)⟩,h.out.grown G (eu bT.out (Nat.le_refl _) _ _ _ _) (aS.out.rd.four (by omega) _ _ _ _)⟩
def xS (t:ByteArray):ByteArray:=match Sy.table.find? (fun x=>decide (x.2.1=t)) with
 | some x=>x.2.1
 | none=>⟨#[]⟩
abbrev vM (t:ByteArray):Value:=.agg #[.int .i64 (Rp.sign t).1,.string (xS t),.int .i64 (Rp.sign t).2]
theorem M8 (a b:ByteArray):(a==b)=decide (a=b):=by
 cases a with
 | mk x =>
  cases b with
  | mk y =>
   show (x==y)=_
   rw [Bool.eq_iff_iff]
   simp
theorem M9 (t:ByteArray):∀ (T:List (Int × ByteArray × Int)) (k i:Nat),(∃ p j,T.find? (fun x=>decide (x.2.1=t))=some p∧Instr.findNow .string (.string t) ((T.zipIdx k).map fun (p,i)=>{ key:=.string p.2.1,val:=nP p,born:=i }) i=some (some (j,nP p))) ∨
  (T.find? (fun x=>decide (x.2.1=t))=none∧Instr.findNow .string (.string t) ((T.zipIdx k).map fun (p,i)=>{ key:=.string p.2.1,val:=nP p,born:=i }) i=some none)
 | [],k,i=>.inr ⟨rfl,rfl⟩
 | p :: T,k,i=>by
  by_cases h:p.2.1=t
  ·refine .inl ⟨p,i,by simp [h],?_⟩
   have h':(t==p.2.1)=true:=by rw [M8];simp [h]
   simp only [List.zipIdx_cons,List.map_cons,Instr.findNow,Instr.sameNow,h']
  ·have h':(t==p.2.1)=false:=by rw [M8];simp;exact fun e=>h e.symm
   rcases M9 t T (k+1) (i+1) with ⟨q,j,h1,h2⟩ | ⟨h1,h2⟩
   ·refine .inl ⟨q,j,by simp [h,h1],?_⟩
    simp only [List.zipIdx_cons,List.map_cons,Instr.findNow,Instr.sameNow,h']
    exact h2
   ·refine .inr ⟨by simp [h,h1],?_⟩
    simp only [List.zipIdx_cons,List.map_cons,Instr.findNow,Instr.sameNow,h']
    exact h2
theorem Gu (M:Nat)(t:ByteArray)(w:World)(h:w.heap[M]?=some (.map jZ.toArray 13)):(Instr.lookup 58 (.map (some M)) (.string t) false).run Tryz.prog w=.ok (vM t) w:=by
 have hg:(getObj M).run Tryz.prog w=.ok (.map jZ.toArray 13) w:=by simp [getObj,Sem.run,h]
 have hc:∀ b,(Instr.checkKey b 10000 9 (.string t)).run Tryz.prog w=.ok () w:=fun b=>MapKept.run_checkKey (n:=9999) Tryz.underlying9 (by simp [MapKept.IsKey]) b
 have hu:=run_underlying (w:=w) Tryz.underlying58
 rcases M9 t Sy.table 0 0 with ⟨p,j,h1,h2⟩ | ⟨h1,h2⟩
 ·have hk:=MapKept.run_findKey (P:=Tryz.prog) (w:=w) (kt:=9) Tryz.underlying9 h2
  have hl:nP p=vM t:=by unfold vM xS Rp.sign;rw [h1]
  rw [hl] at hk
  have hk':(Instr.findKey 9 (.string t) jZ).run Tryz.prog w=.ok (some (j,vM t)) w:=hk
  simp [Instr.lookup,hu,hg,hc,hk']
 ·have hk:=MapKept.run_findKey (P:=Tryz.prog) (w:=w) (kt:=9) Tryz.underlying9 h2
  have hk':(Instr.findKey 9 (.string t) jZ).run Tryz.prog w=.ok none w:=hk
  have hz:vM t=.agg #[.int .i64 0,.string ⟨#[]⟩,.int .i64 0]:=by unfold vM xS Rp.sign;rw [h1]
  have hzv:(zeroValue 75).run Tryz.prog w=.ok (vM t) w:=by rw [hz];kernel_rfl
  simp [Instr.lookup,hu,hg,hc,hk',hzv]
theorem Xa (E:Env)(G:Good E)(d:Nat)(hA:Hid (zM E d)):CU E d 0:=by
 intro p r w h hp hr
 have hR:=h.out.lt
 have pW:Hid (r=Rp.ahead E.l E.en d p):=hr.out
 have aY:Hid (w.grownBy (w.alloc ZE) (some E.R)):=dM (eD (Below.refl _ w)) _
 have HZ0:Hid ((w.alloc ZE).heap[w.heap.size]?=some ZE):=heap_alloc_new w ZE
 have HD0:Hid (az E (w.alloc ZE) p (200 - (d:Int))):=h.out.alloc G _
 obtain ⟨lv,hlv⟩:∃ lv:Int,(6 - ((0:Nat):Int))=lv:=⟨_,rfl⟩
 rw [hlv]
 have e0:(lv==6)=true:=by simp;omega
 clear hlv
 obtain ⟨w0,hw0⟩:∃ w0,w0=w.alloc ZE:=⟨_,rfl⟩
 rw [← hw0] at aY HZ0 HD0
 have HW0:=aa hw0.symm
 clear hw0
 go_enter Tryz.func145,Tryz.ntmps145
 go_wp2_with fail
 rw [HW0.out]
 refine (hA.out p r _ HD0 hp pW).mono ?_
 rintro e w8 ⟨aL,bL⟩
 have bT:Hid (w.grownBy w8 (some E.R)):=ay aY.out aL
 have bz:w8.heap[w.heap.size]?=some ZE:=aA aL (by omega) HZ0.out
 have rZ:w.heap.size<w0.heap.size:=lt_of_block HZ0.out
 cases r with
 | error er =>
  obtain ⟨e1,e2⟩:=er
  obtain ⟨rfl,aD⟩:=bL
  have aS:=aa aD
  clear aD aL bz
  go_wp2
  exact ⟨rfl,bT.out,rfl,aS.out⟩
 | ok qx =>
  obtain ⟨q,x⟩:=qx
  obtain ⟨⟨v,rfl,a,c,n,rfl,hq⟩,aD⟩:=bL
  have aS:=aa aD
  have HQ:=aa hq
  obtain ⟨⟨z0,z1,z2,z3⟩,y0,y1,y2,y3⟩:=fP bz
  clear aD aL hq bz
  go_wp2
  refine bodyPost_ret (v:=dH x a c) (by simp [results,Tryz.results145,go_sem,z0,z1,z2,z3]) rfl ?_
  refine ⟨eu bT.out (Nat.le_refl _) _ _ _ _,⟨_,rfl,a,c,n,rfl,HQ.out.keep (fun b hb=>⟨⟨by omega,by simp only [World.bC];omega⟩,kz (by omega) _ _ _ _⟩)⟩,h.out.grown G (eu bT.out (Nat.le_refl _) _ _ _ _) (aS.out.rd.four (by omega) _ _ _ _)⟩
structure oU (E:Env) (op:Int) (w:World) (N:Nat) (q n:Nat) (x:Sy.Ex) (a:Option Addr) (c:Nat) (u:World):Prop where
 eP:az E u q op
 grown:w.grownBy u (some E.R)
 zero:u.heap[w.heap.size]?=some ZE
 box:u.heap[N]?=some (ic x.kind x.n x.name (.slice a x.kids.length c))
 kids:bK (fun b=>w.heap.size<b∧b≠N∧b<u.heap.size) u n x a
 le:q≤E.l.length
def Na (E:Env)(op:Int)(w:World)(N:Nat)(next:Nat→au Sy.Ex)(lv:Int)(r:au Sy.Ex)(k:Nat)(u:World):Prop :=
 ∃ q n x a c,oU E op w N q n x a c u∧E.l.length+1 - q≤k∧r=Rp.loop E.l E.en next lv k x q
theorem az.drew {E:Env}{w:World}{p:Nat}{op:Int}(h:az E w p op):az E w.drew p op:=⟨h.rd,h.tk,h.mp⟩
theorem Nb {w w':World}(h:Below w.drew.heap.size w.drew w'):Below w.heap.size w w':=⟨h.os,h.tape,h.output,h.size,h.block⟩
abbrev PZ:Obj:=.cells #[.int .i64 0,.string ⟨#[]⟩,.int .i64 0] 75 (0,0)
theorem CW {w:World}{N:Nat}{k l:Int}{s:ByteArray}(h:w.heap[N]?=some (.cells #[.int .i64 k,.string s,.int .i64 l] 75 (0,0))) :
  (w.cell? ⟨N,0,none⟩=some (.int .i64 k)∧w.cell? ⟨N,1,none⟩=some (.string s)∧w.cell? ⟨N,2,none⟩=some (.int .i64 l))∧w.frozen? ⟨N,0,none⟩=false∧w.frozen? ⟨N,1,none⟩=false∧w.frozen? ⟨N,2,none⟩=false:=by
 simp [World.cell?,World.frozen?,h]
theorem Xb {w:World}{N:Nat}{o1 o2 o3:Value}(h:w.heap[N]?=some (.cells #[o1,o2,o3] 75 (0,0)))(a b c:Value) :
  (((w.setCell ⟨N,0,none⟩ a).setCell ⟨N,1,none⟩ b).setCell ⟨N,2,none⟩ c).heap[N]?=some (.cells #[a,b,c] 75 (0,0)):=by
 simp only [World.setCell,Array.getElem?_modify,if_true,h,Option.map_some]
 rfl
structure Xc (E:Env) (op:Int) (w:World) (N:Nat) (q n:Nat) (x:Sy.Ex) (a:Option Addr) (c:Nat) (t:Lx.Tk) (pv:Value) (wr u:World):Prop where
 fr:oU E op w N q n x a c u
 pair:∃ NP,pv=.pointer (some ⟨NP,0,none⟩)∧wr.heap.size≤NP∧u.heap[NP]?=some (.cells #[.int .i64 (Rp.sign t.text).1,.string (xS t.text),.int .i64 (Rp.sign t.text).2] 75 (0,0))
theorem RD.Gv {w:World}{R:Nat}{ta:Option Addr}{tc:Nat}{l:List Lx.Tk}{p en:Nat}{mv:Value}{op:Int}(h:RD w R ta tc l p en mv op):w.cell? ⟨R,3,none⟩=some mv:=by
 unfold RD at h
 simp [World.cell?,h]
theorem oU.on {E:Env}{op:Int}{w:World}{N q n:Nat}{x:Sy.Ex}{a:Option Addr}{c:Nat}{u u':World}(h:oU E op w N q n x a c u)(G:Good E)(hb:Below u.heap.size u u'):oU E op w N q n x a c u' :=
 ⟨h.eP.on G hb,rP h.grown hb,(hb.block _ (lt_of_block h.zero)).trans h.zero,(hb.block _ (lt_of_block h.box)).trans h.box,h.kids.keep (fun b hq=>⟨⟨hq.1,hq.2.1,by have:=hb.size;omega⟩,hb.block b hq.2.2⟩),h.le⟩
theorem zQ {w w':World}{R:Option Nat}(h:w.drew.grownBy w' R):w.grownBy w' R:=⟨h.os,h.tape,h.output,h.size,h.block⟩
theorem bK.two {Q:Nat→Prop}{w:World}{n b:Nat}{kd nn:Int}{s:ByteArray}{x y:Sy.Ex}{a a4:Option Addr}{c c4:Nat}(hx:bK Q w n x a)(hy:bK Q w n y a4)(hb:Q b)(hs:s.size≤6000)
  (hw:w.heap[b]?=some (.cells #[.int .i64 x.kind,.int .i64 x.n,.string x.name,.slice a x.kids.length c,.int .i64 y.kind,.int .i64 y.n,.string y.name,.slice a4 y.kids.length c4] 122 (0,0))):bK Q w (n+1) ⟨kd,nn,s,[x,y]⟩ (some ⟨b,0,none⟩):=by
 refine ⟨hs,by simp,fun i k hk=>?_⟩
 match i,hk with
 | 0,hk =>
  simp at hk
  subst hk
  exact ⟨b,0,a,c,rfl,hb,by simp [World.cell?,hw],by simp [World.cell?,hw],by simp [World.cell?,hw],by simp [World.cell?,hw],hx⟩
 | 1,hk =>
  simp at hk
  subst hk
  exact ⟨b,0,a4,c4,rfl,hb,by simp [World.cell?,hw],by simp [World.cell?,hw],by simp [World.cell?,hw],by simp [World.cell?,hw],hy⟩
 | i+2,hk=>simp at hk
theorem oU.Xd {E:Env}{op:Int}{w:World}{N q q2 p n n4:Nat}{x y:Sy.Ex}{a a4:Option Addr}{c c4:Nat}{u u4:World}{K:Int}(h:oU E op w N q n x a c u)(G:Good E)(h0:az E w p op)(hR:E.R<w.heap.size)(xU:w.heap.size<N)(hg:u.grownBy u4 (some E.R))(hd:az E u4 q2 op)(hy:bK (fun b=>u.heap.size≤b∧b<u4.heap.size) u4 n4 y a4)(hN:N<u.heap.size)(hq:q2≤E.l.length) :
  oU E op w N q2 (max n n4+1) ⟨K,0,⟨#[]⟩,[x,y]⟩ (some ⟨u4.heap.size,0,none⟩) 2 (((((u4.setCell ⟨N,0,none⟩ (.int .i64 K)).setCell ⟨N,1,none⟩ (.int .i64 0)).setCell ⟨N,2,none⟩ (.string ⟨#[]⟩)).setCell ⟨N,3,none⟩ (.slice (some ⟨u4.heap.size,0,none⟩) 2 2)).alloc (.cells #[.int .i64 x.kind,.int .i64 x.n,.string x.name,.slice a x.kids.length c,.int .i64 y.kind,.int .i64 y.n,.string y.name,.slice a4 y.kids.length c4] 122)):=by
 have hs:=hg.size
 have hgr:=ay h.grown hg
 have hgs:=hgr.size
 have Nc:=dM (eu hgr (Nat.le_of_lt xU) (.int .i64 K) (.int .i64 0) (.string ⟨#[]⟩) (.slice (some ⟨u4.heap.size,0,none⟩) 2 2)) (.cells #[.int .i64 x.kind,.int .i64 x.n,.string x.name,.slice a x.kids.length c,.int .i64 y.kind,.int .i64 y.n,.string y.name,.slice a4 y.kids.length c4] 122)
 have mf:((((u4.setCell ⟨N,0,none⟩ (.int .i64 K)).setCell ⟨N,1,none⟩ (.int .i64 0)).setCell ⟨N,2,none⟩ (.string ⟨#[]⟩)).setCell ⟨N,3,none⟩ (.slice (some ⟨u4.heap.size,0,none⟩) 2 2)).heap.size=u4.heap.size:=by simp only [World.bC]
 have hbx:=Gr (aA hg (by omega) h.box) (.int .i64 K) (.int .i64 0) (.string ⟨#[]⟩) (.slice (some ⟨u4.heap.size,0,none⟩) 2 2)
 refine ⟨h0.grown G Nc ((hd.rd.four (by omega) _ _ _ _).on ((Below.refl _ _).alloc (Nat.le_refl _) _)),Nc,?_,?_,?_,hq⟩
 ·rw [Below.heap_alloc _ _ _ (by rw [mf];omega),kz (by omega)]
  exact aA hg (by omega) h.zero
 ·rw [Below.heap_alloc _ _ _ (by rw [mf];omega)]
  exact hbx
 ·have xV:(((((u4.setCell ⟨N,0,none⟩ (.int .i64 K)).setCell ⟨N,1,none⟩ (.int .i64 0)).setCell ⟨N,2,none⟩ (.string ⟨#[]⟩)).setCell ⟨N,3,none⟩ (.slice (some ⟨u4.heap.size,0,none⟩) 2 2)).alloc (.cells #[.int .i64 x.kind,.int .i64 x.n,.string x.name,.slice a x.kids.length c,.int .i64 y.kind,.int .i64 y.n,.string y.name,.slice a4 y.kids.length c4] 122)).heap.size=u4.heap.size+1:=by rw [World.size_alloc,mf]
  rw [xV]
  have hnew:=heap_alloc_new ((((u4.setCell ⟨N,0,none⟩ (.int .i64 K)).setCell ⟨N,1,none⟩ (.int .i64 0)).setCell ⟨N,2,none⟩ (.string ⟨#[]⟩)).setCell ⟨N,3,none⟩ (.slice (some ⟨u4.heap.size,0,none⟩) 2 2)) (.cells #[.int .i64 x.kind,.int .i64 x.n,.string x.name,.slice a x.kids.length c,.int .i64 y.kind,.int .i64 y.n,.string y.name,.slice a4 y.kids.length c4] 122)
  rw [mf] at hnew
  refine bK.two (c:=c) (c4:=c4) ((h.kids.keep (fun b hb=>⟨⟨hb.1,hb.2.1,by omega⟩,?_⟩)).up (by omega)) ((hy.keep (fun b hb=>⟨⟨by omega,by omega,by omega⟩,?_⟩)).up (by omega)) ⟨by omega,by omega,by omega⟩ (by decide) hnew
  ·rw [Below.heap_alloc _ _ _ (by rw [mf];omega),kz hb.2.1]
   exact hg.block b hb.2.2 (by simp;omega)
  ·rw [Below.heap_alloc _ _ _ (by rw [mf];omega),kz (by omega)]
theorem Xe {l:List Lx.Tk}{q en:Nat}(h:(Rp.sign (pk l q en).text).2≠0):q+1≤l.length:=by
 by_cases hlt:q<l.length
 ·exact hlt
 ·exfalso
  apply h
  have e:(pk l q en).text=⟨#[]⟩:=by unfold pk;rw [List.getElem?_eq_none (by omega)];rfl
  rw [e]
  decide
theorem oU.skipped {E:Env}{op:Int}{w:World}{N q q' n:Nat}{x:Sy.Ex}{a:Option Addr}{c:Nat}{u u':World}(h:oU E op w N q n x a c u)(hg:u.grownBy u' (some E.R))(hd:az E u' q' op)(hq:q'≤E.l.length)(hR:E.R<w.heap.size)(xU:w.heap.size<N):oU E op w N q' n x a c u' :=
 ⟨hd,ay h.grown hg,aA hg (by omega) h.zero,aA hg (by omega) h.box,h.kids.keep (fun b hb=>⟨⟨hb.1,hb.2.1,by have:=hg.size;omega⟩,hg.block b hb.2.2 (by simp;omega)⟩),hq⟩
theorem zR (E:Env)(G:Good E)(d k:Nat)(hk:k≤4)(hF:Hid (CU E d k)):CU E d (k+1):=by
 intro p r w h hp hr
 have hR:=h.out.lt
 obtain ⟨next,hnx⟩:∃ next,next=Rp.from' E.l E.en (Rp.ahead E.l E.en d) k:=⟨_,rfl⟩
 have Xf:Hid (∀ p,next p=Rp.from' E.l E.en (Rp.ahead E.l E.en d) k p):=fun p=>by rw [hnx]
 have HAD:Hid (Rp.dF E.l next):=by unfold Hid;rw [hnx];exact Rp.CJ (Rp.FV E.l E.en d) k (by omega)
 obtain ⟨r1,hr1⟩:∃ r1,r1=next p:=⟨_,rfl⟩
 obtain ⟨lv,hlv⟩:∃ lv:Int,(6 - ((k+1:Nat):Int))=lv:=⟨_,rfl⟩
 have bI:Hid (r=Rp.andThen r1 fun q x=>Rp.loop E.l E.en next lv (E.l.length+1) x q):=by
  rw [hr.out,hr1,hnx,← hlv,show (6:Int) - ((k+1:Nat):Int)=5 - (k:Int) by omega];rfl
 have HR1:Hid (r1=Rp.from' E.l E.en (Rp.ahead E.l E.en d) k p):=by rw [hr1,hnx];rfl
 have HA1:Hid (∀ q x,r1=.ok (q,x)→q≤E.l.length):=fun q x hx=>(HAD.out p q x hp (by rw [← hr1,hx])).2
 rw [hlv]
 have e0:(lv==6)=false:=by simp;omega
 have Gx:Hid (lv+1=6 - (k:Int)):=by unfold Hid;omega
 have l1:1≤lv:=by omega
 have l2:lv≤5:=by omega
 clear hnx hr1 hlv
 go_enter Tryz.func145,Tryz.ntmps145
 go_wp2_with fail
 rw [Gx.out]
 refine (hF.out p r1 _ (h.out.alloc G _) hp HR1).mono ?_
 rintro e w1 ⟨hg1,hf1⟩
 have ax:Hid (w.grownBy w1 (some E.R)):=ay (dM (eD (Below.refl _ w)) _) hg1
 have HZ1:Hid (w1.heap[w.heap.size]?=some ZE):=aA hg1 (by omega) (heap_alloc_new w ZE)
 have hw1:w.heap.size<w1.heap.size:=lt_of_block HZ1.out
 clear hg1
 cases r1 with
 | error er =>
  obtain ⟨e1,e2⟩:=er
  obtain ⟨rfl,hd1⟩:=hf1
  have HD1:=aa hd1
  have ae:Hid (r=.error (e1,e2)):=bI.out
  clear hd1
  go_wp2
  exact ⟨rfl,ax.out,by rw [ae.out];exact ⟨rfl,HD1.out⟩⟩
 | ok qx =>
  obtain ⟨q0,x0⟩:=qx
  obtain ⟨⟨v,rfl,a0,c0,n0,rfl,hq0⟩,hd1⟩:=hf1
  have HE2:Hid (r=Rp.loop E.l E.en next lv (E.l.length+1) x0 q0):=bI.out
  have HST:Hid (Na E (200 - (d:Int)) w w1.heap.size next lv r (E.l.length+1) (w1.alloc (ic x0.kind x0.n x0.name (.slice a0 x0.kids.length c0)))) :=
   ⟨q0,n0,x0,a0,c0,⟨hd1.alloc G _,dM ax.out _,(Below.heap_alloc _ _ _ (by omega)).trans HZ1.out,heap_alloc_new w1 _,hq0.keep (fun b hb=>⟨⟨by have:=hb.1;simp at this;omega,by omega,by simp;omega⟩,Below.heap_alloc _ _ _ hb.2⟩),HA1.out q0 x0 rfl⟩,by omega,HE2.out⟩
  clear hd1 hq0
  go_wp2
  go_loopg [] (E.l.length+1) (fun kk wr=>Na E (200 - (d:Int)) w w1.heap.size next lv r kk wr)
  case atStart=>exact HST.out
  case round =>
   obtain ⟨q,n,x,a,c,hA,hkk,hrr⟩:=hrel
   clear HST
   have HA:=aa hA
   have HKK:=aa hkk
   have HRR:=aa hrr
   obtain ⟨t,ht⟩:∃ t,t=pk E.l q E.en:=⟨_,rfl⟩
   have HT:=aa ht
   have Xg:wr.cell? ⟨E.R,3,none⟩=some (.map (some E.M)):=hA.eP.rd.Gv
   have Gy:=hA.le
   have M6:=hA.eP.lt
   clear hA hkk hrr ht
   go_upto_region 4 with fail
   go_cut [6] (fun pv wx=>Xc E (200 - (d:Int)) w w1.heap.size q n x a c t pv wr wx)
   case first =>
    have hf:=Cs t.kind t.num t.pos t.text
    have hne:¬ wr.heap.size=E.R:=by omega
    go_region_held3 (fun w'=>w'.cell? ⟨E.R,3,none⟩=some (.map (some E.M))) (go_keep) ((go_at_call 63;first | (refine (zL E G q (200 - (d:Int)) t _ (by exact HA.out.eP.drew) Gy HT).mono ?_;rintro e w2 ⟨rfl,hb2⟩;have HB2:Hid (Below wr.heap.size wr w2):=Nb hb2;have bW:=aa (HA.out.on G HB2.out);have HS2:Hid (wr.heap.size≤w2.heap.size):=hb2.size;have Xh:w2.cell? ⟨E.R,3,none⟩=some (.map (some E.M)):=bW.out.eP.rd.Gv;have k1:=Gu E.M t.text w2 bW.out.eP.mp;have k2:=Gu E.M t.text (w2.alloc PZ) (bW.out.eP.alloc G _).mp;have Xi:E.R<w2.heap.size:=bW.out.eP.lt;clear hb2) | (refine (zL E G q (200 - (d:Int)) t _ (by exact (HA.out.eP.alloc G PZ).drew) Gy HT).mono ?_;rintro e w2 ⟨rfl,hb2⟩;have HB2:Hid (Below wr.heap.size wr w2):=((Below.refl _ wr).alloc (Nat.le_refl _) PZ).trans ((Nb hb2).mono (by simp));have bW:=aa (HA.out.on G HB2.out);have fJ:Hid (w2.heap[wr.heap.size]?=some PZ):=(hb2.block _ (by simp)).trans (heap_alloc_new wr PZ);have HS2:Hid (wr.heap.size≤w2.heap.size):=(Nat.le_of_lt (lt_of_block fJ.out));have Xh:w2.cell? ⟨E.R,3,none⟩=some (.map (some E.M)):=bW.out.eP.rd.Gv;have k1:=Gu E.M t.text w2 bW.out.eP.mp;obtain ⟨⟨p0,p1,p2⟩,p3,p4,p5⟩:=CW fJ.out;have Xi:E.R<w2.heap.size:=bW.out.eP.lt;clear hb2)))
    all_goals
     go_wp2_with fail
     go_meet
     first | exact ⟨HA.out.on G (HB2.out.alloc HB2.out.size _),w2.heap.size,rfl,HB2.out.size,heap_alloc_new w2 _⟩ | exact ⟨HA.out.on G (((HB2.out.setCell (p:=⟨wr.heap.size,0,none⟩) (Nat.le_refl _) _).setCell (p:=⟨wr.heap.size,1,none⟩) (Nat.le_refl _) _).setCell (p:=⟨wr.heap.size,2,none⟩) (Nat.le_refl _) _),wr.heap.size,rfl,Nat.le_refl _,Xb fJ.out _ _ _⟩
   case rest =>
    obtain ⟨hfr,NP,rfl,hNP,hpb⟩:=hcut
    obtain ⟨f,rfl⟩:∃ f,gk=f+1:=⟨gk - 1,by have:=HKK.out;omega⟩
    have xW:=aa hfr
    have Xj:=aa hpb
    have CX:=HRR.out
    rw [Rp.loop,← HT.out] at CX
    obtain ⟨K1,hK1⟩:∃ K1,(Rp.sign t.text).1=K1:=⟨_,rfl⟩
    obtain ⟨K2,hK2⟩:∃ K2,(Rp.sign t.text).2=K2:=⟨_,rfl⟩
    rw [hK1,hK2] at CX hpb
    have Gz:=aa CX
    have Xk:=aa hpb
    obtain ⟨⟨p0,p1,p2⟩,_⟩:=CW hpb
    have hwc:=lt_of_block hpb
    have hzero:=hfr.zero
    have CY:=hfr.box
    have aet:w.heap.size<wc.heap.size:=lt_of_block hfr.zero
    have aeu:w1.heap.size<wc.heap.size:=lt_of_block hfr.box
    have hwr:w1.heap.size<wr.heap.size:=lt_of_block HA.out.box
    clear hK1 CX HRR HA Xj Xg M6
    by_cases hs:K2=lv
    ·have e1:(K2 != lv)=false:=by simp;exact hs
     have HS:=aa hs
     have CZ:q+1≤E.l.length:=by
      have hne0:(Rp.sign (pk E.l q E.en).text).2≠0:=by rw [← HT.out,hK2];omega
      exact Xe hne0
     obtain ⟨r2,hr2⟩:∃ r2,r2=next (q+1):=⟨_,rfl⟩
     have HR2:Hid (r2=Rp.from' E.l E.en (Rp.ahead E.l E.en d) k (q+1)):=by rw [hr2];exact Xf.out (q+1)
     have HA2:Hid (∀ q2 y,r2=.ok (q2,y)→q+1<q2∧q2≤E.l.length):=fun q2 y hx=>HAD.out (q+1) q2 y CZ (by rw [← hr2,hx])
     have dL:Hid (r=Rp.andThen r2 fun q2 y=>if lv=3 then .ok (q2,⟨K1,0,⟨#[]⟩,[x,y]⟩) else Rp.loop E.l E.en next lv f ⟨K1,0,⟨#[]⟩,[x,y]⟩ q2):=by
      have:=Gz.out
      rw [if_neg (by simpa using hs),← hr2] at this
      exact this
     clear hs hfr hpb p1 hzero CY hK2 hr2 Gz
     go_wp2_with fail
     refine (M4 E G q _ _ xW.out.eP Gy).mono ?_
     rintro e w3 ⟨rfl,hd3,hg3⟩
     have fM:=aa (xW.out.skipped hg3 hd3 CZ hR hw1)
     have j3:Hid (w3.heap[NP]?=some (.cells #[.int .i64 K1,.string (xS t.text),.int .i64 K2] 75 (0,0))):=aA hg3 (by omega) Xk.out
     have hs3:=hg3.size
     obtain ⟨⟨GD,_,_⟩,_⟩:=CW j3.out
     obtain ⟨⟨b0,b1,b2,b3⟩,g0,g1,g2,g3⟩:=fP fM.out.box
     clear hd3 hg3 p0 p2
     have wL:IntKind.i64.wrap (lv+1)=lv+1:=IntWalk.i64_in _ ⟨by omega,by omega⟩
     cases r2 with
     | error er =>
      obtain ⟨Nf,e2'⟩:=er
      have ae:Hid (r=.error (Nf,e2')):=dL.out
      go_upto_region 8 with fail
      refine wp_region_held_drew (S:=fun w'=>w'.cell? ⟨NP,0,none⟩=some (.int .i64 K1)∧w'.cell? ⟨w1.heap.size,0,none⟩=some (.int .i64 x.kind)∧w'.cell? ⟨w1.heap.size,1,none⟩=some (.int .i64 x.n)∧w'.cell? ⟨w1.heap.size,2,none⟩=some (.string x.name)∧w'.cell? ⟨w1.heap.size,3,none⟩=some (.slice a x.kids.length c)) (by kernel_rfl) ⟨GD,b0,b1,b2,b3⟩ (fun hHeld=>?_)
      refine wpAnyH_take (i:=0) (oi:=_) (v:=?_) rfl (by kernel_rfl) (by kernel_rfl) (by kernel_rfl) (fun _ _ _ h=>h) (Or.inl ⟨by rfl,?_⟩) (by assumption) ?_
      rotate_left
      ·intro w hSw
       (try dsimp only at hSw)
       go_simp
       (try with_reducible rfl)
      refine wpAnyH_take (i:=1) (oi:=_) (v:=?_) rfl (by kernel_rfl) (by kernel_rfl) (by kernel_rfl) (fun _ _ _ h=>h) (Or.inl ⟨by rfl,?_⟩) (by assumption) ?_
      rotate_left
      ·intro w hSw
       (try dsimp only at hSw)
       go_simp
       (try with_reducible rfl)
      refine wpAnyH_take (i:=2) (oi:=_) (v:=?_) rfl (by kernel_rfl) (by kernel_rfl) (by kernel_rfl) (fun _ _ _ h=>h) (Or.inl ⟨by rfl,?_⟩) (by assumption) ?_
      rotate_left
      ·intro w hSw
       (try dsimp only at hSw)
       go_simp
       (try with_reducible rfl)
      refine wpAnyH_take (i:=3) (oi:=_) (v:=?_) rfl (by kernel_rfl) (by kernel_rfl) (by kernel_rfl) (fun _ _ _ h=>h) (Or.inl ⟨by rfl,?_⟩) (by assumption) ?_
      rotate_left
      ·intro w hSw
       (try dsimp only at hSw)
       go_simp
       (try with_reducible rfl)
      refine wpAnyH_take (i:=4) (oi:=_) (v:=?_) rfl (by kernel_rfl) (by kernel_rfl) (by kernel_rfl) (fun _ _ _ h=>h) (Or.inl ⟨by rfl,?_⟩) (by assumption) ?_
      rotate_left
      ·intro w hSw
       (try dsimp only at hSw)
       go_simp
       (try with_reducible rfl)
      refine wpAnyH_take (i:=5) (oi:=_) (v:=?_) rfl (by kernel_rfl) (by kernel_rfl) (by kernel_rfl) (fun _ _ _ h=>h) (Or.inl ⟨by rfl,?_⟩) (by assumption) ?_
      rotate_left
      ·intro w hSw
       (try dsimp only at hSw)
       go_simp
       (try with_reducible rfl)
      refine wpAnyH_ready (rs:=[6]) (by kernel_rfl) (by simp) ?_
      refine AllReadyH.cons (o:=_) rfl (fun K hK=>?_) AllReadyH.nil
      go_simp
      rw [Gx.out]
      refine (hF.out (q+1) (.error (Nf,e2')) _ (by exact fM.out.eP.drew) CZ HR2).mono ?_
      rintro e w4 ⟨hg4,rfl,hd4⟩
      have aX:=aa (ay fM.out.grown (zQ hg4))
      have HD4:=aa hd4
      clear hg4 hd4 hK
      go_wp2
      exact ⟨rfl,aX.out,by rw [ae.out];exact ⟨rfl,HD4.out⟩⟩
     | ok qx =>
      obtain ⟨q2,y⟩:=qx
      have ae:Hid (r=if lv=3 then .ok (q2,⟨K1,0,⟨#[]⟩,[x,y]⟩) else Rp.loop E.l E.en next lv f ⟨K1,0,⟨#[]⟩,[x,y]⟩ q2):=dL.out
      obtain ⟨aev,Xl⟩:=HA2.out q2 y rfl
      have aew:NP<w3.heap.size:=by omega
      go_upto_region 8 with fail
      go_cut [] (fun wx=>∃ n' a' c',oU E (200 - (d:Int)) w w1.heap.size q2 n' ⟨K1,0,⟨#[]⟩,[x,y]⟩ a' c' wx)
      case first =>
       go_region_with (go_at_call 145;(try rw [wL]);rw [Gx.out];refine (hF.out (q+1) (.ok (q2,y)) _ (by exact fM.out.eP.drew) CZ HR2).mono ?_;rintro e w4 ⟨hg4,⟨v4,rfl,a4,c4,n4,rfl,hq4⟩,hd4⟩;have aX:Hid (w3.grownBy w4 (some E.R)):=zQ hg4;have HD4:=aa hd4;have vN:Hid (bK (fun b=>w3.heap.size≤b∧b<w4.heap.size) w4 n4 y a4):=hq4;have hB4:w4.heap[w1.heap.size]?=some (ic x.kind x.n x.name (.slice a x.kids.length c)):=aA aX.out (by omega) fM.out.box;have vO:w4.heap[NP]?=some (.cells #[.int .i64 K1,.string (xS t.text),.int .i64 K2] 75 (0,0)):=aA aX.out (by omega) j3.out;obtain ⟨⟨b0,b1,b2,b3⟩,g0,g1,g2,g3⟩:=fP hB4;obtain ⟨⟨GD,_,_⟩,_⟩:=CW vO;have hs4:=aX.out.size;have Xm:w1.heap.size<w4.heap.size:=lt_of_block hB4;have aex:NP<w4.heap.size:=lt_of_block vO;have iy:=aa hB4;clear hg4 hd4 hq4 hB4 vO)
       all_goals
        go_wp2_with fail
        go_meet
        exact ⟨_,_,_,fM.out.Xd G h.out hR hw1 aX.out HD4.out vN.out (by omega) Xl⟩
      case rest =>
       obtain ⟨n',a',c',gL⟩:=hcut
       have qQ:=aa gL
       obtain ⟨⟨z0,z1,z2,z3⟩,y0,y1,y2,y3⟩:=fP gL.zero
       obtain ⟨⟨Xn,Xo,Xp,pX⟩,_⟩:=fP gL.box
       clear gL b0 b1 b2 b3 g0 g1 g2 g3 GD
       by_cases h3:lv=3
       ·have e3:(lv==3)=true:=by simp;exact h3
        have si:Hid (r=.ok (q2,⟨K1,0,⟨#[]⟩,[x,y]⟩)):=by have:=ae.out;rw [if_pos h3] at this;exact this
        clear h3
        go_wp2
        refine bodyPost_ret (v:=dH ⟨K1,0,⟨#[]⟩,[x,y]⟩ a' c') (by simp [results,Tryz.results145,go_sem,z0,z1,z2,z3]) rfl ?_
        refine ⟨eu qQ.out.grown (Nat.le_refl _) _ _ _ _,?_⟩
        rw [si.out]
        exact ⟨⟨_,rfl,a',c',n',rfl,qQ.out.kids.keep (fun b hb=>⟨⟨by omega,by simp only [World.bC];omega⟩,kz (by omega) _ _ _ _⟩)⟩,h.out.grown G (eu qQ.out.grown (Nat.le_refl _) _ _ _ _) (qQ.out.eP.rd.four (by omega) _ _ _ _)⟩
       ·have e3:(lv==3)=false:=by simp;exact h3
        have si:Hid (r=Rp.loop E.l E.en next lv f ⟨K1,0,⟨#[]⟩,[x,y]⟩ q2):=by have:=ae.out;rw [if_neg h3] at this;exact this
        clear h3
        go_wp2
        go_roundg f
        case measure=>omega
        case rel=>exact ⟨q2,n',_,a',c',qQ.out,by have:=HKK.out;omega,si.out⟩
    ·have e1:(K2 != lv)=true:=by simp;exact hs
     have ae:Hid (r=.ok (q,x)):=by have:=Gz.out;rw [if_pos hs] at this;exact this
     obtain ⟨⟨z0,z1,z2,z3⟩,y0,y1,y2,y3⟩:=fP hzero
     obtain ⟨⟨Xn,Xo,Xp,pX⟩,_⟩:=fP CY
     clear hs hfr hpb hzero CY hK2
     go_wp2
     refine bodyPost_ret (v:=dH x a c) (by simp [results,Tryz.results145,go_sem,z0,z1,z2,z3]) rfl ?_
     refine ⟨eu xW.out.grown (Nat.le_refl _) _ _ _ _,?_⟩
     rw [ae.out]
     exact ⟨⟨_,rfl,a,c,n,rfl,xW.out.kids.keep (fun b hb=>⟨⟨by omega,by simp only [World.bC];omega⟩,kz (by omega) _ _ _ _⟩)⟩,h.out.grown G (eu xW.out.grown (Nat.le_refl _) _ _ _ _) (xW.out.eP.rd.four (by omega) _ _ _ _)⟩
end Go.Proofs.YtolfleeidpeomaaGreatDoor
