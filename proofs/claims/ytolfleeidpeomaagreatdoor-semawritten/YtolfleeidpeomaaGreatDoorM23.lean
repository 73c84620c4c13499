/- The walk of syn.Read,where the text has tokens and a fault is thrown. -/
import Derived.Test.YtolfleeidpeomaaGreatDoorM22
set_option maxRecDepth 100000
set_option maxHeartbeats 2000000
namespace Go.Proofs.YtolfleeidpeomaaGreatDoor
open Go.RowKit
theorem ZJ (s:ByteArray)(w:World)(hs:s.size≤maxLen)(hE:(Lx.lexB s).2.1=0)(hT:jl w 0)(er:Int)(at':Nat)(hr:Rp.program (Lx.lexB s).1 s.size=.error (er,at')) :
  Calls Tryz.prog 6 #[.string s] w fun e w'=>e=.returned (.tuple #[.slice none 0 0,.agg #[.int .i64 er,.int .i64 at']])∧Below w.heap.size w w':=by
 have CE:∀ (fn:Fn) (first cap:Array Value) (w:World),(Instr.makeFunc fn first cap).run Tryz.prog w=.ok (.func fn first cap) w:=fun _ _ _ _=>rfl
 have hne:er≠0:=Rp.Zp _ _ _ hr
 have HR:Hid ((.error (er,at'):au (List Sy.Df))=Rp.program (Lx.lexB s).1 s.size):=hr.symm
 have e9:(er != 0)=true:=by simpa using hne
 obtain ⟨num,kW⟩:∃ num:Nat,num=(Lx.lexB s).2.2:=⟨_,rfl⟩
 have HT:=aa (Fx s ((w.alloc (gm (.slice none 0 0))).alloc bR) hs)
 rw [hE,← kW] at HT
 have PG:=aa hne
 clear kW hr hE hne
 go_enter Tryz.func6,Tryz.ntmps6
 go_wp2_with fail
 refine HT.out.mono ?_
 rintro e w1 ⟨v,rfl,hown,hb⟩
 have hsz2:((w.alloc (gm (.slice none 0 0))).alloc bR).heap.size=w.heap.size+2:=by simp
 rw [hsz2] at hown hb
 have hz:=hb.size
 simp at hz
 have hF:w1.heap[w.heap.size+1]?=some bR:=(hb.block _ (by omega)).trans (by have:=heap_alloc_new (w.alloc (gm (.slice none 0 0))) bR;simpa using this)
 obtain ⟨z0,z1,y0,y1⟩:=bE hF
 have h0:=hT.lt
 have Aq:Hid (jl ((w1.setCell ⟨w.heap.size+1,0,none⟩ (.int .i64 0)).setCell ⟨w.heap.size+1,1,none⟩ (.int .i64 num)) 0):=by
  have h1:jl w1 0:=hT.keep ((((Below.refl _ w).alloc (Nat.le_refl _) _).alloc (by simp) _).trans (hb.mono (by omega))) h0
  obtain ⟨tt,fr,h1⟩:=h1
  exact ⟨tt,fr,(qf _ _ _ _ (by omega)).trans h1⟩
 obtain ⟨ta,tc,hv0,_⟩:=IC hown (Lx.rz s).1 (Lx.rz s).2
 subst hv0
 have HOWN:=aa hown
 have HB:=aa hb
 clear hown hb hF HT hsz2 hT
 go_wp2_with fail
 refine (OY _ Aq.out).mono ?_
 rintro e w2 ⟨rfl,hM,hb2⟩
 rw [yu] at hM hb2
 obtain ⟨ZK,ZL,hv,hS⟩:=PD HOWN.out HB.out hM hb2
 simp only [Value.slice.injEq,true_and] at hv
 obtain ⟨rfl,rfl⟩:=hv
 have HS:=aa hS
 have hsz:=hS.size
 have hlen:=hS.len
 have hne2:=hS.ne
 clear hS hM hb2 HOWN HB Aq z0 z1 y0 y1
 go_wp2_with fail
 obtain ⟨W,hW⟩:∃ W,W=w2.alloc (.cells #[.slice ta (Lx.lexB s).1.length tc,.int .i64 0,.int .i64 s.size,.map (some w1.heap.size),.int .i64 0] 61):=⟨_,rfl⟩
 rw [← hW] at HS hlen
 obtain ⟨IG,qg⟩:=HS.out.Pz
 have DF:=aa qg
 have G:Good ⟨w2.heap.size,w2.heap.size,w1.heap.size,ta,tc,(Lx.lexB s).1,s.size⟩:=⟨Nat.le_refl _,(Lx.rz s).2,(Lx.rz s).1,hne2⟩
 have HG:=aa G
 rw [← hW]
 clear hW qg G
 have DI:Hid (az ⟨w2.heap.size,w2.heap.size,w1.heap.size,ta,tc,(Lx.lexB s).1,s.size⟩ (W.alloc bR) 0 0):=HS.out.eP.alloc HG.out _
 have Ar:Hid ((W.alloc bR).heap[w.heap.size]?=some (gm (.slice none 0 0))):=(Below.heap_alloc _ _ _ (by omega)).trans HS.out.out
 have DJ:Hid ((W.alloc bR).heap[w.heap.size+1]?=some (.cells #[.int .i64 0,.int .i64 IG] 26 (0,0))):=(Below.heap_alloc _ _ _ (by omega)).trans DF.out
 refine (CB 16 #[.pointer (some ⟨w2.heap.size,0,none⟩),.pointer (some ⟨w.heap.size,0,none⟩)] er at' (fun w'=>(W.alloc bR).grownBy w' (some w2.heap.size)) _ (fun h=>absurd h PG.out) ?_ ?_).mono ?_
 ·intro w'
  first | rfl | kernel_rfl | simp [go_sem]
 ·refine (Ph ⟨w2.heap.size,w2.heap.size,w1.heap.size,ta,tc,(Lx.lexB s).1,s.size⟩ HG.out w.heap.size (.error (er,at')) _ DI Ar (by show w.heap.size<w2.heap.size;omega) HR).mono ?_
  rintro e w' ⟨rfl,hg⟩
  exact ⟨hg,(hg.block W.heap.size (by simp) (by simp;omega)).trans (heap_alloc_new W bR),by unfold qJ;rw [if_neg PG.out]⟩
 rintro e w3 ⟨rfl,wx,hg,yw,hW3⟩
 have far:∀ k,k<W.heap.size→k≠w2.heap.size→w3.heap[k]?=(W.alloc bR).heap[k]?:=fun k hk h2=>by
  rw [hW3,qf _ _ _ _ (by omega)]
  exact hg.block k (by simp;omega) (by simp;omega)
 have yx:=(far w.heap.size (by omega) (by omega)).trans Ar.out
 have ll:=(far (w.heap.size+1) (by omega) (by omega)).trans DJ.out
 have hgs:=hg.size
 simp at hgs
 have hs3:w3.heap.size=wx.heap.size:=by rw [hW3];exact yu _ _ _ _
 have HB:Hid (Below w.heap.size w w3):=by
  refine HS.out.below.trans ⟨?_,?_,?_,by omega,fun k hk=>?_⟩
  ·rw [hW3];exact hg.os
  ·rw [hW3];exact hg.tape
  ·rw [hW3];exact hg.output
  ·rw [far k (by omega) (by omega)];exact Below.heap_alloc _ _ _ (by omega)
 obtain ⟨c0,f0⟩:=nV yx
 obtain ⟨z0,z1,y0,y1⟩:=bE ll
 have gL:(((((w3.setCell ⟨w.heap.size+1,0,none⟩ (.int .i64 er)).setCell ⟨w.heap.size+1,1,none⟩ (.int .i64 at')).setCell ⟨w.heap.size,0,none⟩ (.slice none 0 0)).setCell ⟨w.heap.size+1,0,none⟩ (.int .i64 er)).setCell ⟨w.heap.size+1,1,none⟩ (.int .i64 at')).heap[w.heap.size+1]?=some (.cells #[.int .i64 er,.int .i64 at'] 26 (0,0)):=uD ((Below.heap_setCell _ ⟨w.heap.size,0,none⟩ _ _ (by show w.heap.size+1≠w.heap.size;omega)).trans (uD ll er at')) er at'
 obtain ⟨p0,p1,_,_⟩:=bE gL
 have P0:=aa p0
 have P1:=aa p1
 clear yx ll gL p0 p1 far hg yw hW3 hs3 hgs hlen hsz hne2
 go_wp2
 go_region
 all_goals
  go_wp2
  refine bodyPost_ret (v:=.tuple #[.slice none 0 0,.agg #[.int .i64 er,.int .i64 at']]) (by simp [results,Tryz.results6,go_sem,c0,P0.out,P1.out]) rfl ⟨rfl,?_⟩
  repeat (first | exact HB.out | exact HB.out.drew | refine Below.setCell ?_ (by first | exact Nat.le_refl _ | exact Nat.le_succ _) _ | refine Below.drew ?_)
def ZM (w:World)(dl:List Sy.Df)(er:Int)(e:Ending)(w':World):Prop :=
 (er=0→∃ a c,e=.returned (.tuple #[.slice a dl.length c,.agg #[.int .i64 0,.int .i64 0]])∧dl.length≤6000∧mo (fun b=>w.heap.size≤b∧b<w'.heap.size) w' dl a)∧(er≠0→e=.returned (.tuple #[.slice none 0 0,.agg #[.int .i64 er,.int .i64 0]]))
theorem ZN (s:ByteArray)(w:World)(hs:s.size≤maxLen)(hE:(Lx.lexB s).2.1=0)(hT:jl w 0)(q:Nat)(dl:List Sy.Df)(hr:Rp.program (Lx.lexB s).1 s.size=.ok (q,dl))(er:Int)(her:Hid (er=(Sy.dx dl).1)) :
  Calls Tryz.prog 6 #[.string s] w fun e w'=>ZM w dl er e w'∧Below w.heap.size w w':=by
 have CE:∀ (fn:Fn) (first cap:Array Value) (w:World),(Instr.makeFunc fn first cap).run Tryz.prog w=.ok (.func fn first cap) w:=fun _ _ _ _=>rfl
 have HR:Hid ((.ok (q,dl):au (List Sy.Df))=Rp.program (Lx.lexB s).1 s.size):=hr.symm
 obtain ⟨num,kW⟩:∃ num:Nat,num=(Lx.lexB s).2.2:=⟨_,rfl⟩
 have HT:=aa (Fx s ((w.alloc (gm (.slice none 0 0))).alloc bR) hs)
 rw [hE,← kW] at HT
 clear kW hr hE
 go_enter Tryz.func6,Tryz.ntmps6
 go_wp2_with fail
 refine HT.out.mono ?_
 rintro e w1 ⟨v,rfl,hown,hb⟩
 have hsz2:((w.alloc (gm (.slice none 0 0))).alloc bR).heap.size=w.heap.size+2:=by simp
 rw [hsz2] at hown hb
 have hz:=hb.size
 simp at hz
 have hF:w1.heap[w.heap.size+1]?=some bR:=(hb.block _ (by omega)).trans (by have:=heap_alloc_new (w.alloc (gm (.slice none 0 0))) bR;simpa using this)
 obtain ⟨z0,z1,y0,y1⟩:=bE hF
 have h0:=hT.lt
 have Aq:Hid (jl ((w1.setCell ⟨w.heap.size+1,0,none⟩ (.int .i64 0)).setCell ⟨w.heap.size+1,1,none⟩ (.int .i64 num)) 0):=by
  have h1:jl w1 0:=hT.keep ((((Below.refl _ w).alloc (Nat.le_refl _) _).alloc (by simp) _).trans (hb.mono (by omega))) h0
  obtain ⟨tt,fr,h1⟩:=h1
  exact ⟨tt,fr,(qf _ _ _ _ (by omega)).trans h1⟩
 obtain ⟨ta,tc,hv0,_⟩:=IC hown (Lx.rz s).1 (Lx.rz s).2
 subst hv0
 have HOWN:=aa hown
 have HB:=aa hb
 clear hown hb hF HT hsz2 hT
 go_wp2_with fail
 refine (OY _ Aq.out).mono ?_
 rintro e w2 ⟨rfl,hM,hb2⟩
 rw [yu] at hM hb2
 obtain ⟨ZK,ZL,hv,hS⟩:=PD HOWN.out HB.out hM hb2
 simp only [Value.slice.injEq,true_and] at hv
 obtain ⟨rfl,rfl⟩:=hv
 have HS:=aa hS
 have hsz:=hS.size
 have hlen:=hS.len
 have hne2:=hS.ne
 clear hS hM hb2 HOWN HB Aq z0 z1 y0 y1
 go_wp2_with fail
 obtain ⟨W,hW⟩:∃ W,W=w2.alloc (.cells #[.slice ta (Lx.lexB s).1.length tc,.int .i64 0,.int .i64 s.size,.map (some w1.heap.size),.int .i64 0] 61):=⟨_,rfl⟩
 rw [← hW] at HS hlen
 obtain ⟨IG,qg⟩:=HS.out.Pz
 have DF:=aa qg
 have G:Good ⟨w2.heap.size,w2.heap.size,w1.heap.size,ta,tc,(Lx.lexB s).1,s.size⟩:=⟨Nat.le_refl _,(Lx.rz s).2,(Lx.rz s).1,hne2⟩
 have HG:=aa G
 rw [← hW]
 clear hW qg G
 have DI:Hid (az ⟨w2.heap.size,w2.heap.size,w1.heap.size,ta,tc,(Lx.lexB s).1,s.size⟩ (W.alloc bR) 0 0):=HS.out.eP.alloc HG.out _
 have Ar:Hid ((W.alloc bR).heap[w.heap.size]?=some (gm (.slice none 0 0))):=(Below.heap_alloc _ _ _ (by omega)).trans HS.out.out
 have DJ:Hid ((W.alloc bR).heap[w.heap.size+1]?=some (.cells #[.int .i64 0,.int .i64 IG] 26 (0,0))):=(Below.heap_alloc _ _ _ (by omega)).trans DF.out
 refine (CB 16 #[.pointer (some ⟨w2.heap.size,0,none⟩),.pointer (some ⟨w.heap.size,0,none⟩)] 0 0 (fun w'=>∃ v u,Ai (W.alloc bR) u dl v∧(W.alloc bR).grownBy u (some w2.heap.size)∧w'=u.setCell ⟨w.heap.size,0,none⟩ v∧w'.heap[w.heap.size]?=some (gm v)) _ (fun _=>rfl) ?_ ?_).mono ?_
 ·intro w'
  first | rfl | kernel_rfl | simp [go_sem]
 ·refine (Ph ⟨w2.heap.size,w2.heap.size,w1.heap.size,ta,tc,(Lx.lexB s).1,s.size⟩ HG.out w.heap.size (.ok (q,dl)) _ DI Ar (by show w.heap.size<w2.heap.size;omega) HR).mono ?_
  rintro e w' ⟨rfl,v,u,hP,hg,rfl,hv⟩
  refine ⟨⟨v,u,hP,hg,rfl,hv⟩,?_,by unfold qJ;rw [if_pos rfl]⟩
  rw [Below.heap_setCell _ ⟨w.heap.size,0,none⟩ _ _ (by show W.heap.size≠w.heap.size;omega)]
  exact (hg.block W.heap.size (by simp) (by simp;omega)).trans (heap_alloc_new W bR)
 rintro e w3 ⟨rfl,wx,⟨v,u,hP,hg,hwx,PH⟩,yw,hW3⟩
 obtain ⟨a,c,rfl,rO,hq⟩:=hP
 have hgs:=hg.size
 simp at hgs
 have hsx:wx.heap.size=u.heap.size:=by rw [hwx];simp [World.setCell]
 have hs3:w3.heap.size=u.heap.size:=by rw [hW3,yu,hsx]
 have far:∀ k,k≠W.heap.size→k≠w.heap.size→w3.heap[k]?=u.heap[k]?:=fun k h1 h2=>by
  rw [hW3,qf _ _ _ _ h1,hwx]
  exact Below.heap_setCell _ ⟨w.heap.size,0,none⟩ _ _ h2
 have wB:∀ k,k<W.heap.size→k≠w2.heap.size→k≠w.heap.size→w3.heap[k]?=(W.alloc bR).heap[k]?:=fun k hk h1 h2=>by
  rw [far k (by omega) h2]
  exact hg.block k (by simp;omega) (by simp;omega)
 have yx:w3.heap[w.heap.size]?=some (gm (.slice a dl.length c)):=by rw [hW3,qf _ _ _ _ (by omega)];exact PH
 have ll:=(wB (w.heap.size+1) (by omega) (by omega) (by omega)).trans DJ.out
 have HB:Hid (Below w.heap.size w w3):=by
  refine HS.out.below.trans ⟨?_,?_,?_,by omega,fun k hk=>?_⟩
  ·rw [hW3,hwx];exact hg.os
  ·rw [hW3,hwx];exact hg.tape
  ·rw [hW3,hwx];exact hg.output
  ·rw [wB k (by omega) (by omega) (by omega)];exact Below.heap_alloc _ _ _ (by omega)
 obtain ⟨w4,hw4⟩:∃ w4,w4=(w3.setCell ⟨w.heap.size+1,0,none⟩ (.int .i64 0)).setCell ⟨w.heap.size+1,1,none⟩ (.int .i64 0):=⟨_,rfl⟩
 have hs4:w4.heap.size=w3.heap.size:=by rw [hw4];exact yu _ _ _ _
 have hq4:mo (fun b=>w.heap.size+2≤b∧b<w4.heap.size) w4 dl a:=hq.keep (fun b hb=>⟨⟨by have:=hb.1;simp at this;omega,by have:=hb.2;omega⟩,by
  have h1:=hb.1
  simp at h1
  rw [hw4,qf _ _ _ _ (by omega)]
  exact far b (by omega) (by omega)⟩)
 have vN:=aa hq4
 have wJ:w4.heap[w.heap.size]?=some (gm (.slice a dl.length c)):=by rw [hw4,qf _ _ _ _ (by omega)];exact yx
 have eT:w4.heap[w.heap.size+1]?=some (.cells #[.int .i64 0,.int .i64 0] 26 (0,0)):=by rw [hw4];exact uD ll 0 0
 have iy:Hid (Below w.heap.size w w4):=by rw [hw4];exact (HB.out.setCell (p:=⟨w.heap.size+1,0,none⟩) (Nat.le_succ _) _).setCell (p:=⟨w.heap.size+1,1,none⟩) (Nat.le_succ _) _
 obtain ⟨c0,f0⟩:=nV yx
 obtain ⟨z0,z1,y0,y1⟩:=bE ll
 have yz:=aa hw4
 have qh:=aa wJ
 have lq:=aa eT
 obtain ⟨d0,g0⟩:=nV wJ
 clear yx ll far wB hg yw hW3 hwx PH hw4 wJ eT hq hq4
 go_wp2_with fail
 rw [← yz.out]
 clear c0 f0 z0 z1 y0 y1 d0 g0
 refine (CF dl a c w4 (vN.out.kL (fun b hb=>hb.2) rO)).mono ?_
 rintro e w5 ⟨rfl,hb5⟩
 rw [← her.out]
 obtain ⟨nm,hnm⟩:∃ nm,nm=(Sy.dx dl).2:=⟨_,rfl⟩
 rw [← hnm]
 have hs5:=hb5.size
 have DK:w5.heap[w.heap.size]?=some (gm (.slice a dl.length c)):=(hb5.block _ (lt_of_block qh.out)).trans qh.out
 have gL:w5.heap[w.heap.size+1]?=some (.cells #[.int .i64 0,.int .i64 0] 26 (0,0)):=(hb5.block _ (lt_of_block lq.out)).trans lq.out
 have hlN:=lt_of_block DK
 have hlF:=lt_of_block gL
 have mZ:Hid (Below w.heap.size w w5):=iy.out.trans (hb5.mono iy.out.size)
 have mf:=mZ.out.size
 have wy:Hid (mo (fun b=>w.heap.size+2≤b∧b<w5.heap.size) w5 dl a):=vN.out.keep (fun b hb=>⟨⟨hb.1,by omega⟩,hb5.block b hb.2⟩)
 obtain ⟨c0,f0⟩:=nV DK
 obtain ⟨z0,z1,y0,y1⟩:=bE gL
 have uE:Hid (Below w.heap.size w (w5.alloc (.cells #[.int .i64 er,.int .i64 nm] 26))):=mZ.out.alloc mf _
 have qQ:=aa gL
 have lu:=aa DK
 clear hb5 DK gL hnm yz qh lq vN iy HB Ar DJ DI HS HG DF HR
 by_cases h0:er=0
 ·have e9:(er != 0)=false:=by simpa using h0
  have H0:=aa h0
  clear h0
  obtain ⟨V6,nX⟩:∃ V6,V6=((((w5.setCell ⟨w.heap.size,0,none⟩ (.slice a dl.length c)).setCell ⟨w.heap.size+1,0,none⟩ (.int .i64 0)).setCell ⟨w.heap.size+1,1,none⟩ (.int .i64 0)).alloc (.cells #[.int .i64 er,.int .i64 nm] 26)):=⟨_,rfl⟩
  have DL:(((w5.setCell ⟨w.heap.size,0,none⟩ (.slice a dl.length c)).setCell ⟨w.heap.size+1,0,none⟩ (.int .i64 0)).setCell ⟨w.heap.size+1,1,none⟩ (.int .i64 0)).heap.size=w5.heap.size:=by simp [World.setCell]
  have Au:V6.heap[w.heap.size]?=some (gm (.slice a dl.length c)):=by
   rw [nX,Below.heap_alloc _ _ _ (by omega),qf _ _ _ _ (by omega)]
   simp only [World.setCell,Array.getElem?_modify,if_true,lu.out,Option.map_some]
   rfl
  have Av:V6.heap[w.heap.size+1]?=some (.cells #[.int .i64 0,.int .i64 0] 26 (0,0)):=by
   rw [nX,Below.heap_alloc _ _ _ (by omega)]
   exact uD ((Below.heap_setCell _ ⟨w.heap.size,0,none⟩ _ _ (by show w.heap.size+1≠w.heap.size;omega)).trans qQ.out) 0 0
  have ZO:V6.heap.size=w5.heap.size+1:=by rw [nX];simp [World.setCell]
  have vP:Hid (mo (fun b=>w.heap.size≤b∧b<V6.heap.size) V6 dl a):=wy.out.keep (fun b hb=>⟨⟨by have:=hb.1;omega,by have:=hb.2;omega⟩,by
   have h1:=hb.1
   have h2:=hb.2
   rw [nX,Below.heap_alloc _ _ _ (by omega),qf _ _ _ _ (by omega)]
   exact Below.heap_setCell _ ⟨w.heap.size,0,none⟩ _ _ (by show b≠w.heap.size;omega)⟩)
  have kJ:Hid (Below w.heap.size w V6):=by
   rw [nX]
   exact (((mZ.out.setCell (p:=⟨w.heap.size,0,none⟩) (Nat.le_refl _) _).setCell (p:=⟨w.heap.size+1,0,none⟩) (Nat.le_succ _) _).setCell (p:=⟨w.heap.size+1,1,none⟩) (Nat.le_succ _) _).alloc (by omega) _
  obtain ⟨p0,_⟩:=nV Au
  obtain ⟨p1,p2,_,_⟩:=bE Av
  have P0:=aa p0
  have P1:=aa p1
  have P2:=aa p2
  have Aw:=aa nX
  clear Au Av ZO p0 p1 p2 nX DL
  go_wp2
  rw [← Aw.out]
  refine bodyPost_ret (v:=.tuple #[.slice a dl.length c,.agg #[.int .i64 0,.int .i64 0]]) (by simp [results,Tryz.results6,go_sem,P0.out,P1.out,P2.out]) rfl ?_
  exact ⟨⟨fun _=>⟨a,c,rfl,rO,vP.out⟩,fun h=>absurd (by first | exact H0.out | rfl) h⟩,kJ.out⟩
 ·have e9:(er != 0)=true:=by simpa using h0
  have H0:=aa h0
  obtain ⟨V6,nX⟩:∃ V6,V6=((((w5.setCell ⟨w.heap.size,0,none⟩ (.slice none 0 0)).setCell ⟨w.heap.size+1,0,none⟩ (.int .i64 er)).setCell ⟨w.heap.size+1,1,none⟩ (.int .i64 0)).alloc (.cells #[.int .i64 er,.int .i64 nm] 26)):=⟨_,rfl⟩
  have DL:(((w5.setCell ⟨w.heap.size,0,none⟩ (.slice none 0 0)).setCell ⟨w.heap.size+1,0,none⟩ (.int .i64 er)).setCell ⟨w.heap.size+1,1,none⟩ (.int .i64 0)).heap.size=w5.heap.size:=by simp [World.setCell]
  have Au:V6.heap[w.heap.size]?=some (gm (.slice none 0 0)):=by
   rw [nX,Below.heap_alloc _ _ _ (by omega),qf _ _ _ _ (by omega)]
   simp only [World.setCell,Array.getElem?_modify,if_true,lu.out,Option.map_some]
   rfl
  have Av:V6.heap[w.heap.size+1]?=some (.cells #[.int .i64 er,.int .i64 0] 26 (0,0)):=by
   rw [nX,Below.heap_alloc _ _ _ (by omega)]
   exact uD ((Below.heap_setCell _ ⟨w.heap.size,0,none⟩ _ _ (by show w.heap.size+1≠w.heap.size;omega)).trans qQ.out) er 0
  have kJ:Hid (Below w.heap.size w V6):=by
   rw [nX]
   exact (((mZ.out.setCell (p:=⟨w.heap.size,0,none⟩) (Nat.le_refl _) _).setCell (p:=⟨w.heap.size+1,0,none⟩) (Nat.le_succ _) _).setCell (p:=⟨w.heap.size+1,1,none⟩) (Nat.le_succ _) _).alloc (by omega) _
  obtain ⟨p0,_⟩:=nV Au
  obtain ⟨p1,p2,_,_⟩:=bE Av
  have P0:=aa p0
  have P1:=aa p1
  have P2:=aa p2
  have Aw:=aa nX
  clear h0 Au Av p0 p1 p2 nX DL
  go_wp2
  go_region
  all_goals
   go_wp2
   rw [← Aw.out]
   refine bodyPost_ret (v:=.tuple #[.slice none 0 0,.agg #[.int .i64 er,.int .i64 0]]) (by simp [results,Tryz.results6,go_sem,P0.out,P1.out,P2.out]) rfl ⟨⟨fun h=>absurd h H0.out,fun _=>rfl⟩,?_⟩
   first | exact kJ.out | exact kJ.out.drew
theorem II (Q:Nat→Prop)(w:World):mo Q w [] none:=fun i d hi=>by simp at hi
theorem PI (s:ByteArray)(w:World)(hs:s.size≤maxLen)(hT:jl w 0) :
  Calls Tryz.prog 6 #[.string s] w fun e w'=>∃ a c,e=.returned (.tuple #[.slice a (kD s).1.length c,.agg #[.int .i64 (kD s).2.1,.int .i64 (kD s).2.2]])∧(kD s).1.length≤6000∧mo (fun b=>w.heap.size≤b∧b<w'.heap.size) w' (kD s).1 a∧Below w.heap.size w w':=by
 by_cases h0:(Lx.lexB s).2.1=0
 ·cases hr:Rp.program (Lx.lexB s).1 s.size with
  | error e =>
   obtain ⟨er,at'⟩:=e
   have hR:kD s=([],er,(at':Int)):=by unfold kD;rw [if_neg (by simpa using h0),hr]
   rw [hR]
   refine (ZJ s w hs h0 hT er at' hr).mono ?_
   rintro e w' ⟨rfl,hb⟩
   exact ⟨none,0,rfl,Nat.zero_le _,II _ _,hb⟩
  | ok p =>
   obtain ⟨q,dl⟩:=p
   refine (ZN s w hs h0 hT q dl hr _ rfl).mono ?_
   rintro e w' ⟨⟨h1,h2⟩,hb⟩
   by_cases hw:(Sy.dx dl).1=0
   ·have hR:kD s=(dl,0,0):=by unfold kD;rw [if_neg (by simpa using h0),hr];simp [hw]
    rw [hR]
    obtain ⟨a,c,rfl,hl,hq⟩:=h1 hw
    exact ⟨a,c,rfl,hl,hq,hb⟩
   ·have hR:kD s=([],(Sy.dx dl).1,0):=by unfold kD;rw [if_neg (by simpa using h0),hr];simp [hw]
    rw [hR]
    exact ⟨none,0,h2 hw,Nat.zero_le _,II _ _,hb⟩
 ·have hR:kD s=([],((Lx.lexB s).2.1:Int),((Lx.lexB s).2.2:Int)):=by unfold kD;rw [if_pos h0]
  rw [hR]
  refine (ZB s w hs h0).mono ?_
  rintro e w' ⟨rfl,hb⟩
  exact ⟨none,0,rfl,Nat.zero_le _,II _ _,hb⟩
theorem Ay {w a b:World}(h:Below w.heap.size w a)(k:Below a.heap.size a b):Below w.heap.size w b:=h.trans (k.mono h.size)
theorem ZP (a:World)(o:Obj):Below a.heap.size a (a.alloc o):=(Below.refl _ a).alloc (Nat.le_refl _) o
theorem ZQ (s:ByteArray)(r:List Sy.Df × Int × Int)(w:World)(hs:s.size≤maxLen)(hT:jl w 0)(hr:Hid (r=kD s)) :
  Calls Tryz.prog 6 #[.string s] w fun e w'=>∃ a c,e=.returned (.tuple #[.slice a r.1.length c,.agg #[.int .i64 r.2.1,.int .i64 r.2.2]])∧r.1.length≤6000∧dS w'.heap.size w' r.1 a∧Below w.heap.size w w':=by
 have hr':=hr.out
 subst hr'
 refine (PI s w hs hT).mono ?_
 rintro e w' ⟨a,c,rfl,hl,hq,hb⟩
 exact ⟨a,c,rfl,hl,hq.kL (fun b h=>h.2) hl,hb⟩
end Go.Proofs.YtolfleeidpeomaaGreatDoor
