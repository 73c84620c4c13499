/- The walk of throw.Caught,for any work;the looks at a unit;each. -/
import Derived.Test.YtfcpglhpolpdcaaGreatDoorM25
set_option maxRecDepth 100000
set_option maxHeartbeats 4000000
namespace Go.Proofs.YtfcpglhpolpdcaaGreatDoor
open Go.RowKit
theorem Qc {w:World}{b:Nat}{v0 v1:Value}{t:TypeId}(h:w.heap[b]?=some (.cells #[v0,v1] t (0,0))) :
  w.cell? ⟨b,0,none⟩=some v0∧w.cell? ⟨b,1,none⟩=some v1∧w.frozen? ⟨b,0,none⟩=false∧w.frozen? ⟨b,1,none⟩=false:=by simp[World.cell?,World.frozen?,h]
theorem aaY (v:Value)(w:World):(Instr.typeAssert (.iface 46 v) 20 46 false).run Tryz.prog w=.ok v w:=by kernel_rfl
theorem aaZ (F:Nat)(er num:Int)(older:List PanicEntry)(w:World)(hF:w.heap[F]?=some (.cells #[.int .i64 0,.int .i64 0] 46 (0,0))) :
  CallsD Tryz.prog 41 #[.pointer (some ⟨F,0,none⟩)] (.panicking (cz er num :: older)) w fun e u' w' =>
   e=.returned (.tuple #[])∧u'=.panicking ({ v:=.iface 46 (.agg #[.int .i64 er,.int .i64 num]),recovered:=true } :: older)∧w'=(w.setCell ⟨F,0,none⟩ (.int .i64 er)).setCell ⟨F,1,none⟩ (.int .i64 num):=by
 obtain⟨c0,c1,f0,f1⟩:=Qc hF;refine callsD_of_wpS Tryz.func41 rfl fun c₀ cs hu=>?_;apply wpS_seq;apply wpS_region;simp[wpOpsS,go_sem,recoverD,hu,Tryz.ntmps41,Exit.thenS];apply wpS_seq;apply wpS_region;simp[wpOpsS,go_sem,Exit.thenS];refine wpS_cond (t:=true) (by simp[Act.eval,Array.replicate]) ?_;simp only[if_true];apply wpS_region;simp[wpOpsS,go_sem,aaY,c0,c1,f0,f1,bodyPostS,results,Tryz.results41]
theorem IM (F:Nat)(w:World) :
  CallsD Tryz.prog 41 #[.pointer (some ⟨F,0,none⟩)] .returning w fun e u' w'=>e=.returned (.tuple #[])∧u'=.returning∧w'=w:=by
 refine callsD_of_wpS Tryz.func41 rfl fun c₀ cs hu=>?_;apply wpS_seq;apply wpS_region;simp[wpOpsS,go_sem,recoverD,hu,Tryz.ntmps41,Exit.thenS];apply wpS_seq;apply wpS_region;simp[wpOpsS,go_sem,Exit.thenS];refine wpS_cond (t:=false) (by simp[Act.eval,Array.replicate]) ?_;simp only[Bool.false_eq_true,if_false];refine wpS_of_wp (wp_skip ?_);cases c₀;simp_all [bodyPostS,results,Tryz.results41]
abbrev pI:Obj:=.cells #[.int .i64 0,.int .i64 0] 46 (0,0)
theorem Qd (g:FuncId)(cap:Array Value)(er num:Int)(X:World→Prop)(w:World)(hz:er=0→num=0)(hcf:∀ w:World,(callFunc g cap).run Tryz.prog w=.ok (.enter g cap) w)
  (hw:Calls Tryz.prog g cap (w.alloc pI) fun e w'=>X w'∧w'.heap[w.heap.size]?=some pI∧fU er num e) :
  Calls Tryz.prog 19 #[.func (.func g) #[] cap] w fun e w'=>e=.returned (.agg #[.int .i64 er,.int .i64 num])∧∃ wx,X wx∧wx.heap[w.heap.size]?=some pI∧w'=(wx.setCell ⟨w.heap.size,0,none⟩ (.int .i64 er)).setCell ⟨w.heap.size,1,none⟩ (.int .i64 num):=by
 have rQ:∀ (fn:Fn) (first cap:Array Value) (w:World),(Instr.makeFunc fn first cap).run Tryz.prog w=.ok (.func fn first cap) w:=fun _ _ _ _=>rfl;go_enter_defers Tryz.func19,Tryz.ntmps19
 go_wp2_with fail
 refine hw.mono ?_;rintro e w1 ⟨hX,hF,ht⟩;obtain⟨c0,c1,f0,f1⟩:=Qc hF;have HX:Hid (X w1):=hX;have HF:Hid (w1.heap[w.heap.size]?=some pI):=hF;clear hX hF;by_cases h0:er=0
 ·have hn:=hz h0
  subst h0;subst hn;obtain rfl:e=.returned (.tuple #[]):=ht;clear hw hz;go_wp2
  refine leaves_cons (f:=41) (args:=#[.pointer (some ⟨w.heap.size,0,none⟩)]) (by simp) (by simp[go_sem]) ?_;refine (IM w.heap.size _).mono ?_;rintro e u' w'' ⟨rfl,rfl,rfl⟩;show Leaves _ _ _ _ [] .returning _
  exact⟨.agg #[.int .i64 0,.int .i64 0],by simp[results,Tryz.results19,go_sem,c0,c1],rfl,w1,HX.out,HF.out,rfl⟩
 ·obtain rfl:e=.panicked [cz er num]:=by unfold fU at ht;rw[if_neg h0] at ht;exact ht
  clear ht hw hz h0;go_wp2
  refine leaves_cons (f:=41) (args:=#[.pointer (some ⟨w.heap.size,0,none⟩)]) (by simp) (by simp[go_sem]) ?_;refine (aaZ w.heap.size er num [] _ HF.out).mono ?_;rintro e u' w'' ⟨rfl,rfl,rfl⟩;show Leaves _ _ _ _ [] .returning _
  exact⟨.agg #[.int .i64 er,.int .i64 num],by simp[results,Tryz.results19,go_sem,c0,c1],rfl,w1,HX.out,HF.out,rfl⟩
theorem aW.mono {B C:Nat}{w:World}{m:Vf.Md}{ab au:Option Addr}(h:aW B w m ab au)(hB:B≤C):aW C w m ab au:=by
 refine⟨h.few,fun i x hx=>?_,fun i x hx=>?_⟩
 ·obtain⟨h1,h2,b,off,e,hb,r⟩:=h.boxes i x hx
  exact⟨h1,h2,b,off,e,by omega,r⟩
 ·obtain⟨b,off,al,cl,ac,cc,e,hb,hu,r⟩:=h.units i x hx
  refine⟨b,off,al,cl,ac,cc,e,by omega,⟨hu.nums,hu.few,hu.af,fun j y hy=>?_,fun j y hy=>?_⟩,r⟩
  ·obtain⟨h1,b,off,e,hb,r⟩:=hu.locals j y hy
   exact⟨h1,b,off,e,by omega,r⟩
  ·obtain⟨h1,h2,h3,b,off,e,hb,r⟩:=hu.code j y hy
   exact⟨h1,h2,h3,b,off,e,by omega,r⟩
theorem gI.mono {B C:Nat}{w:World}{u:Vf.Un}{al ac:Option Addr}{cl cc:Nat}(hu:gI B w u al ac cl cc)(hB:B≤C):gI C w u al ac cl cc:=by
 refine⟨hu.nums,hu.few,hu.af,fun j y hy=>?_,fun j y hy=>?_⟩
 ·obtain⟨h1,b,off,e,hb,r⟩:=hu.locals j y hy
  exact⟨h1,b,off,e,by omega,r⟩
 ·obtain⟨h1,h2,h3,b,off,e,hb,r⟩:=hu.code j y hy
  exact⟨h1,h2,h3,b,off,e,by omega,r⟩
theorem aa0 (c:FC)(B:Nat)(w:World)(hmd:Hid (aW B w c.m c.ab c.au))(hun:Hid (gI B w c.u c.al c.ac c.cl c.cc))(hB:B≤w.heap.size)(hmu:c.m.units.length≤30)(er num:Int)(hr:Hid ((er,num)=((Vf.iD c.m c.u).1,((Vf.iD c.m c.u).2:Int)))) :
  Calls Tryz.prog 93 #[jq c] w fun e w'=>w.grownBy w' none∧fU er num e:=by
 obtain⟨y0,y1,y2,y3,y4,y5,y6,y7⟩:=uF (heap_alloc_new w (dR c));have HT:Hid (w.grownBy (w.alloc (dR c)) none):=aR (World.grownBy.refl _ _) _;have kP:Hid (aW B (w.alloc (dR c)) c.m c.ab c.au):=hmd.out.low (gD HT.out hB);have Az:Hid (gI B (w.alloc (dR c)) c.u c.al c.ac c.cl c.cc):=hun.out.low (gD HT.out hB);obtain⟨eh,heh⟩:∃ eh,eh=Vf.gm c.m c.u:=⟨_,rfl⟩;have HH:=hide heh;have HR:Hid ((er,num)=if eh=0 then ((Vf.cK (Vf.bE c.m c.u) c.u.code 0).1,((Vf.cK (Vf.bE c.m c.u) c.u.code 0).2:Int)) else (eh,0)):=by
  unfold Hid;rw[hr.out,Vf.iD,← heh];split<;>rfl
 clear hr heh;go_enter Tryz.func93,Tryz.ntmps93
 go_wp2_with fail
 refine (aaV c B _ kP Az (by simp;omega) hmu eh HH).mono ?_;rintro e w1 ⟨hg1,he⟩;have aA:Hid (w.grownBy w1 none):=bZ HT.out hg1;have hub:w1.heap[w.heap.size]?=some (dR c):=(bY hg1 (by simp)).trans (heap_alloc_new w _);by_cases h0:eh=0
 ·obtain rfl:e=.returned (.tuple #[]):=by rw[if_pos h0] at he;exact he
  have HR2:Hid ((er,num)=((Vf.cK (Vf.bE c.m c.u) c.u.code 0).1,((Vf.cK (Vf.bE c.m c.u) c.u.code 0).2:Int))):=by have:=HR.out;rw[if_pos h0] at this;exact this
  obtain⟨x0,x1,x2,x3,x4,x5,x6,x7⟩:=uF hub;have iW:Hid (aW B w1 c.m c.ab c.au):=hmd.out.low (gD aA.out hB);have IK:Hid (gI B w1 c.u c.al c.ac c.cl c.cc):=hun.out.low (gD aA.out hB);have hz:=aA.out.size;clear he hg1 hub h0 y0 y1 y2 y3 y4 y5 y6 y7;go_wp2_with fail
  refine (aaX c B _ iW IK (by omega) er num HR2).mono ?_;rintro e w2 ⟨hg2,he2⟩;have HG2:Hid (w.grownBy w2 none):=bZ aA.out hg2;clear hg2;by_cases h1:er=0
  ·obtain rfl:e=.returned (.tuple #[]):=by rw[if_pos h1] at he2;exact he2
   have HE:Hid (fU er num (.returned (.tuple #[]))):=he2;clear he2 h1;go_wp2
   go_end0
   exact⟨HG2.out,HE.out⟩
  ·obtain rfl:e=.panicked [cz er num]:=by rw[if_neg h1] at he2;exact he2
   have HE:Hid (fU er num (.panicked [cz er num])):=he2;clear he2 h1;go_wp2
   exact⟨rfl,HG2.out,HE.out⟩
 ·obtain rfl:e=.panicked [cz eh 0]:=by rw[if_neg h0] at he;exact he
  have HR2:Hid (er=eh∧num=0):=by have:=HR.out;rw[if_neg h0] at this;cases this;exact⟨rfl,rfl⟩
  have HE:Hid (fU eh 0 (.panicked [cz eh 0])):=he;clear he hg1 hub h0;go_wp2
  rw[HR2.out.1,HR2.out.2];exact⟨rfl,aA.out,HE.out⟩
theorem aa1 (c:FC)(B:Nat)(w:World)(hmd:Hid (aW B w c.m c.ab c.au))(hun:Hid (gI B w c.u c.al c.ac c.cl c.cc))(hB:B≤w.heap.size)(hR:Hid (Rt c.m))(hu:Hid (Vf.gm c.m c.u=0))(hfo:Hid (Vf.Forms c.m c.u))(er num:Int)(hr:Hid ((er,num)=((Vf.gY c.m c.u).1,((Vf.gY c.m c.u).2:Int)))) :
  Calls Tryz.prog 96 #[jq c] w fun e w'=>w.grownBy w' none∧fU er num e:=by
 have hmm:∀ w:World,(Instr.makeMap 192 Option.none).run Tryz.prog w=.ok (.map (some w.heap.size)) (w.alloc (.map #[] 0)):=fun _=>rfl;obtain⟨W,hW⟩:∃ W:World,((w.alloc (dR c)).alloc (.map #[] 0)).alloc (gZ { c with M:=w.heap.size+1 } none [] Vf.Fl.none 0 (.slice none 0 0))=W:=⟨_,rfl⟩;have hT:w.grownBy W none:=by rw[← hW];exact aR (fI _ _ _) _
 have IP:W.heap[w.heap.size+1+1]?=some (gZ { c with M:=w.heap.size+1 } none [] Vf.Fl.none 0 (.slice none 0 0)):=by
  have e:((w.alloc (dR c)).alloc (.map #[] 0)).heap.size=w.heap.size+1+1:=by simp
  rw[← hW,← e];exact heap_alloc_new _ _
 have H0:Hid (ay { c with M:=w.heap.size+1 } W (w.heap.size+1+1) none [] Vf.Fl.none 0 (.slice none 0 0)):=⟨IP,rfl⟩;have HE:Hid (Env { c with M:=w.heap.size+1 } w.heap.size (w.heap.size+1+1) W):=⟨(hmd.out.mono hB).low (gD hT (Nat.le_refl _)),(hun.out.mono hB).low (gD hT (Nat.le_refl _)),by omega,lt_of_block IP⟩;have HC:Hid (fB W (w.heap.size+1) (fun _=>none)):=by
  have h1:=(fB.new (w.alloc (dR c))).alloc (gZ { c with M:=w.heap.size+1 } none [] Vf.Fl.none 0 (.slice none 0 0));have e:(w.alloc (dR c)).heap.size=w.heap.size+1:=by simp
  rw[e,hW] at h1;exact h1
 have HT:=hide hT;have HW:=hide hW;clear hW hT IP;go_enter Tryz.func96,Tryz.ntmps96
 go_wp2_with fail
 rw[show ((w.alloc (dR c)).alloc (.map #[] 0)).alloc (.cells #[.slice c.ab c.m.boxes.length c.cb,.slice c.au c.m.units.length c.cu,.int .i64 c.u.kind,.int .i64 c.u.params,.slice c.al c.u.locals.length c.cl,.int .i64 c.u.result,.int .i64 c.u.takes,.slice c.ac c.u.code.length c.cc,.pointer none,.int .i64 0,.int .u64 0,.int .u64 0,.int .u64 0,.int .u64 0,.int .i64 0,.slice none 0 0,.map (some (w.heap.size+1))] 202)=W from HW.out];refine (aax { c with M:=w.heap.size+1 } w.heap.size (w.heap.size+1+1) _ H0 HE HC (by simp) hR hu hfo er num hr).mono ?_;rintro e w1 ⟨hb1,he⟩;have aA:Hid (w.grownBy w1 none):=⟨hb1.os.trans HT.out.os,hb1.tape.trans HT.out.tape,hb1.output.trans HT.out.output,Nat.le_trans HT.out.size (by have:=hb1.size;exact this),fun k hk _=>(hb1.block k hk).trans (HT.out.block k hk (by simp))⟩;clear hb1;by_cases h1:er=0
 ·obtain rfl:e=.returned (.tuple #[]):=by unfold fU at he;rw[if_pos h1] at he;exact he
  have HX:Hid (fU er num (.returned (.tuple #[]))):=he;clear he h1;go_wp2
  go_end0
  exact⟨aA.out,HX.out⟩
 ·obtain rfl:e=.panicked [cz er num]:=by unfold fU at he;rw[if_neg h1] at he;exact he
  have HX:Hid (fU er num (.panicked [cz er num])):=he;clear he h1;go_wp2
  exact⟨rfl,aA.out,HX.out⟩
namespace Vf
def jS (f:Un→Int × Nat):List Un→Nat→Int × Int × Int
 | [],_=>(0,0,0)
 | u :: l,k=>if (f u).1=0 then jS f l (k+1) else ((f u).1,(k:Int),((f u).2:Int))
theorem Qe {α:Type}(f:α→Int):∀ (l:List α) (k:Nat),(cK f l k).1=0→(cK f l k).2=0
 | [],_,_=>rfl
 | x :: l,k,h=>by
  unfold cK at h ⊢;split at h
  ·rename_i hx
   rw[if_pos hx];exact Qe f l (k+1) h
  ·rename_i hx
   exact absurd h hx
theorem aa2 {m:Md}{u:Un}(h:(iD m u).1=0):(iD m u).2=0:=by
 unfold iD at h ⊢;split
 ·rename_i hh
  rw[if_pos hh] at h;exact Qe _ _ _ h
 ·rfl
theorem Qf {m:Md}{u:Un}:∀ (f:Nat) (s:S),(gH m u f s).1=0→(gH m u f s).2=0
 | 0,_,_=>rfl
 | f+1,s,h=>by
  unfold gH at h ⊢;split
  ·rfl
  ·rename_i n row hrow
   rw[hrow] at h;simp only at h;split
   ·rename_i e he
    rw[he] at h;exact absurd h (Gj _ _ _ _ e he)
   ·rename_i s' hs
    rw[hs] at h;exact Qf f s' h
end Vf
theorem Qg (f:Vf.Un→Int × Nat){l:List Vf.Un}{k:Nat}{x:Vf.Un}(h:l[k]?=some x):Vf.jS f (l.drop k) k=if (f x).1=0 then Vf.jS f (l.drop (k+1)) (k+1) else ((f x).1,(k:Int),((f x).2:Int)):=by
 obtain⟨hk,rfl⟩:=List.getElem?_eq_some_iff.1 h;rw[List.drop_eq_getElem_cons hk];rfl
abbrev uO (g:FuncId):Obj:=.cells #[.func (.func g) #[] #[]] 191 (0,0)
abbrev dw (er un num:Int):Value:=.agg #[.int .i64 er,.int .i64 un,.int .i64 num]
abbrev dh:Obj:=.cells #[.int .i64 0,.int .i64 0,.int .i64 0] 95 (0,0)
theorem nG {w:World}{N:Nat}{m:Vf.Md}{ab au:Option Addr}{cb cu:Nat}(h:w.heap[N]?=some (ig m ab au cb cu)) :
  w.cell? ⟨N,0,none⟩=some (.slice ab m.boxes.length cb)∧w.cell? ⟨N,1,none⟩=some (.slice au m.units.length cu):=by
 simp[World.cell?,h]
theorem eG {w:World}{N:Nat}{a b c:Value}(h:w.heap[N]?=some (.cells #[a,b,c] 95 (0,0))) :
  (w.cell? ⟨N,0,none⟩=some a∧w.cell? ⟨N,1,none⟩=some b∧w.cell? ⟨N,2,none⟩=some c)∧w.frozen? ⟨N,0,none⟩=false∧w.frozen? ⟨N,1,none⟩=false∧w.frozen? ⟨N,2,none⟩=false:=by
 simp[World.cell?,World.frozen?,h]
structure E1 (g:FuncId) (c:FC) (LB MB UB:Nat) (w:World):Prop where
 lk:w.heap[LB]?=some (uO g)
 md:w.heap[MB]?=some (ig c.m c.ab c.au c.cb c.cu)
 un:w.heap[UB]?=some (aX c.u c.al c.ac c.cl c.cc)
theorem aa3 (c:FC)(B LB MB UB:Nat)(w:World)(h:Hid (E1 93 c LB MB UB w))(hmd:Hid (aW B w c.m c.ab c.au))(hun:Hid (gI B w c.u c.al c.ac c.cl c.cc))(hB:B≤w.heap.size)(hmu:c.m.units.length≤30)(er num:Int)(hr:Hid ((er,num)=((Vf.iD c.m c.u).1,((Vf.iD c.m c.u).2:Int)))) :
  Calls Tryz.prog 132 #[.pointer (some ⟨LB,0,none⟩),.pointer (some ⟨MB,0,none⟩),.pointer (some ⟨UB,0,none⟩)] w fun e w'=>w.grownBy w' none∧fU er num e:=by
 have l0:w.cell? ⟨LB,0,none⟩=some (.func (.func 93) #[] #[]):=by simp[World.cell?,h.out.lk]
 obtain⟨m0,m1⟩:=nG h.out.md;obtain⟨u0,u1,u2,u3,u4,u5⟩:=Gg h.out.un;go_enter Tryz.func132,Tryz.ntmps132
 go_wp2_with fail
 refine (aa0 c B _ hmd hun hB hmu er num hr).mono ?_;rintro e w1 ⟨hg1,he⟩;have aA:=hide hg1;clear hg1 l0 m0 m1 u0 u1 u2 u3 u4 u5;by_cases h1:er=0
 ·obtain rfl:e=.returned (.tuple #[]):=by unfold fU at he;rw[if_pos h1] at he;exact he
  have HX:Hid (fU er num (.returned (.tuple #[]))):=he;clear he h1;go_wp2
  go_end0
  exact⟨aA.out,HX.out⟩
 ·obtain rfl:e=.panicked [cz er num]:=by unfold fU at he;rw[if_neg h1] at he;exact he
  have HX:Hid (fU er num (.panicked [cz er num])):=he;clear he h1;go_wp2
  exact⟨rfl,aA.out,HX.out⟩
theorem aa4 (c:FC)(B LB MB UB:Nat)(w:World)(h:Hid (E1 96 c LB MB UB w))(hmd:Hid (aW B w c.m c.ab c.au))(hun:Hid (gI B w c.u c.al c.ac c.cl c.cc))(hB:B≤w.heap.size)(hR:Hid (Rt c.m))(hu:Hid (Vf.gm c.m c.u=0))(hfo:Hid (Vf.Forms c.m c.u))(er num:Int)(hr:Hid ((er,num)=((Vf.gY c.m c.u).1,((Vf.gY c.m c.u).2:Int)))) :
  Calls Tryz.prog 132 #[.pointer (some ⟨LB,0,none⟩),.pointer (some ⟨MB,0,none⟩),.pointer (some ⟨UB,0,none⟩)] w fun e w'=>w.grownBy w' none∧fU er num e:=by
 have l0:w.cell? ⟨LB,0,none⟩=some (.func (.func 96) #[] #[]):=by simp[World.cell?,h.out.lk]
 obtain⟨m0,m1⟩:=nG h.out.md;obtain⟨u0,u1,u2,u3,u4,u5⟩:=Gg h.out.un;go_enter Tryz.func132,Tryz.ntmps132
 go_wp2_with fail
 refine (aa1 c B _ hmd hun hB hR hu hfo er num hr).mono ?_;rintro e w1 ⟨hg1,he⟩;have aA:=hide hg1;clear hg1 l0 m0 m1 u0 u1 u2 u3 u4 u5;by_cases h1:er=0
 ·obtain rfl:e=.returned (.tuple #[]):=by unfold fU at he;rw[if_pos h1] at he;exact he
  have HX:Hid (fU er num (.returned (.tuple #[]))):=he;clear he h1;go_wp2
  go_end0
  exact⟨aA.out,HX.out⟩
 ·obtain rfl:e=.panicked [cz er num]:=by unfold fU at he;rw[if_neg h1] at he;exact he
  have HX:Hid (fU er num (.panicked [cz er num])):=he;clear he h1;go_wp2
  exact⟨rfl,aA.out,HX.out⟩
structure Qh (f:Vf.Un→Int × Nat) (l:List Vf.Un) (w0:World) (er un num:Int) (k:Nat) (W:World):Prop where
 le:k≤l.length
 grown:w0.grownBy W none
 rest:(er,un,num)=Vf.jS f (l.drop k) k
theorem xU (w:World)(a b:Obj):((w.alloc a).alloc b).heap[w.heap.size+1]?=some b:=by
 have e:(w.alloc a).heap.size=w.heap.size+1:=by simp
 rw[← e];exact heap_alloc_new _ _
theorem aa5 (w:World)(a b c:Obj):(((w.alloc a).alloc b).alloc c).heap[w.heap.size+1+1]?=some c:=by
 have e:((w.alloc a).alloc b).heap.size=w.heap.size+1+1:=by simp
 rw[← e];exact heap_alloc_new _ _
theorem AA (w:World)(a b c:Obj):w.grownBy (((w.alloc a).alloc b).alloc c) none∧(((w.alloc a).alloc b).alloc c).heap[w.heap.size]?=some a∧(((w.alloc a).alloc b).alloc c).heap[w.heap.size+1]?=some b∧(((w.alloc a).alloc b).alloc c).heap[w.heap.size+1+1]?=some c :=
 ⟨aR (fI _ _ _) _,(Below.heap_alloc _ _ _ (by simp;omega)).trans ((Below.heap_alloc _ _ _ (by simp)).trans (heap_alloc_new _ _)),(Below.heap_alloc _ _ _ (by simp)).trans (xU _ _ _),aa5 _ _ _ _⟩
theorem nH {w:World}{N:Nat}{a b c:Value}(h:w.heap[N]?=some (.cells #[a,b,c] 95 (0,0)))(x y z:Value):(((w.setCell ⟨N,0,none⟩ x).setCell ⟨N,1,none⟩ y).setCell ⟨N,2,none⟩ z).heap[N]?=some (.cells #[x,y,z] 95 (0,0)):=by
 simp only[World.setCell,Array.getElem?_modify,if_true,h,Option.map_some];rfl
theorem aP {w w':World}{N:Nat}(h:w.grownBy w' none)(hN:w.heap.size≤N)(o:Nat)(v:Value):w.grownBy (w'.setCell ⟨N,o,none⟩ v) none :=
 ⟨h.os,h.tape,h.output,by have:=h.size;simp[World.setCell];omega,fun k hk hne=>by
  rw[Below.heap_setCell _ ⟨N,o,none⟩ _ _ (by show k≠N;omega)];exact h.block k hk hne⟩
theorem aa6 (m:Vf.Md)(ab au:Option Addr)(cb cu B:Nat)(w:World)(hmd:Hid (aW B w m ab au))(hB:B≤w.heap.size)(hmu:m.units.length≤30)  (er un num:Int)(hr:Hid ((er,un,num)=Vf.jS (Vf.iD m) m.units 0)) :
  Calls Tryz.prog 92 #[eU m ab au cb cu,.func (.func 93) #[] #[]] w fun e w'=>e=.returned (dw er un num)∧w.grownBy w' none:=by
 have rQ:∀ (fn:Fn) (first cap:Array Value) (w:World),(Instr.makeFunc fn first cap).run Tryz.prog w=.ok (.func fn first cap) w:=fun _ _ _ _=>rfl;obtain⟨W0,hW0⟩:∃ W0:World,((w.alloc (ig m ab au cb cu)).alloc (uO 93)).alloc dh=W0:=⟨_,rfl⟩;obtain⟨t0,t1,t2,t3⟩:=AA w (ig m ab au cb cu) (uO 93) dh;rw[hW0] at t0 t1 t2 t3;have HT0:=hide t0;have HT1:=hide t1;have HT2:=hide t2;have HT3:=hide t3;have HW0:=hide hW0;clear t0 t1 t2 t3 hW0;go_enter Tryz.func92,Tryz.ntmps92
 go_wp2
 go_loopw [12] (fun v wr=>∃ k:Nat,v=.int .i64 k∧Qh (Vf.iD m) m.units W0 er un num k wr) (fun v _=>m.units.length - (intOf v).toNat)
 case atStart=>exact⟨0,rfl,Nat.zero_le _,by rw[← HW0.out];exact World.grownBy.refl _ _,hr.out⟩
 case round =>
  obtain⟨k,rfl,hA⟩:=hrel;have HA:=hide hA;have hk:=hA.le;have HG:Hid (w.grownBy wr none):=bZ HT0.out HA.out.grown;have hz:=HG.out.size;have kY:wr.heap[w.heap.size+1+1]?=some dh:=(bY HA.out.grown (lt_of_block HT3.out)).trans HT3.out;have AB:=hide kY;have hlk:wr.heap[w.heap.size+1]?=some (uO 93):=(bY HA.out.grown (lt_of_block HT2.out)).trans HT2.out;have hmb:wr.heap[w.heap.size]?=some (ig m ab au cb cu):=(bY HA.out.grown (lt_of_block HT1.out)).trans HT1.out;have r9:=hide hlk;have AJ:=hide hmb;have hsz2:w.heap.size+1+1<wr.heap.size:=lt_of_block kY;obtain⟨⟨z0,z1,z2⟩,y0,y1,y2⟩:=eG kY;clear hA kY hlk hmb;by_cases hlt:k<m.units.length
  ·obtain⟨u,hu⟩:∃ u,m.units[k]?=some u:=⟨_,List.getElem?_eq_getElem hlt⟩
   have uP:aW B wr m ab au:=hmd.out.low (gD HG.out hB);obtain⟨b,off,al,cl,ac,cc,ha,hb,gq,u0,u1,u2,u3,u4,u5⟩:=uP.units k u hu;have HU:=hide hu;have xV:=hide uP;have AL:=hide gq;have hk1:(k:Int)<(m.units.length:Int):=by omega
   obtain⟨e1,n1,hen⟩:∃ (e1:Int) (n1:Nat),e1=(Vf.iD m u).1∧n1=(Vf.iD m u).2:=⟨_,_,rfl,rfl⟩;have uQ:=hide hen;have HZ:Hid (e1=0→(n1:Int)=0):=fun h0=>by
    have:=Vf.aa2 (show (Vf.iD m u).1=0 by rw[← hen.1];exact h0);have h2:(Vf.iD m u).2=0:=this;rw[hen.2,h2];rfl
   have HN:Hid ((er,un,num)=if e1=0 then Vf.jS (Vf.iD m) (m.units.drop (k+1)) (k+1) else (e1,(k:Int),(n1:Int))):=by
    unfold Hid;rw[HA.out.rest,Qg _ hu,hen.1,hen.2]
   have mr:=hide ha;clear hu uP gq hen ha;rw[mr.out];go_wp2_with fail
   obtain⟨W1,hW1⟩:∃ W1:World,W1=wr.alloc (aX u al ac cl cc):=⟨_,rfl⟩;have aA:Hid (wr.grownBy W1 none):=by rw[hW1];exact aR (World.grownBy.refl _ _) _
   have bC:Hid (E1 93 ⟨m,u,ab,au,al,ac,cb,cu,cl,cc,0⟩ (w.heap.size+1) w.heap.size wr.heap.size (W1.alloc pI)) :=
    ⟨(Below.heap_alloc _ _ _ (by have:=aA.out.size;omega)).trans ((bY aA.out (by omega)).trans r9.out),(Below.heap_alloc _ _ _ (by have:=aA.out.size;omega)).trans ((bY aA.out (by omega)).trans AJ.out),by
     have h1:W1.heap[wr.heap.size]?=some (aX u al ac cl cc):=by rw[hW1];exact heap_alloc_new _ _
     exact (Below.heap_alloc _ _ _ (lt_of_block h1)).trans h1⟩
   have HG2:Hid (wr.grownBy (W1.alloc pI) none):=aR aA.out _;have HW1:=hide hW1.symm;rw[HW1.out];clear hW1;refine (Qd 132 #[.pointer (some ⟨w.heap.size+1,0,none⟩),.pointer (some ⟨w.heap.size,0,none⟩),.pointer (some ⟨wr.heap.size,0,none⟩)] e1 (n1:Int) (fun wx=>(W1.alloc pI).grownBy wx none) _ HZ.out ?_ ?_).mono ?_
   ·intro w'
    first | rfl | kernel_rfl | simp[go_sem]
   ·refine (aa3 ⟨m,u,ab,au,al,ac,cb,cu,cl,cc,0⟩ B (w.heap.size+1) w.heap.size wr.heap.size _ bC (hide (xV.out.low (gD HG2.out (by omega)))) (hide (AL.out.low (gD HG2.out (by omega)))) (by have:=HG2.out.size;omega) hmu e1 (n1:Int) (hide (by rw[uQ.out.1,uQ.out.2]))).mono ?_
    rintro e wx ⟨hgx,hex⟩;exact⟨hgx,(bY hgx (by simp)).trans (heap_alloc_new _ _),hex⟩
   rintro e w2 ⟨rfl,wx,hgx,hzx,rfl⟩;have fe:Hid (wr.grownBy ((wx.setCell ⟨W1.heap.size,0,none⟩ (.int .i64 e1)).setCell ⟨W1.heap.size,1,none⟩ (.int .i64 (n1:Int))) none):=aP (aP (bZ HG2.out hgx) (by have:=aA.out.size;omega) _ _) (by have:=aA.out.size;omega) _ _;obtain⟨W3,hW3⟩:∃ W3:World,(wx.setCell ⟨W1.heap.size,0,none⟩ (.int .i64 e1)).setCell ⟨W1.heap.size,1,none⟩ (.int .i64 (n1:Int))=W3:=⟨_,rfl⟩;rw[hW3] at fe;have HW3:=hide hW3;rw[HW3.out];have uR:W3.heap[w.heap.size+1+1]?=some dh:=(bY fe.out (by omega)).trans AB.out;have IQ:=hide uR;obtain⟨⟨p0,p1,p2⟩,q0,q1,q2⟩:=eG uR;have hz3:=fe.out.size;have aa7:w.heap.size+1+1<W3.heap.size:=by omega
   clear hgx hzx uR hW3 z0 z1 z2 y0 y1 y2 u0 u1 u2 u3 u4 u5;by_cases h0:e1=0
   ·have e0:(e1 != 0)=false:=by simpa using h0
    have bK:Hid ((er,un,num)=Vf.jS (Vf.iD m) (m.units.drop (k+1)) (k+1)):=by have:=HN.out;rw[if_pos h0] at this;exact this
    clear h0;go_wp2
    go_roundw
    case rel=>exact⟨k+1,by go_num,hlt,aR (bZ HA.out.grown fe.out) _,bK.out⟩
    case measure=>simp[intOf];omega
   ·have e0:(e1 != 0)=true:=by simpa using h0
    have bK:Hid (er=e1∧un=(k:Int)∧num=(n1:Int)):=by have:=HN.out;rw[if_neg h0] at this;cases this;exact⟨rfl,rfl,rfl⟩
    clear h0;go_wp2
    have hX:=nH IQ.out (.int .i64 e1) (.int .i64 (k:Int)) (.int .i64 (n1:Int));obtain⟨⟨g0,g1,g2⟩,_⟩:=eG ((Below.heap_alloc _ (.cells #[.int .i64 e1,.int .i64 (n1:Int)] 46) _ (lt_of_block hX)).trans hX);refine bodyPost_ret (v:=dw e1 (k:Int) (n1:Int)) (by simp[results,Tryz.results92,go_sem,g0,g1,g2]) rfl ?_;rw[bK.out.1,bK.out.2.1,bK.out.2.2];exact⟨rfl,aR (aP (aP (aP (bZ HG.out fe.out) (by omega) _ _) (by omega) _ _) (by omega) _ _) _⟩
  ·have bK:Hid (er=0∧un=0∧num=0):=by
    have:=HA.out.rest;rw[List.drop_eq_nil_of_le (by omega)] at this;cases this;exact⟨rfl,rfl,rfl⟩
   go_wp2
   refine bodyPost_ret (v:=dw 0 0 0) (by simp[results,Tryz.results92,go_sem,z0,z1,z2]) rfl ?_;rw[bK.out.1,bK.out.2.1,bK.out.2.2];exact⟨rfl,aP (aP (aP HG.out (by omega) _ _) (by omega) _ _) (by omega) _ _⟩
theorem aa8 (m:Vf.Md)(ab au:Option Addr)(cb cu B:Nat)(w:World)(hmd:Hid (aW B w m ab au))(hB:B≤w.heap.size)(hmu:m.units.length≤30)(hR:Hid (Rt m))(er un num:Int)(hr:Hid ((er,un,num)=Vf.jS (Vf.gY m) m.units 0)) :
  Calls Tryz.prog 92 #[eU m ab au cb cu,.func (.func 96) #[] #[]] w fun e w'=>e=.returned (dw er un num)∧w.grownBy w' none:=by
 have rQ:∀ (fn:Fn) (first cap:Array Value) (w:World),(Instr.makeFunc fn first cap).run Tryz.prog w=.ok (.func fn first cap) w:=fun _ _ _ _=>rfl;obtain⟨W0,hW0⟩:∃ W0:World,((w.alloc (ig m ab au cb cu)).alloc (uO 96)).alloc dh=W0:=⟨_,rfl⟩;obtain⟨t0,t1,t2,t3⟩:=AA w (ig m ab au cb cu) (uO 96) dh;rw[hW0] at t0 t1 t2 t3;have HT0:=hide t0;have HT1:=hide t1;have HT2:=hide t2;have HT3:=hide t3;have HW0:=hide hW0;clear t0 t1 t2 t3 hW0;go_enter Tryz.func92,Tryz.ntmps92
 go_wp2
 go_loopw [12] (fun v wr=>∃ k:Nat,v=.int .i64 k∧Qh (Vf.gY m) m.units W0 er un num k wr) (fun v _=>m.units.length - (intOf v).toNat)
 case atStart=>exact⟨0,rfl,Nat.zero_le _,by rw[← HW0.out];exact World.grownBy.refl _ _,hr.out⟩
 case round =>
  obtain⟨k,rfl,hA⟩:=hrel;have HA:=hide hA;have hk:=hA.le;have HG:Hid (w.grownBy wr none):=bZ HT0.out HA.out.grown;have hz:=HG.out.size;have kY:wr.heap[w.heap.size+1+1]?=some dh:=(bY HA.out.grown (lt_of_block HT3.out)).trans HT3.out;have AB:=hide kY;have hlk:wr.heap[w.heap.size+1]?=some (uO 96):=(bY HA.out.grown (lt_of_block HT2.out)).trans HT2.out;have hmb:wr.heap[w.heap.size]?=some (ig m ab au cb cu):=(bY HA.out.grown (lt_of_block HT1.out)).trans HT1.out;have r9:=hide hlk;have AJ:=hide hmb;have hsz2:w.heap.size+1+1<wr.heap.size:=lt_of_block kY;obtain⟨⟨z0,z1,z2⟩,y0,y1,y2⟩:=eG kY;clear hA kY hlk hmb;by_cases hlt:k<m.units.length
  ·obtain⟨u,hu⟩:∃ u,m.units[k]?=some u:=⟨_,List.getElem?_eq_getElem hlt⟩
   have uP:aW B wr m ab au:=hmd.out.low (gD HG.out hB);obtain⟨b,off,al,cl,ac,cc,ha,hb,gq,u0,u1,u2,u3,u4,u5⟩:=uP.units k u hu;have HU:=hide hu;have xV:=hide uP;have AL:=hide gq;have hk1:(k:Int)<(m.units.length:Int):=by omega
   obtain⟨e1,n1,hen⟩:∃ (e1:Int) (n1:Nat),e1=(Vf.gY m u).1∧n1=(Vf.gY m u).2:=⟨_,_,rfl,rfl⟩;have uQ:=hide hen;have HZ:Hid (e1=0→(n1:Int)=0):=fun h0=>by
    have:=Vf.Qf (Vf.mu u.code.length (Vf.start u)+1) (Vf.start u) (show (Vf.gY m u).1=0 by rw[← hen.1];exact h0);have h2:(Vf.gY m u).2=0:=this;rw[hen.2,h2];rfl
   have HN:Hid ((er,un,num)=if e1=0 then Vf.jS (Vf.gY m) (m.units.drop (k+1)) (k+1) else (e1,(k:Int),(n1:Int))):=by
    unfold Hid;rw[HA.out.rest,Qg _ hu,hen.1,hen.2]
   have mr:=hide ha;clear hu uP gq hen ha;rw[mr.out];go_wp2_with fail
   obtain⟨W1,hW1⟩:∃ W1:World,W1=wr.alloc (aX u al ac cl cc):=⟨_,rfl⟩;have aA:Hid (wr.grownBy W1 none):=by rw[hW1];exact aR (World.grownBy.refl _ _) _
   have bC:Hid (E1 96 ⟨m,u,ab,au,al,ac,cb,cu,cl,cc,0⟩ (w.heap.size+1) w.heap.size wr.heap.size (W1.alloc pI)) :=
    ⟨(Below.heap_alloc _ _ _ (by have:=aA.out.size;omega)).trans ((bY aA.out (by omega)).trans r9.out),(Below.heap_alloc _ _ _ (by have:=aA.out.size;omega)).trans ((bY aA.out (by omega)).trans AJ.out),by
     have h1:W1.heap[wr.heap.size]?=some (aX u al ac cl cc):=by rw[hW1];exact heap_alloc_new _ _
     exact (Below.heap_alloc _ _ _ (lt_of_block h1)).trans h1⟩
   have HG2:Hid (wr.grownBy (W1.alloc pI) none):=aR aA.out _;have HW1:=hide hW1.symm;rw[HW1.out];clear hW1;refine (Qd 132 #[.pointer (some ⟨w.heap.size+1,0,none⟩),.pointer (some ⟨w.heap.size,0,none⟩),.pointer (some ⟨wr.heap.size,0,none⟩)] e1 (n1:Int) (fun wx=>(W1.alloc pI).grownBy wx none) _ HZ.out ?_ ?_).mono ?_
   ·intro w'
    first | rfl | kernel_rfl | simp[go_sem]
   ·refine (aa4 ⟨m,u,ab,au,al,ac,cb,cu,cl,cc,0⟩ B (w.heap.size+1) w.heap.size wr.heap.size _ bC (hide (xV.out.low (gD HG2.out (by omega)))) (hide (AL.out.low (gD HG2.out (by omega)))) (by have:=HG2.out.size;omega) hR (hide (hR.out.heads k u HU.out).1) (hide (hR.out.heads k u HU.out).2) e1 (n1:Int) (hide (by rw[uQ.out.1,uQ.out.2]))).mono ?_
    rintro e wx ⟨hgx,hex⟩;exact⟨hgx,(bY hgx (by simp)).trans (heap_alloc_new _ _),hex⟩
   rintro e w2 ⟨rfl,wx,hgx,hzx,rfl⟩;have fe:Hid (wr.grownBy ((wx.setCell ⟨W1.heap.size,0,none⟩ (.int .i64 e1)).setCell ⟨W1.heap.size,1,none⟩ (.int .i64 (n1:Int))) none):=aP (aP (bZ HG2.out hgx) (by have:=aA.out.size;omega) _ _) (by have:=aA.out.size;omega) _ _;obtain⟨W3,hW3⟩:∃ W3:World,(wx.setCell ⟨W1.heap.size,0,none⟩ (.int .i64 e1)).setCell ⟨W1.heap.size,1,none⟩ (.int .i64 (n1:Int))=W3:=⟨_,rfl⟩;rw[hW3] at fe;have HW3:=hide hW3;rw[HW3.out];have uR:W3.heap[w.heap.size+1+1]?=some dh:=(bY fe.out (by omega)).trans AB.out;have IQ:=hide uR;obtain⟨⟨p0,p1,p2⟩,q0,q1,q2⟩:=eG uR;have hz3:=fe.out.size;have aa7:w.heap.size+1+1<W3.heap.size:=by omega
   clear hgx hzx uR hW3 z0 z1 z2 y0 y1 y2 u0 u1 u2 u3 u4 u5;by_cases h0:e1=0
   ·have e0:(e1 != 0)=false:=by simpa using h0
    have bK:Hid ((er,un,num)=Vf.jS (Vf.gY m) (m.units.drop (k+1)) (k+1)):=by have:=HN.out;rw[if_pos h0] at this;exact this
    clear h0;go_wp2
    go_roundw
    case rel=>exact⟨k+1,by go_num,hlt,aR (bZ HA.out.grown fe.out) _,bK.out⟩
    case measure=>simp[intOf];omega
   ·have e0:(e1 != 0)=true:=by simpa using h0
    have bK:Hid (er=e1∧un=(k:Int)∧num=(n1:Int)):=by have:=HN.out;rw[if_neg h0] at this;cases this;exact⟨rfl,rfl,rfl⟩
    clear h0;go_wp2
    have hX:=nH IQ.out (.int .i64 e1) (.int .i64 (k:Int)) (.int .i64 (n1:Int));obtain⟨⟨g0,g1,g2⟩,_⟩:=eG ((Below.heap_alloc _ (.cells #[.int .i64 e1,.int .i64 (n1:Int)] 46) _ (lt_of_block hX)).trans hX);refine bodyPost_ret (v:=dw e1 (k:Int) (n1:Int)) (by simp[results,Tryz.results92,go_sem,g0,g1,g2]) rfl ?_;rw[bK.out.1,bK.out.2.1,bK.out.2.2];exact⟨rfl,aR (aP (aP (aP (bZ HG.out fe.out) (by omega) _ _) (by omega) _ _) (by omega) _ _) _⟩
  ·have bK:Hid (er=0∧un=0∧num=0):=by
    have:=HA.out.rest;rw[List.drop_eq_nil_of_le (by omega)] at this;cases this;exact⟨rfl,rfl,rfl⟩
   go_wp2
   refine bodyPost_ret (v:=dw 0 0 0) (by simp[results,Tryz.results92,go_sem,z0,z1,z2]) rfl ?_;rw[bK.out.1,bK.out.2.1,bK.out.2.2];exact⟨rfl,aP (aP (aP HG.out (by omega) _ _) (by omega) _ _) (by omega) _ _⟩
theorem aa9 (m:Vf.Md)(ab au:Option Addr)(cb cu B:Nat)(w:World)(hmd:Hid (aW B w m ab au))(hB:B≤w.heap.size)(hmu:m.units.length≤30)(er un num:Int)(hr:Hid ((er,un,num)=Vf.jS (Vf.iD m) m.units 0)) :
  Calls Tryz.prog 54 #[eU m ab au cb cu] w fun e w'=>e=.returned (dw er un num)∧w.grownBy w' none:=by
 have HT:=hide (fI w (ig m ab au cb cu) dh);have HM:Hid (aW B ((w.alloc (ig m ab au cb cu)).alloc dh) m ab au):=hmd.out.low (gD HT.out hB);go_enter Tryz.func54,Tryz.ntmps54
 go_wp2_with fail
 refine (aa6 m ab au cb cu B _ HM (by simp;omega) hmu er un num hr).mono ?_;rintro e w2 ⟨rfl,hg2⟩;have HG2:Hid (w.grownBy w2 none):=bZ HT.out hg2;have kY:w2.heap[w.heap.size+1]?=some dh:=(bY hg2 (by simp)).trans (xU _ _ _);obtain⟨⟨z0,z1,z2⟩,y0,y1,y2⟩:=eG kY;clear hg2 kY;go_wp2
 refine bodyPost_ret (v:=dw er un num) (by simp[results,Tryz.results54,go_sem,z0,z1,z2]) rfl ?_;exact⟨rfl,aP (aP (aP HG2.out (by omega) _ _) (by omega) _ _) (by omega) _ _⟩
theorem aba (m:Vf.Md)(ab au:Option Addr)(cb cu B:Nat)(w:World)(hmd:Hid (aW B w m ab au))(hB:B≤w.heap.size)(hR:Hid (Rt m))(er un num:Int)(hr:Hid ((er,un,num)=Vf.jS (Vf.gY m) m.units 0)) :
  Calls Tryz.prog 56 #[eU m ab au cb cu] w fun e w'=>e=.returned (dw er un num)∧w.grownBy w' none:=by
 have HT:=hide (fI w (ig m ab au cb cu) dh);have HM:Hid (aW B ((w.alloc (ig m ab au cb cu)).alloc dh) m ab au):=hmd.out.low (gD HT.out hB);go_enter Tryz.func56,Tryz.ntmps56
 go_wp2_with fail
 refine (aa8 m ab au cb cu B _ HM (by simp;omega) hR.out.units hR er un num hr).mono ?_;rintro e w2 ⟨rfl,hg2⟩;have HG2:Hid (w.grownBy w2 none):=bZ HT.out hg2;have kY:w2.heap[w.heap.size+1]?=some dh:=(bY hg2 (by simp)).trans (xU _ _ _);obtain⟨⟨z0,z1,z2⟩,y0,y1,y2⟩:=eG kY;clear hg2 kY;go_wp2
 refine bodyPost_ret (v:=dw er un num) (by simp[results,Tryz.results56,go_sem,z0,z1,z2]) rfl ?_;exact⟨rfl,aP (aP (aP HG2.out (by omega) _ _) (by omega) _ _) (by omega) _ _⟩
end Go.Proofs.YtfcpglhpolpdcaaGreatDoor
