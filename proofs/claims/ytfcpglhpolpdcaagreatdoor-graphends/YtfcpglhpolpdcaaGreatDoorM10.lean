/- The walks of take at hand,reckon,putTruth,ret. -/
import Derived.Test.YtfcpglhpolpdcaaGreatDoorM9
import Derived.Test.YtfcpglhpolpdcaaGreatDoorM4
set_option maxHeartbeats 1000000
namespace Go.Proofs.YtfcpglhpolpdcaaGreatDoor.Vw
open Go.RowKit Vf Vm
def o8 {β:Type}(E:Env β)(c:Cx)(vB ev:Value)(o T:Nat)(L:av)(P:Nat→Nat)(w w':World)(t:Tk)(x:β)(vR vO:Value):Prop:=∃ L',St E c vB ev o T L' P w' t x vR vO∧iI o L L' w∧aQ (WB L o) w w'
section
variable {β:Type} {E:Env β} {c:Cx} {vB ev:Value} {o T:Nat} {L:av} {P:Nat→Nat} {w w1:World} {t:Tk} {x:β} {vR vO:Value}
theorem St.at (H:St E c vB ev o T L P w t x vR vO):∃ h S g r vU,t.ae[t.hand]?=some h∧aD c L o t.hand P w h S g r vU∧t.top=h:=by
 obtain⟨h,hh⟩:∃ h,t.ae[t.hand]?=some h:=⟨_,List.getElem?_eq_getElem H.tk.hand⟩;obtain⟨S,g,r,vU,hT⟩:=H.tk.ae _ _ hh;exact⟨h,S,g,r,vU,hh,hT,by simp[Tk.top,Tk.th,hh]⟩
end
theorem taken {β:Type}(E:Env β)(c:Cx)(vB ev:Value)(o T:Nat)(L:av)(P:Nat→Nat)(w:World)(t:Tk)(x:β)(vR vO:Value)(H:Hid (St E c vB ev o T L P w t x vR vO)) :
  Calls Tryz.prog 148 #[.pointer (some ⟨P t.hand,0,none⟩)] w fun e w'=>e=.returned (.int .i64 t.last)∧o8 E c vB ev o T L P w w' t.cut x vR vO:=by
 obtain⟨h,S,g,r,vU,hh,hT,htop⟩:=H.out.at
 refine (MV c L o t.hand P w h S g r vU hT (Sb.hide H.out.ok) t.last (Sb.hide (by unfold Tk.last;rw[htop]))).mono ?_;rintro e w1 ⟨rfl,hp⟩;obtain⟨L1,hS1,hE1,gT⟩:=H.out.thread hh hp.qw;refine⟨rfl,L1,?_,hE1,gT⟩;unfold Tk.cut Tk.words;rw[htop];exact hS1
theorem cO {β:Type}{E:Env β}{c:Cx}{vB ev:Value}{o T:Nat}{L:av}{P:Nat→Nat}{w:World}{t:Tk}{x:β}{vR vO:Value}(H:St E c vB ev o T L P w t x vR vO):w.cell? ⟨T,4,none⟩=some (.pointer (some ⟨P t.hand,0,none⟩)):=(bS H.tk.blk).2.2.2.2.1
section
variable {β:Type} (E:Env β) (c:Cx) (vB:Value) (N:Nat) (af:Array Value) (hN:Hid (jl E c N af)) (o T:Nat) (L:av) (P:Nat→Nat) (w:World) (t:Tk) (x:β) (vR vO:Value) (H:Hid (St E c vB (.func (.func N) #[] af) o T L P w t x vR vO)) (bI:Hid (t.log.length≤2000001))
include hN H bI
theorem Xk (b:Bool) :
  Calls Tryz.prog 191 #[.pointer (some ⟨T,0,none⟩),.bool b] w fun e w'=>e=.returned (.tuple #[])∧aS E c vB (.func (.func N) #[] af) o T L w w' (t.put (yes b)) x:=by
 go_enter Tryz.func191,Tryz.ntmps191
 go_wp2_with fail
 refine (GH b _).mono ?_;rintro e w' ⟨rfl,rfl⟩;go_wp2_with fail
 refine (gJ E c vB N af hN o T L P _ t x vR vO H bI (yes b)).mono ?_;rintro e w1 ⟨rfl,hW⟩;have HW:=Sb.hide hW;clear hW;go_wp2
 go_end0
 exact⟨rfl,HW.out⟩
theorem GI (op:Int) :
  Calls Tryz.prog 192 #[.pointer (some ⟨T,0,none⟩),.int .i64 op] w fun e w'=>e=.returned (.tuple #[])∧aS E c vB (.func (.func N) #[] af) o T L w w' (t.reckon op) x:=by
 have d0:=cO H.out;have jL:t.cut.hand=t.hand:=rfl;go_enter Tryz.func192,Tryz.ntmps192
 go_wp2_with fail
 refine (taken E c vB (.func (.func N) #[] af) o T L P _ t x vR vO H).mono ?_;rintro e w1 ⟨rfl,L1,s1,q1,k1⟩;have d1:=cO s1;have S1:=Sb.hide s1;have E1:=Sb.hide q1;have C1:=Sb.hide k1;clear s1 q1 k1;go_wp2_with fail
 refine (taken E c vB (.func (.func N) #[] af) o T L1 P _ t.cut x vR vO S1).mono ?_;rintro e w2 ⟨rfl,L2,s2,q2,k2⟩;have d2:=cO s2;have S2:=Sb.hide s2;have E2:=Sb.hide q2;have C2:=Sb.hide k2;clear s2 q2 k2;by_cases hz:t.last=0∧(op=11∨op=12)
 ·have HZ:=Sb.hide hz
  clear hz;go_wp2_with fail
  refine (Xj op t.cut.last t.last _ HZ.out).mono ?_;rintro e w' ⟨rfl,rfl⟩;go_wp2_with fail
  refine (uj E c vB N af hN o T L2 P _ t.cut.cut x vR vO S2 (Sb.hide (by exact bI.out)) 1).mono ?_;rintro e w3 ⟨rfl,hW⟩;have HW:=Sb.hide ((hW.trans E2.out C2.out).trans E1.out C1.out);clear hW;go_wp2
  exact bodyPost_ret (v:=.tuple #[]) (by simp[results,Tryz.results192,go_sem]) rfl ⟨rfl,by unfold Tk.reckon;rw[if_pos HZ.out];exact HW.out⟩
 ·have HZ:=Sb.hide hz
  clear hz;go_wp2_with fail
  refine (Xi op t.cut.last t.last _ HZ.out _ (Sb.hide rfl)).mono ?_;rintro e w' ⟨rfl,rfl⟩;go_wp2_with fail
  refine (gJ E c vB N af hN o T L2 P _ t.cut.cut x vR vO S2 (Sb.hide (by exact bI.out)) _).mono ?_;rintro e w3 ⟨rfl,hW⟩;have HW:=Sb.hide ((hW.trans E2.out C2.out).trans E1.out C1.out);clear hW;go_wp2
  go_end0
  exact⟨rfl,by unfold Tk.reckon;rw[if_neg HZ.out];exact HW.out⟩
end
end Go.Proofs.YtfcpglhpolpdcaaGreatDoor.Vw
namespace Go.Proofs.YtfcpglhpolpdcaaGreatDoor
namespace Vm
open Vf
def WT (G:List Nat)(ty v:Int):Prop:=(ty=2→v=0∨v=1)∧(10≤ty→∃ j g:Nat,v=j∧0<j∧G[j]?=some g∧(g:Int)=ty - 10)
def TS (G:List Nat):List Int→List Int→Prop
 | [],[]=>True
 | ty :: st,v :: vs=>WT G ty v∧TS G st vs
 | _,_=>False
theorem WT.more {G:List Nat}{ty v:Int}(h:WT G ty v)(g:Nat):WT (G++[g]) ty v:=⟨h.1,fun h10=>by
 obtain⟨j,x,e,h0,h1,h2⟩:=h.2 h10;exact⟨j,x,e,h0,by rw[List.getElem?_append_left (List.getElem?_eq_some_iff.1 h1).1];exact h1,h2⟩⟩
theorem TS.more {G:List Nat}(g:Nat):∀ {st vs:List Int},TS G st vs→TS (G++[g]) st vs
 | [],[],_=>trivial
 | _ :: _,_ :: _,h=>⟨h.1.more g,TS.more g h.2⟩
 | [],_ :: _,h=>h
 | _ :: _,[],h=>h
theorem TS.len {G:List Nat}:∀ {st vs:List Int},TS G st vs→vs.length=st.length
 | [],[],_=>rfl
 | _ :: _,_ :: _,h=>by simp[TS.len h.2]
 | [],_ :: _,h=>h.elim
 | _ :: _,[],h=>h.elim
theorem TS.get {G:List Nat}:∀ {st vs:List Int},TS G st vs→∀ {i:Nat} {ty v:Int},st[i]?=some ty→vs[i]?=some v→WT G ty v
 | _ :: _,_ :: _,h,0,ty,v,h1,h2=>by simp at h1 h2;subst h1 h2;exact h.1
 | _ :: _,_ :: _,h,i+1,ty,v,h1,h2=>h.2.get (by simpa using h1) (by simpa using h2)
 | [],_,_,_,_,_,h1,_=>by simp at h1
 | _ :: _,[],h,_,_,_,_,_=>h.elim
theorem TS.split {G:List Nat}:∀ (a:List Int) {b vs:List Int},TS G (a++b) vs→∃ x y,vs=x++y∧TS G a x∧TS G b y
 | [],b,vs,h=>⟨[],vs,rfl,trivial,h⟩
 | ty :: a,b,[],h=>h.elim
 | ty :: a,b,v :: vs,h=>by
  obtain⟨x,y,e,h1,h2⟩:=TS.split a h.2;exact⟨v :: x,y,by simp[e],⟨h.1,h1⟩,h2⟩
abbrev KM:=Nat→Nat→Option Kn
structure Fr (m:Md) (K:KM) (G:List Nat) (f:Wk) (st bD lo ws loc os:List Int) (k:Kn) (u:Un):Prop where
 un:m.units[f.u]?=some u
 hws:ws=lo++loc++os.reverse
 hbase:lo.length=f.base
 hloc:loc.length=u.locals.length
 ts:TS G st os
 kn:K f.u f.pc=some k
 zN:k.st=bD
 fl:∀ i ty v,k.fl.has i=true→u.locals[i]?=some ty→loc[i]?=some v→WT G ty v
def Lay (m:Md)(K:KM)(G:List Nat):List Wk→List Int→List Int→List Int→Prop
 | [],_,_,_=>False
 | f :: fs,ws,st,bD=>∃ lo loc os k u,Fr m K G f st bD lo ws loc os k u∧(fs=[]→lo=[]∧u.kind≠2)∧(fs≠[]→u.kind=2∧∃ st',Lay m K G fs lo st' (u.result :: st'))
theorem Fr.more {m:Md}{K:KM}{G:List Nat}{f:Wk}{st bD lo ws loc os:List Int}{k:Kn}{u:Un}(h:Fr m K G f st bD lo ws loc os k u)(g:Nat):Fr m K (G++[g]) f st bD lo ws loc os k u :=
 ⟨h.un,h.hws,h.hbase,h.hloc,h.ts.more g,h.kn,h.zN,fun i ty v a b c=>(h.fl i ty v a b c).more g⟩
theorem Lay.more {m:Md}{K:KM}{G:List Nat}(g:Nat):∀ {fs:List Wk} {ws st bD:List Int},Lay m K G fs ws st bD→Lay m K (G++[g]) fs ws st bD
 | [],_,_,_,h=>h
 | f :: fs,ws,st,bD,h=>by
  obtain⟨lo,loc,os,k,u,hf,h0,h1⟩:=h;refine⟨lo,loc,os,k,u,hf.more g,h0,fun hne=>?_⟩;obtain⟨hk,st',hl⟩:=h1 hne;exact⟨hk,st',Lay.more g hl⟩
def mo (h:Th):Option Nat:=(h.fs.getLast?).map (·.u)
def uk (m:Md)(n:Nat):Int:=(unit m n).result
structure Mid (m:Md) (K:KM) (G:List Nat) (t:Tk) (st bD:List Int):Prop where
 len:G.length=t.ae.length
 gen:∀ (i:Nat) h,t.ae[i]?=some h→∃ g u,G[i]?=some g∧mo h=some g∧m.units[g]?=some u∧u.kind=if i=0 then 4 else 3
 hand:∃ h,t.ae[t.hand]?=some h∧h.stands=2∧Lay m K G h.fs h.ws st bD
 fresh:∀ (i:Nat) h,t.ae[i]?=some h→h.stands≠1∧h.stands≠2∧h.stands≠3→Lay m K G h.fs h.ws [] []
 held:∀ (i:Nat) h,t.ae[i]?=some h→h.stands=1→∃ g st',G[i]?=some g∧Lay m K G h.fs h.ws st' ((unit m g).takes :: st')
 up:∀ (i:Nat) h,t.ae[i]?=some h→h.stands=2→i≠0→∃ j h' g st',h.up=some j∧t.ae[j]?=some h'∧h'.stands=2∧j≠t.hand∧G[i]?=some g∧Lay m K G h'.fs h'.ws st' (uk m g :: st')
 uniq:∀ (i i':Nat) h h',t.ae[i]?=some h→t.ae[i']?=some h'→h.stands=2→h'.stands=2→i≠0→i'≠0→h.up=h'.up→i=i'
 ups:∀ (i:Nat) h k,t.ae[i]?=some h→h.up=some k→k<t.ae.length
theorem eD {t:Tk}{h:Th}(hh:t.ae[t.hand]?=some h):t.top=h:=by simp[Tk.top,Tk.th,hh]
theorem gB {α:Type}{l:List α}{i:Nat}{x:α}(h:l[i]?=some x):i<l.length:=(List.getElem?_eq_some_iff.1 h).1
theorem eT {t:Tk}{h h':Th}(hh:t.ae[t.hand]?=some h):(t.set t.hand h').ae[(t.set t.hand h').hand]?=some h':=by
 simp[Tk.set,gB hh]
theorem set_set (t:Tk)(i:Nat)(a b:Th):(t.set i a).set i b=t.set i b:=by simp[Tk.set]
theorem Mid.congr {m:Md}{K:KM}{G:List Nat}{t t':Tk}{st bD:List Int}(h:Mid m K G t st bD)(e1:t'.ae=t.ae)(e2:t'.hand=t.hand):Mid m K G t' st bD:=by
 obtain⟨a,b,c,d,e,f,g,k⟩:=h;exact⟨by rw[e1];exact a,by rw[e1];exact b,by rw[e1,e2];exact c,by rw[e1];exact d,by rw[e1];exact e,by rw[e1,e2];exact f,by rw[e1];exact g,by rw[e1];exact k⟩
theorem Mid.upd {m:Md}{K:KM}{G:List Nat}{t:Tk}{st bD st2 zO:List Int}{h h2:Th}(hM:Mid m K G t st bD)(hh:t.ae[t.hand]?=some h)(h1:h2.stands=2)(h3:h2.up=h.up)(h4:mo h2=mo h)(hL:Lay m K G h2.fs h2.ws st2 zO):Mid m K G (t.set t.hand h2) st2 zO:=by
 have hst:h.stands=2:=by obtain⟨h',e,e2,_⟩:=hM.hand;rw[hh] at e;cases e;exact e2
 have key:∀ (i:Nat) x,(t.set t.hand h2).ae[i]?=some x→(i=t.hand∧x=h2)∨(i≠t.hand∧t.ae[i]?=some x):=fun i x hx=>by
  simp only[Tk.set,List.getElem?_set] at hx;split at hx
  ·rename_i e
   split at hx
   ·cases hx;exact .inl ⟨e.symm,rfl⟩
   ·cases hx
  ·rename_i e;exact .inr ⟨fun e2=>e e2.symm,hx⟩
 refine⟨by simpa[Tk.set] using hM.len,fun i x hx=>?_,⟨h2,eT hh,h1,hL⟩,fun i x hx h0=>?_,fun i x hx h0=>?_,fun i x hx h0 hi=>?_,fun i i' x x' hx hx' h0 h0' hi hi' he=>?_,fun i x k hx hk=>?_⟩
 ·rcases key i x hx with⟨rfl,rfl⟩ | ⟨_,hx⟩
  ·rw[h4];exact hM.gen _ _ hh
  ·exact hM.gen _ _ hx
 ·rcases key i x hx with⟨rfl,rfl⟩ | ⟨_,hx⟩
  ·omega
  ·exact hM.fresh _ _ hx h0
 ·rcases key i x hx with⟨rfl,rfl⟩ | ⟨_,hx⟩
  ·omega
  ·exact hM.held _ _ hx h0
 ·have hup:∃ y,t.ae[i]?=some y∧y.stands=2∧x.up=y.up:=by
   rcases key i x hx with⟨rfl,rfl⟩ | ⟨_,hx⟩
   ·exact⟨h,hh,hst,h3⟩
   ·exact⟨x,hx,h0,rfl⟩
  obtain⟨y,hy,hy2,hy3⟩:=hup;obtain⟨j,h',g,st',e1,e2,e3,e4,e5,e6⟩:=hM.up i y hy hy2 hi;exact⟨j,h',g,st',hy3.trans e1,by simp only[Tk.set];rw[List.getElem?_set_ne (fun e=>e4 e.symm)];exact e2,e3,e4,e5,e6⟩
 ·have hup:∀ (i:Nat) x,(t.set t.hand h2).ae[i]?=some x→x.stands=2→∃ y,t.ae[i]?=some y∧y.stands=2∧x.up=y.up:=fun i x hx h0=>by
   rcases key i x hx with⟨rfl,rfl⟩ | ⟨_,hx⟩
   ·exact⟨h,hh,hst,h3⟩
   ·exact⟨x,hx,h0,rfl⟩
  obtain⟨y,hy,hy2,hy3⟩:=hup i x hx h0;obtain⟨y',hy',Xl,Xm⟩:=hup i' x' hx' h0';exact hM.uniq i i' y y' hy hy' hy2 Xl hi hi' (by rw[← hy3,← Xm,he])
 ·have hl:(t.set t.hand h2).ae.length=t.ae.length:=by simp[Tk.set]
  rw[hl];rcases key i x hx with⟨rfl,rfl⟩ | ⟨_,hx⟩
  ·rw[h3] at hk;exact hM.ups _ _ _ hh hk
  ·exact hM.ups _ _ _ hx hk
theorem Lay.cut {m:Md}{K:KM}{G:List Nat}{fs:List Wk}{ws st bD:List Int}{ty:Int}(h:Lay m K G fs ws (ty :: st) bD):Lay m K G fs ws.dropLast st bD∧∃ v,ws.getLast?=some v∧WT G ty v:=by
 match fs,h with
 | f :: fs,h =>
  obtain⟨lo,loc,os,k,u,hf,h0,h1⟩:=h;match os,hf.ts,hf with
  | v :: os,hts,hf =>
   have hw:=hf.hws;rw[List.reverse_cons,← List.append_assoc] at hw;refine⟨⟨lo,loc,os,k,u,⟨hf.un,by rw[hw,List.dropLast_concat],hf.hbase,hf.hloc,hts.2,hf.kn,hf.zN,hf.fl⟩,h0,h1⟩,v,by rw[hw];simp,hts.1⟩
  | [],hts,_=>exact hts.elim
theorem Lay.put {m:Md}{K:KM}{G:List Nat}{fs:List Wk}{ws st bD:List Int}{ty v:Int}(h:Lay m K G fs ws st bD)(hv:WT G ty v):Lay m K G fs (ws++[v]) (ty :: st) bD:=by
 match fs,h with
 | f :: fs,h =>
  obtain⟨lo,loc,os,k,u,hf,h0,h1⟩:=h;exact⟨lo,loc,v :: os,k,u,⟨hf.un,by rw[hf.hws];simp,hf.hbase,hf.hloc,⟨hv,hf.ts⟩,hf.kn,hf.zN,hf.fl⟩,h0,h1⟩
theorem Mid.cut {m:Md}{K:KM}{G:List Nat}{t:Tk}{st bD:List Int}{ty:Int}(hM:Mid m K G t (ty :: st) bD):Mid m K G t.cut st bD∧WT G ty t.last:=by
 obtain⟨h,hh,h2,hL⟩:=hM.hand;obtain⟨hL2,v,hv,hwt⟩:=hL.cut;have e:=eD hh;refine⟨?_,by unfold Tk.last;rw[e,hv];exact hwt⟩;unfold Tk.cut Tk.words;rw[e];exact hM.upd hh h2 rfl rfl hL2
def Goes (m:Md)(K:KM)(t:Tk):Prop:=t.over≠0∨∃ G st,Mid m K G t st st
theorem Mid.put {m:Md}{K:KM}{G:List Nat}{t:Tk}{st:List Int}{ty v:Int}(hM:Mid m K G t st (ty :: st))(hv:WT G ty v):Goes m K (t.put v):=by
 obtain⟨h,hh,h2,hL⟩:=hM.hand;unfold Tk.put;split
 ·left;simp[Tk.fall]
 ·right
  refine⟨G,ty :: st,?_⟩;unfold Tk.words;rw[eD hh];exact hM.upd hh h2 rfl rfl (hL.put hv)
theorem Lay.goto {m:Md}{K:KM}{G:List Nat}{f:Wk}{r:List Wk}{ws st bD:List Int}(h:Lay m K G (f :: r) ws st bD){n:Nat}{k k2:Kn}(hk:K f.u f.pc=some k)(h2:K f.u n=some k2)(hle:gL k2.fl k.fl):Lay m K G ({ f with pc:=n } :: r) ws st k2.st:=by
 obtain⟨lo,loc,os,k',u,hf,h0,h1⟩:=h;have e:k'=k:=by have:=hf.kn;rw[hk] at this;cases this;rfl
 subst e;exact⟨lo,loc,os,k2,u,⟨hf.un,hf.hws,hf.hbase,hf.hloc,hf.ts,h2,rfl,fun i ty v a b c=>hf.fl i ty v (hle i a) b c⟩,h0,h1⟩
theorem GJ (f:Wk)(n:Nat)(r:List Wk):((({ f with pc:=n }:Wk) :: r).getLast?).map (·.u)=(((f :: r)).getLast?).map (·.u):=by
 cases r with
 | nil=>rfl
 | cons a r=>simp[List.getLast?_cons_cons]
theorem um {t:Tk}{h:Th}{f:Wk}{r:List Wk}(hh:t.ae[t.hand]?=some h)(hf:h.fs=f :: r):t.frame=f:=by simp[Tk.frame,eD hh,hf]
theorem qD {t:Tk}{h:Th}{f:Wk}{r:List Wk}(hh:t.ae[t.hand]?=some h)(hf:h.fs=f :: r)(n:Nat):t.goto n=t.set t.hand { h with fs:={ f with pc:=n } :: r }:=by
 simp[Tk.goto,um hh hf,eD hh,hf]
theorem Mid.goto {m:Md}{K:KM}{G:List Nat}{t:Tk}{st bD:List Int}(hM:Mid m K G t st bD){h:Th}{f:Wk}{r:List Wk}(hh:t.ae[t.hand]?=some h)(hf:h.fs=f :: r){n:Nat}{k k2:Kn}(hk:K f.u f.pc=some k)(h2:K f.u n=some k2)(hle:gL k2.fl k.fl):Mid m K G (t.goto n) st k2.st:=by
 obtain⟨h',hh',hs,hL⟩:=hM.hand;rw[hh] at hh';cases hh';rw[qD hh hf];refine hM.upd hh hs rfl ?_ ?_
 ·unfold mo;rw[hf];exact GJ f n r
 ·rw[hf] at hL;exact hL.goto hk h2 hle
end Vm
namespace Vm
open Vf
theorem iU {α β:Type}{r:Except Int α}{f:α→Except Int β}{y:β}(h:andThen r f=.ok y):∃ x,r=.ok x∧f x=.ok y:=by
 cases r with
 | error e=>cases h
 | ok x=>exact⟨x,rfl,h⟩
theorem uo {ty:Int}{st s:List Int}(h:Vf.put ty st=.ok s):s=ty :: st:=by
 unfold Vf.put at h;split at h<;>cases h;rfl
theorem uq:∀ {ts st r:List Int},dG ts st=.ok r→st=ts++r
 | [],st,r,h=>by cases h;rfl
 | _ :: _,[],_,h=>by cases h
 | t :: ts,x :: st,r,h=>by
  unfold dG at h;split at h
  ·rename_i e;rw[e,uq h];rfl
  ·cases h
theorem om {ty:Int}{l st s:List Int}(h:Vf.turn ty l st=.ok s):∃ r,st=l.reverse++r∧s=ty :: r:=by
 obtain⟨r,h1,h2⟩:=iU h;exact⟨r,uq h1,uo h2⟩
theorem Dk {st:List Int}{p:Int × List Int}(h:pop st=.ok p):st=p.1 :: p.2:=by
 cases st<;>cases h;rfl
theorem Nu {st:List Int}{p:Int × List Int}(h:lI st=.ok p):st=p.1 :: p.2∧plain p.1=true:=by
 obtain⟨q,h1,h2⟩:=iU h;split at h2<;>cases h2;exact⟨Dk h1,by assumption⟩
theorem GK {st:List Int}{p:Int × List Int}(h:kL st=.ok p):st=p.1 :: p.2∧10≤p.1:=by
 obtain⟨q,h1,h2⟩:=iU h;split at h2<;>cases h2;exact⟨Dk h1,by assumption⟩
theorem xm {b:Bool}{e:Int}{st s:List Int}(h:must b e st=.ok s):b=true∧s=st:=by
 unfold must at h;split at h<;>cases h;exact⟨by assumption,rfl⟩
theorem Xn {m:Md}{u:Un}{c:Ins}{k k':Kn}(h:gp m u c k=.ok k'):eO m u c k=.ok k'.st∧k'.fl=mP c k.fl:=by
 obtain⟨st,h1,h2⟩:=iU h;cases h2;exact⟨h1,rfl⟩
theorem mf {m:Md}{n:Nat}{u:Un}(h:m.units[n]?=some u):unit m n=u:=by simp[unit,h]
theorem Dl {m:Md}{n:Int}{u:Un}(h:m.units[n.toNat]?=some u):unit m n=u:=by simp[unit,h]
structure ib (m:Md) (K:KM):Prop where
 rt:Rt m
 fix:∀ n u,m.units[n]?=some u→Fix m u (K n)
structure Here (m:Md) (K:KM) (G:List Nat) (t:Tk) (st:List Int) (h:Th) (f:Wk) (r:List Wk) (u:Un) (c:Ins) (k k':Kn):Prop where
 hh:t.ae[t.hand]?=some h
 stands:h.stands=2
 fs:h.fs=f :: r
 un:m.units[f.u]?=some u
 kn:K f.u f.pc=some k
 bD:k.st=st
 code:u.code[f.pc]?=some c
 form:bE m u c=0
 head:gm m u=0
 gp:eO m u c k=.ok k'.st
 fl:k'.fl=mP c k.fl
 goes:∀ x ∈ goes c f.pc,x.toNat<u.code.length∧∃ k2,K f.u x.toNat=some k2∧k2.st=k'.st∧gL k2.fl k'.fl
 lay:Lay m K G (f :: r) h.ws st st
theorem Mid.here {m:Md}{K:KM}{G:List Nat}{t:Tk}{st:List Int}(hK:ib m K)(hM:Mid m K G t st st):∃ h f r u c k k',Here m K G t st h f r u c k k':=by
 obtain⟨h,hh,h2,hL⟩:=hM.hand;cases hfs:h.fs with
 | nil=>rw[hfs] at hL;exact hL.elim
 | cons f r =>
  rw[hfs] at hL;have hL':=hL;obtain⟨lo,loc,os,k,u,hf,_⟩:=hL';have hF:=hK.fix _ _ hf.un;obtain⟨c,hc⟩:∃ c,u.code[f.pc]?=some c:=⟨_,List.getElem?_eq_getElem (hF.lt _ _ hf.kn)⟩;obtain⟨hhd,hfo⟩:=hK.rt.heads _ _ hf.un;obtain⟨k',hr,hg⟩:=hF.next _ _ _ hf.kn hc;obtain⟨hr1,hr2⟩:=Xn hr;exact⟨h,f,r,u,c,k,k',hh,h2,hfs,hf.un,hf.kn,hf.zN,hc,hfo c (List.mem_of_getElem? hc),hhd,hr1,hr2,hg,hL⟩
section
variable {m:Md} {K:KM} {G:List Nat} {t:Tk} {st:List Int} {h:Th} {f:Wk} {r:List Wk} {u:Un} {c:Ins} {k k':Kn}
theorem Here.frame (H:Here m K G t st h f r u c k k'):t.frame=f:=um H.hh H.fs
theorem Here.ins (H:Here m K G t st h f r u c k k'):t.ins m=c:=by simp[Tk.ins,H.frame,mf H.un,H.code]
theorem Here.on (H:Here m K G t st h f r u c k k')(hM:Mid m K G t st st)(h4:c.op≠4){n:Nat}(hn:(n:Int) ∈ Vf.goes c f.pc):Mid m K G (t.goto n) st k'.st:=by
 obtain⟨_,k2,h2,e2,f2⟩:=H.goes _ hn;simp only[Int.toNat_natCast] at h2;rw[← e2];refine hM.goto H.hh H.fs H.kn h2 ?_;rw[H.fl] at f2;unfold mP at f2;rw[if_neg h4] at f2;exact f2
theorem Here.next (H:Here m K G t st h f r u c k k')(hM:Mid m K G t st st)(h4:c.op≠4)(h1:c.op≠24)(h2:c.op≠25)(h3:c.op≠21):Mid m K G (t.goto (f.pc+1)) st k'.st:=by
 refine H.on hM h4 ?_;unfold Vf.goes;rw[if_neg (by omega),if_neg h3];split<;>simp
theorem Here.pos (H:Here m K G t st h f r u c k k'):1≤c.op∧c.op≤32∧ranged m u c=true:=qi H.form
theorem Here.at' (H:Here m K G t st h f r u c k k')(n:Nat):t.goto n=t.set t.hand { h with fs:={ f with pc:=n } :: r }:=qD H.hh H.fs n
end
theorem Goes.mid {m:Md}{K:KM}{G:List Nat}{t:Tk}{st st':List Int}(h:Mid m K G t st st')(e:st'=st):Goes m K t:=.inr ⟨G,st,by rw[e] at h;exact h⟩
theorem GL (G:List Nat)(v:Int):WT G 1 v:=⟨fun h=>by omega,fun h=>by omega⟩
theorem Nv (G:List Nat)(b:Bool):WT G 2 (yes b):=⟨fun _=>by cases b<;>simp[yes],fun h=>by omega⟩
theorem Xo (G:List Nat){ty:Int}(h:plain ty=true):WT G ty 0:=by
 unfold plain at h;simp at h;exact⟨fun _=>.inl rfl,fun h10=>by omega⟩
theorem Nw {m:Md}{K:KM}{G:List Nat}{t:Tk}{st:List Int}{h:Th}{f:Wk}{r:List Wk}{u:Un}{c:Ins}{k k':Kn}(H:Here m K G t st h f r u c k k')(hM:Mid m K G t st st)(rv:Int)(jm:c.op=27→WT G (jI m c.a) rv)
  (ho:c.op=1∨c.op=2∨c.op=5∨c.op=6∨c.op=7∨c.op=26∨c.op=27∨c.op=28∨c.op=32∨(8≤c.op∧c.op≤20)):Goes m K ((t.goto (f.pc+1)).act m c rv):=by
 have hN:=H.next hM (by omega) (by omega) (by omega) (by omega);generalize t.goto (f.pc+1)=t1 at hN;have hr:=H.gp;rw[← H.bD] at hN;unfold eO at hr;unfold Tk.act;rcases ho with e | e | e | e | e | e | e | e | e | e
 ·simp only[e] at hr ⊢
  simp at hr ⊢;have:=uo hr;rw[this] at hN;exact hN.put (GL _ _)
 ·have hrg:=H.pos.2.2
  unfold ranged at hrg;simp only[e] at hr hrg ⊢;simp at hr hrg ⊢;have:=uo hr;rw[this] at hN;exact hN.put ⟨fun _=>by omega,fun h=>by omega⟩
 ·simp only[e] at hr ⊢
  simp at hr ⊢;obtain⟨p,h1,h2⟩:=iU hr;rw[Dk h1,← Except.ok.inj h2] at hN;exact .mid hN.cut.1 rfl
 ·simp only[e] at hr ⊢
  simp at hr ⊢;obtain⟨q,h1,h2⟩:=om hr;rw[h1,h2] at hN;simp at hN;exact hN.cut.1.put (GL _ _)
 ·simp only[e] at hr ⊢
  simp at hr ⊢;obtain⟨q,h1,h2⟩:=om hr;rw[h1,h2] at hN;simp at hN;refine hN.cut.1.put ⟨fun _=>?_,fun h=>by omega⟩;rcases hN.cut.2.1 rfl with h | h<;>rw[h]<;>unfold wrap Go.RowKit.wrap64<;>omega
 ·simp only[e] at hr ⊢
  simp[speak,e] at hr ⊢;have h1:=uq hr;rw[h1] at hN;simp at hN;exact .mid (hN.cut.1.congr rfl rfl) rfl
 ·simp only[e] at hr ⊢
  simp[speak,e] at hr ⊢;have h1:=uo hr;rw[h1] at hN;exact (hN.congr (t':=t1.note ⟨3,c.a,rv⟩) rfl rfl).put (jm e)
 ·simp only[e] at hr ⊢
  simp at hr ⊢;obtain⟨p,h1,h2⟩:=iU hr;rw[(Nu h1).1,← Except.ok.inj h2] at hN;exact .mid (hN.cut.1.congr rfl rfl) rfl
 ·simp only[e] at hr ⊢
  simp[speak,e] at hr ⊢;obtain⟨p,h1,h2⟩:=iU hr;rw[(GK h1).1,uo h2] at hN;exact hN.cut.1.put (Nv _ _)
 ·have key:∃ a b r ty,k.st=a :: b :: r∧k'.st=ty :: r∧(ty=1∧c.op≤12∨ty=2∧13≤c.op):=by
   rw[if_neg (by omega),if_neg (by omega),if_neg (by omega),if_neg (by omega),if_neg (by omega),if_neg (by omega),if_neg (by omega)] at hr;by_cases e1:8≤c.op∧c.op≤12
   ·rw[if_pos e1] at hr
    obtain⟨q,h1,h2⟩:=om hr;exact⟨1,1,q,1,h1,h2,.inl ⟨rfl,e1.2⟩⟩
   ·rw[if_neg e1] at hr
    by_cases e2:15≤c.op∧c.op≤18
    ·rw[if_pos e2] at hr
     obtain⟨q,h1,h2⟩:=om hr;exact⟨1,1,q,2,h1,h2,.inr ⟨rfl,by omega⟩⟩
    ·rw[if_neg e2] at hr
     by_cases e3:c.op=19∨c.op=20
     ·rw[if_pos e3] at hr
      obtain⟨q,h1,h2⟩:=om hr;exact⟨2,2,q,2,h1,h2,.inr ⟨rfl,by omega⟩⟩
     ·rw[if_neg e3,if_pos (by omega)] at hr
      obtain⟨p,h1,h2⟩:=iU hr;obtain⟨q,h3,h4⟩:=om h2;refine⟨p.1,p.1,q,2,?_,h4,.inr ⟨rfl,by omega⟩⟩;rw[(Nu h1).1,h3];rfl
  obtain⟨a,b,q,ty,h1,h2,h3⟩:=key;rw[h1,h2] at hN;rw[if_neg (by omega),if_neg (by omega),if_neg (by omega),if_neg (by omega),if_neg (by omega),if_neg (by omega),if_neg (by omega),if_neg (by omega),if_neg (by omega),if_neg (by omega),if_neg (by omega),if_neg (by omega),if_neg (by omega),if_neg (by omega),if_neg (by omega),if_neg (by omega),if_neg (by omega),if_neg (by omega),if_neg (by omega)];unfold Tk.reckon;split
  ·left;simp[Tk.fall]
  ·refine hN.cut.1.cut.1.put ?_
   rcases h3 with⟨rfl,_⟩ | ⟨rfl,xk⟩
   ·exact GL _ _
   ·unfold two
    rw[if_neg (by omega),if_neg (by omega),if_neg (by omega),if_neg (by omega),if_neg (by omega)];exact Nv _ _
theorem Xp {m:Md}{K:KM}{G:List Nat}{t:Tk}{st:List Int}{h:Th}{f:Wk}{r:List Wk}{u:Un}{c:Ins}{k k':Kn}(H:Here m K G t st h f r u c k k')(hM:Mid m K G t st st)(rv:Int)(ho:c.op=21∨c.op=22):Goes m K ((t.goto (f.pc+1)).act m c rv):=by
 have hr:=H.gp;have ha:0≤c.a:=by
  have hrg:=H.pos.2.2;unfold ranged at hrg;rw[if_neg (by omega),if_neg (by omega),if_pos ho] at hrg;simp at hrg;exact hrg.1
 have en:((c.a.toNat:Nat):Int)=c.a:=Int.toNat_of_nonneg ha;have GM:∀ (x:Tk),x=t.goto (f.pc+1)→x.goto c.a.toNat=t.goto c.a.toNat:=fun x hx=>by
  subst hx;rw[H.at' (f.pc+1),qD (f:={ f with pc:=f.pc+1 }) (r:=r) (eT H.hh) rfl,H.at'];simp[Tk.set]
 have hG:Mid m K G (t.goto c.a.toNat) st k'.st:=by
  refine H.on hM (by omega) ?_;rw[en];unfold Vf.goes;rw[if_neg (by omega)];rcases ho with e | e
  ·rw[if_pos e];simp
  ·rw[if_neg (by omega),if_pos e];simp
 unfold Tk.act;rcases ho with e | e
 ·unfold eO speak at hr
  simp only[e] at hr ⊢;simp at hr ⊢;rw[GM _ rfl];exact .mid hG (by rw[← H.bD];exact hr.symm)
 ·have hN:=H.next hM (by omega) (by omega) (by omega) (by omega)
  unfold eO at hr;simp only[e] at hr ⊢;simp at hr ⊢;have h1:=uq hr;rw[H.bD] at h1;rw[h1] at hN hG;simp at hN hG;split
  ·have e2:((t.goto (f.pc+1)).cut).goto c.a.toNat=(t.goto c.a.toNat).cut:=by
    rw[H.at' (f.pc+1),H.at' c.a.toNat];unfold Tk.cut Tk.words;rw[eD (eT H.hh),eD (eT H.hh)];have e3:((t.set t.hand { h with fs:={ f with pc:=f.pc+1 } :: r }).set (t.set t.hand { h with fs:={ f with pc:=f.pc+1 } :: r }).hand { h with fs:={ f with pc:=f.pc+1 } :: r,ws:=h.ws.dropLast })=t.set t.hand { h with fs:={ f with pc:=f.pc+1 } :: r,ws:=h.ws.dropLast }:=set_set t t.hand _ _;rw[e3,qD (f:={ f with pc:=f.pc+1 }) (r:=r) (eT H.hh) rfl];simp[Tk.set]
   rw[e2];exact .mid hG.cut.1 rfl
  ·exact .mid hN.cut.1 rfl
end Vm
end Go.Proofs.YtfcpglhpolpdcaaGreatDoor
