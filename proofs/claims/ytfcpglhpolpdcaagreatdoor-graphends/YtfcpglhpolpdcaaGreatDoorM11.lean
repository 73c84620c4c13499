/- What is known at an instruction is so: locals,calls,returns,threads,plainly. -/
import Derived.Test.YtfcpglhpolpdcaaGreatDoorM10
set_option maxHeartbeats 1000000
namespace Go.Proofs.YtfcpglhpolpdcaaGreatDoor
namespace Vm
open Vf
theorem Xq (f:Fl){a k:Nat}(hk:k<4):(f.fill a).word k=if a / 64=k then f.word k ||| BitVec.twoPow 64 (a % 64) else f.word k:=by
 rcases (show k=0∨k=1∨k=2∨k=3 by omega) with rfl | rfl | rfl | rfl<;>simp[Fl.fill,Fl.word]
theorem Ny (f:Fl){a j:Nat}(hj:j<256):(f.fill a).has j=(f.has j || decide (j=a)):=by
 unfold Fl.has;rw[Xq f (by omega)];by_cases h:a / 64=j / 64
 ·rw[if_pos h,BitVec.getLsbD_or,BitVec.getLsbD_twoPow]
  congr 1
  have h1:a % 64<64:=by omega
  by_cases e:j=a
  ·subst e
   simp[h1]
  ·have:¬ a % 64=j % 64:=by omega
   simp[e,this]
 ·rw[if_neg h]
  have:¬ j=a:=fun e=>h (by rw[e]);simp[this]
theorem Xr (j:Nat):Fl.none.has j=false:=by
 unfold Fl.has Fl.none Fl.word;split
 ·simp
 ·split
  ·simp
  ·split<;>simp
theorem Nz:∀ (n:Nat) {j:Nat},j<256→(Fl.first n).has j=true→j<n
 | 0,j,_,h=>by rw[show Fl.first 0=Fl.none from rfl,Xr] at h;cases h
 | n+1,j,hj,h=>by
  rw[show Fl.first (n+1)=(Fl.first n).fill n from rfl,Ny _ hj] at h;simp at h;rcases h with h | h
  ·have:=Nz n hj h;omega
  ·omega
section
variable {m:Md} {K:KM} {G:List Nat} {t:Tk} {st:List Int} {h:Th} {f:Wk} {r:List Wk} {u:Un} {c:Ins} {k k':Kn}
theorem Here.local (H:Here m K G t st h f r u c k k')(ho:c.op=3∨c.op=4):0≤c.a∧c.a.toNat<u.locals.length∧u.locals[c.a.toNat]?=some (qg u c.a):=by
 have hrg:=H.pos.2.2;unfold ranged at hrg;rw[if_neg (by omega),if_pos ho] at hrg;simp at hrg;have hlt:c.a.toNat<u.locals.length:=by omega
 exact⟨hrg.1,hlt,by simp[qg,hlt]⟩
theorem Xt (H:Here m K G t st h f r u c k k')(hM:Mid m K G t st st)(rv:Int)(ho:c.op=3):Goes m K ((t.goto (f.pc+1)).act m c rv):=by
 have hN:=H.next hM (by omega) (by omega) (by omega) (by omega);obtain⟨h0,hlt,hty⟩:=H.local (.inl ho);have hr:=H.gp;unfold eO at hr;rw[if_neg (by omega),if_neg (by omega),if_pos ho] at hr;obtain⟨s,h1,h2⟩:=iU hr;obtain⟨hb,hs⟩:=xm h1;rw[uo h2,hs,H.bD] at hN;unfold Tk.act;rw[if_neg (by omega),if_neg (by omega),if_pos ho];refine hN.put ?_;obtain⟨lo,loc,os,k0,u0,hf,_⟩:=H.lay;have e1:k0=k:=by have:=hf.kn;rw[H.kn] at this;cases this;rfl
 have e2:u0=u:=by have:=hf.un;rw[H.un] at this;cases this;rfl
 subst e1 e2;have hl:c.a.toNat<loc.length:=by rw[hf.hloc];exact hlt
 have e3:(t.goto (f.pc+1)).top.ws=h.ws:=by rw[H.at',eD (eT H.hh)]
 have e4:(t.goto (f.pc+1)).frame.base=f.base:=by rw[H.at',um (f:={ f with pc:=f.pc+1 }) (r:=r) (eT H.hh) rfl]
 rw[e3,e4,hf.hws,List.append_assoc,← hf.hbase,List.getElem?_append_right (by omega),List.getElem?_append_left (by omega),show lo.length+c.a.toNat - lo.length=c.a.toNat by omega];obtain⟨v,hv⟩:∃ v,loc[c.a.toNat]?=some v:=⟨_,List.getElem?_eq_getElem hl⟩;rw[hv];exact hf.fl _ _ _ hb hty hv
theorem Xu (H:Here m K G t st h f r u c k k')(hM:Mid m K G t st st)(rv:Int)(ho:c.op=4):Goes m K ((t.goto (f.pc+1)).act m c rv):=by
 obtain⟨h0,hlt,hty⟩:=H.local (.inr ho);have hsz:=ko (iF H.head).2.1;have hr:=H.gp;unfold eO at hr;rw[if_neg (by omega),if_neg (by omega),if_neg (by omega),if_pos ho] at hr;have h1:=uq hr;rw[H.bD] at h1;have hfl:=H.fl;unfold mP at hfl;rw[if_pos ho] at hfl;obtain⟨hg1,k2,hk2,e2,f2⟩:=H.goes ((f.pc:Int)+1) (by unfold Vf.goes;rw[if_neg (by omega),if_neg (by omega),if_neg (by omega)];simp);rw[show ((f.pc:Int)+1).toNat=f.pc+1 by omega] at hk2;obtain⟨lo,loc,os,k0,u0,hf,hr0,hr1⟩:=H.lay;have e1:k0=k:=by have:=hf.kn;rw[H.kn] at this;cases this;rfl
 have eu:u0=u:=by have:=hf.un;rw[H.un] at this;cases this;rfl
 subst e1 eu;have hts:=hf.ts;rw[h1] at hts;match os,hts,hf with
 | v :: os,hts,hf =>
  have hw:=hf.hws;rw[List.reverse_cons,← List.append_assoc] at hw;have hla:c.a.toNat<loc.length:=by rw[hf.hloc];exact hlt
  have hlast:(t.goto (f.pc+1)).last=v:=by
   unfold Tk.last;rw[H.at',eD (eT H.hh)];simp[hw]
  refine .inr ⟨G,k'.st,?_⟩;unfold Tk.act;rw[if_neg (by omega),if_neg (by omega),if_neg (by omega),if_pos ho,hlast,H.at'];unfold Tk.words;rw[um (f:={ f with pc:=f.pc+1 }) (r:=r) (eT H.hh) rfl,eD (eT H.hh)];have e5:((t.set t.hand { h with fs:={ f with pc:=f.pc+1 } :: r }).set (t.set t.hand { h with fs:={ f with pc:=f.pc+1 } :: r }).hand { h with fs:={ f with pc:=f.pc+1 } :: r,ws:=h.ws.dropLast.set (f.base+c.a.toNat) v })=t.set t.hand { h with fs:={ f with pc:=f.pc+1 } :: r,ws:=h.ws.dropLast.set (f.base+c.a.toNat) v }:=set_set t t.hand _ _;show Mid m K G ((t.set t.hand { h with fs:={ f with pc:=f.pc+1 } :: r }).set (t.set t.hand { h with fs:={ f with pc:=f.pc+1 } :: r }).hand { h with fs:={ f with pc:=f.pc+1 } :: r,ws:=h.ws.dropLast.set (f.base+c.a.toNat) v }) _ _
  rw[e5];refine hM.upd H.hh H.stands rfl (by unfold mo;rw[H.fs];exact GJ f _ r) ⟨lo,loc.set c.a.toNat v,os,k2,u0,⟨hf.un,?_,hf.hbase,by simpa using hf.hloc,hts.2,hk2,e2,fun i ty x a b d=>?_⟩,hr0,hr1⟩
  ·show h.ws.dropLast.set (f.base+c.a.toNat) v=_
   rw[hw,List.dropLast_concat,List.append_assoc,List.append_assoc,← hf.hbase,List.set_append_right _ _ (by omega),List.set_append_left _ _ (by omega),show lo.length+c.a.toNat - lo.length=c.a.toNat by omega]
  ·have hil:=gB b
   have hfi:=f2 i a;rw[hfl,Ny _ (by omega)] at hfi;rw[List.getElem?_set] at d;by_cases ei:c.a.toNat=i
   ·subst ei
    rw[if_pos rfl,if_pos hla] at d;cases d;rw[hty] at b;cases b;exact hts.1
   ·rw[if_neg ei] at d
    have:¬ i=c.a.toNat:=fun e=>ei e.symm;simp[this] at hfi;exact hf.fl i ty x hfi b d
 | [],hts,_=>exact hts.elim
end
theorem mW {t:Tk}{h:Th}(hh:t.ae[t.hand]?=some h):t.cut=t.set t.hand { h with ws:=h.ws.dropLast }:=by simp[Tk.cut,Tk.words,eD hh]
theorem NA {t:Tk}{h:Th}{f:Wk}{r:List Wk}(hh:t.ae[t.hand]?=some h)(hf:h.fs=f :: r):t.leave=t.set t.hand { h with ws:=h.ws.take f.base,fs:=r }:=by
 simp[Tk.leave,um hh hf,eD hh,hf]
theorem Dm {m:Md}{n:Int}{u:Un}(h:m.units[n.toNat]?=some u):params m n=u.locals.take u.params.toNat:=by simp[params,Dl h]
theorem Lay.params {m:Md}{K:KM}{G:List Nat}{fs:List Wk}{ws bD q:List Int}{ps:List Int}(h:Lay m K G fs ws (ps.reverse++q) bD) :
  ps.length≤ws.length∧Lay m K G fs (ws.take (ws.length - ps.length)) q bD∧TS G ps.reverse (ws.drop (ws.length - ps.length)).reverse:=by
 match fs,h with
 | f :: fs,h =>
  obtain⟨lo,loc,os,k,u,hf,h0,h1⟩:=h;obtain⟨x,y,e,hx,hy⟩:=TS.split _ hf.ts;have hlx:=hx.len;simp at hlx;have hw:ws=(lo++loc++y.reverse)++x.reverse:=by rw[hf.hws,e];simp
  have hwl:ws.length - ps.length=(lo++loc++y.reverse).length:=by rw[hw,List.length_append,List.length_reverse,hlx];omega
  refine⟨by rw[hw];simp;omega,?_,?_⟩
  ·refine⟨lo,loc,y,k,u,⟨hf.un,?_,hf.hbase,hf.hloc,hy,hf.kn,hf.zN,hf.fl⟩,h0,h1⟩
   rw[hwl];rw[hw,List.take_left' rfl]
  ·rw[hwl]
   rw[hw,List.drop_left' rfl,List.reverse_reverse];exact hx
theorem TS.rev {G:List Nat}{st vs:List Int}(h:TS G st.reverse vs.reverse){i:Nat}{ty v:Int}(h1:st[i]?=some ty)(h2:vs[i]?=some v):WT G ty v:=by
 have hl:=h.len;simp at hl;have hi:=gB h1;refine h.get (i:=st.length - 1 - i) ?_ ?_
 ·rw[List.getElem?_reverse (by omega),show st.length - 1 - (st.length - 1 - i)=i by omega];exact h1
 ·rw[List.getElem?_reverse (by omega),show vs.length - 1 - (st.length - 1 - i)=i by omega];exact h2
theorem GN {m:Md}{K:KM}{G:List Nat}{n:Nat}{u:Un}(hK:ib m K)(hu:m.units[n]?=some u)(lo ws ps:List Int)(hp:TS G (u.locals.take u.params.toNat).reverse ps.reverse)(hw:ws=lo++(ps++List.replicate (u.locals.length - u.params.toNat) 0)):∃ loc k,Fr m K G ⟨n,0,lo.length⟩ [] [] lo ws loc [] k u:=by
 obtain⟨k,h0,e0,f0⟩:=(hK.fix n u hu).zero;have hsz:=ko (iF (hK.rt.heads n u hu).1).2.1;have hl:=hp.len;simp at hl;refine⟨ps++List.replicate (u.locals.length - u.params.toNat) 0,k,hu,by rw[hw];simp,rfl,by simp;omega,trivial,h0,e0,fun i ty v a b d=>?_⟩;have hi:=gB b;have NB:=Nz _ (by omega) (f0 i a);rw[List.getElem?_append_left (by omega)] at d;exact hp.rev (i:=i) (by rw[List.getElem?_take,if_pos NB];exact b) d
section
variable {m:Md} {K:KM} {G:List Nat} {t:Tk} {st:List Int} {h:Th} {f:Wk} {r:List Wk} {u:Un} {c:Ins} {k k':Kn}
theorem Xv (hK:ib m K)(H:Here m K G t st h f r u c k k')(hM:Mid m K G t st st)(rv:Int)(ho:c.op=23):Goes m K ((t.goto (f.pc+1)).act m c rv):=by
 have hN:=H.next hM (by omega) (by omega) (by omega) (by omega);have hrg:=H.pos.2.2;unfold ranged at hrg;rw[if_neg (by omega),if_neg (by omega),if_neg (by omega),if_pos ho] at hrg;obtain⟨v,hv,hkd,ha⟩:=kN hrg;have hr:=H.gp;unfold eO speak at hr;simp only[ho] at hr;simp at hr;obtain⟨q,h1,h2⟩:=om hr;rw[Dm hv] at h1;rw[Dl hv] at h2;rw[H.bD] at h1;rw[h1,h2] at hN;unfold Tk.act;rw[if_neg (by omega),if_neg (by omega),if_neg (by omega),if_neg (by omega),if_neg (by omega),if_neg (by omega),if_neg (by omega),if_neg (by omega),if_neg (by omega),if_neg (by omega),if_neg (by omega),if_neg (by omega),if_pos ho];generalize t.goto (f.pc+1)=t1 at hN;obtain⟨h',hh,hs,hL⟩:=hN.hand;have htop:=eD hh;have hun:unit m ((c.a.toNat:Nat):Int)=v:=mf hv;have hsz:=ko (iF (hK.rt.heads _ v hv).1).2.1;obtain⟨p1,p2,p3⟩:=hL.params;have hpl:(v.locals.take v.params.toNat).length=v.params.toNat:=by simp;omega
 rw[hpl] at p1 p2 p3;unfold Tk.call;rw[hun,htop];split
 ·left;simp[Tk.fall]
 ·split
  ·right
   have hlo:(h'.ws.take (h'.ws.length - v.params.toNat)).length=h'.ws.length - v.params.toNat:=by simp
   obtain⟨loc,k1,xn⟩:=GN (G:=G) hK hv (h'.ws.take (h'.ws.length - v.params.toNat)) (h'.ws++List.replicate (v.locals.length - v.params.toNat) 0) (h'.ws.drop (h'.ws.length - v.params.toNat)) p3 (by rw[← List.append_assoc,List.take_append_drop]);rw[hlo] at xn;refine⟨G,[],hN.upd hh hs rfl ?_ ⟨_,loc,[],k1,v,xn,fun e=>?_,fun _=>⟨hkd,q,p2⟩⟩⟩
   ·unfold mo
    cases hfs:h'.fs with
    | nil=>rw[hfs] at hL;exact hL.elim
    | cons a b=>simp[List.getLast?_cons_cons]
   ·rw[e] at hL;exact hL.elim
  ·left;simp[Tk.fall]
theorem Xw (H:Here m K G t st h f r u c k k')(hM:Mid m K G t st st)(rv:Int)(ho:c.op=24):(r≠[]∧f.base<h.ws.length)∧Goes m K ((t.goto (f.pc+1)).act m c rv):=by
 have hr:=H.gp;unfold eO speak at hr;simp only[ho] at hr;simp at hr;obtain⟨s1,h1,hr⟩:=iU hr;obtain⟨hk2,e1⟩:=xm h1;obtain⟨s2,h2,hr⟩:=iU hr;obtain⟨hz,e3⟩:=xm hr;have e2:=uq h2;have hz':s2=[]:=by simpa using hz
 rw[hz',e1,H.bD] at e2;have hkd:u.kind=2:=by simpa using hk2
 obtain⟨lo,loc,os,k0,u0,hf,hr0,hr1⟩:=H.lay;have eu:u0=u:=by have:=hf.un;rw[H.un] at this;cases this;rfl
 subst eu;have hne:r≠[]:=fun e=>(hr0 e).2 hkd;obtain⟨_,st',Xx⟩:=hr1 hne;have hts:=hf.ts;rw[e2] at hts;refine⟨⟨hne,by have:=hts.len;rw[hf.hws,← hf.hbase];simp at this ⊢;omega⟩,?_⟩;match os,hts,hf with
 | [v],hts,hf =>
  have hw:=hf.hws;rw[List.reverse_cons,List.reverse_nil,List.nil_append] at hw;have e6:(t.goto (f.pc+1)).ret=(t.set t.hand { h with ws:=lo,fs:=r }).put v:=by
   have hlast:(t.goto (f.pc+1)).last=v:=by
    unfold Tk.last;rw[H.at',eD (eT H.hh)];simp[hw]
   have e8:List.take f.base h.ws.dropLast=lo:=by rw[hw,List.dropLast_concat,← hf.hbase,List.take_left' rfl]
   unfold Tk.ret;rw[hlast,H.at',mW (eT H.hh)];show ((t.set t.hand _).set t.hand _).leave.put v=_
   rw[set_set,NA (f:={ f with pc:=f.pc+1 }) (r:=r) (eT H.hh) rfl];show ((t.set t.hand _).set t.hand { h with fs:=r,ws:=List.take f.base h.ws.dropLast }).put v=_
   rw[set_set,e8]
  unfold Tk.act;rw[if_neg (by omega),if_neg (by omega),if_neg (by omega),if_neg (by omega),if_neg (by omega),if_neg (by omega),if_neg (by omega),if_neg (by omega),if_neg (by omega),if_neg (by omega),if_neg (by omega),if_neg (by omega),if_neg (by omega),if_pos ho,e6];refine Mid.put (ty:=u0.result) (G:=G) (st:=st') (hM.upd H.hh H.stands rfl ?_ Xx) hts.1;unfold mo;rw[H.fs];cases r with
  | nil=>exact absurd rfl hne
  | cons a b=>simp[List.getLast?_cons_cons]
 | [],hts,_=>exact hts.elim
 | _ :: _ :: _,hts,_=>exact hts.2.elim
end
end Vm
namespace Vm
open Vf
theorem Mid.more {m:Md}{K:KM}{G:List Nat}{t:Tk}{st bD:List Int}(hM:Mid m K G t st bD){n:Nat}{u:Un}(hu:m.units[n]?=some u)(hk:u.kind=3){x:Th}(hx:mo x=some n)(h0:x.stands=0)(hxu:x.up=none)(hL:Lay m K G x.fs x.ws [] []):Mid m K (G++[n]) { t with ae:=t.ae++[x] } st bD:=by
 have hz:0<t.ae.length:=by obtain⟨h,hh,_⟩:=hM.hand;have:=gB hh;omega
 have key:∀ (i:Nat) y,(t.ae++[x])[i]?=some y→(t.ae[i]?=some y)∨(i=t.ae.length∧y=x):=fun i y hy=>by
  by_cases e:i<t.ae.length
  ·rw[List.getElem?_append_left e] at hy;exact .inl hy
  ·have hl:=gB hy
   simp at hl;have e2:i=t.ae.length:=by omega
   subst e2;simp at hy;exact .inr ⟨rfl,hy.symm⟩
 have old:∀ {i:Nat} {y:Th},t.ae[i]?=some y→(t.ae++[x])[i]?=some y:=fun h=>by rw[List.getElem?_append_left (gB h)];exact h
 have GQ:∀ {i g:Nat},G[i]?=some g→(G++[n])[i]?=some g:=fun h=>by rw[List.getElem?_append_left (gB h)];exact h
 refine⟨by simp[hM.len],fun i y hy=>?_,?_,fun i y hy hs=>?_,fun i y hy hs=>?_,fun i y hy hs hi=>?_,fun i i' y y' hy hy' hs hs' hi hi' he=>?_,fun i y k hy hk=>?_⟩
 ·rcases key i y hy with hy | ⟨rfl,rfl⟩
  ·obtain⟨g,v,e1,e2,e3,e4⟩:=hM.gen i y hy
   exact⟨g,v,GQ e1,e2,e3,e4⟩
  ·exact⟨n,u,by rw[← hM.len];simp,hx,hu,by rw[if_neg (by omega)];exact hk⟩
 ·obtain⟨h,hh,hs,hl⟩:=hM.hand
  exact⟨h,old hh,hs,hl.more n⟩
 ·rcases key i y hy with hy | ⟨rfl,rfl⟩
  ·exact (hM.fresh i y hy hs).more n
  ·exact hL.more n
 ·rcases key i y hy with hy | ⟨rfl,rfl⟩
  ·obtain⟨g,st',e1,hl⟩:=hM.held i y hy hs
   exact⟨g,st',GQ e1,hl.more n⟩
  ·omega
 ·rcases key i y hy with hy | ⟨rfl,rfl⟩
  ·obtain⟨j,h',g,st',e1,e2,e3,e4,e5,e6⟩:=hM.up i y hy hs hi
   exact⟨j,h',g,st',e1,old e2,e3,e4,GQ e5,e6.more n⟩
  ·omega
 ·rcases key i y hy with hy | ⟨rfl,rfl⟩
  ·rcases key i' y' hy' with hy' | ⟨rfl,rfl⟩
   ·exact hM.uniq i i' y y' hy hy' hs hs' hi hi' he
   ·omega
  ·omega
 ·show k<(t.ae++[x]).length
  rcases key i y hy with hy | ⟨rfl,rfl⟩
  ·have:=hM.ups _ _ _ hy hk;simp;omega
  ·rw[hxu] at hk;cases hk
theorem Mid.resume {m:Md}{K:KM}{G:List Nat}{t:Tk}{st st2 zO:List Int}{j g:Nat}{x:Th}(hj:t.ae[j]?=some x)(hg:G[j]?=some g)(hM:Mid m K G t st (uk m g :: st))(hs:x.stands≠2)(hL:Lay m K G x.fs x.ws st2 zO) :
  Mid m K G ({ t.set j { x with stands:=2,up:=some t.hand } with hand:=j }:Tk) st2 zO:=by
 obtain⟨h,hh,h2,Xy⟩:=hM.hand;have hne:t.hand≠j:=fun e=>by rw[e,hj] at hh;cases hh;exact hs h2
 have hlt:=gB hj;have Dn:(t.ae.set j { x with stands:=2,up:=some t.hand })[j]?=some { x with stands:=2,up:=some t.hand }:=by simp[hlt]
 have off:∀ {i:Nat},i≠j→(t.ae.set j { x with stands:=2,up:=some t.hand })[i]?=t.ae[i]?:=fun h=>List.getElem?_set_ne (fun e=>h e.symm);have key:∀ (i:Nat) y,(t.ae.set j { x with stands:=2,up:=some t.hand })[i]?=some y→(i=j∧y={ x with stands:=2,up:=some t.hand })∨(i≠j∧t.ae[i]?=some y):=fun i y hy=>by
  by_cases e:i=j
  ·subst e;rw[Dn] at hy;cases hy;exact .inl ⟨rfl,rfl⟩
  ·rw[off e] at hy;exact .inr ⟨e,hy⟩
 refine⟨by simpa[Tk.set] using hM.len,fun i y hy=>?_,⟨_,Dn,rfl,hL⟩,fun i y hy h0=>?_,fun i y hy h0=>?_,fun i y hy h0 hi=>?_,fun i i' y y' hy hy' h0 h0' hi hi' he=>?_,fun i y k hy hk=>?_⟩
 ·rcases key i y hy with⟨rfl,rfl⟩ | ⟨_,hy⟩
  ·exact hM.gen i x hj
  ·exact hM.gen i y hy
 ·rcases key i y hy with⟨rfl,rfl⟩ | ⟨_,hy⟩
  ·exact absurd rfl h0.2.1
  ·exact hM.fresh i y hy h0
 ·rcases key i y hy with⟨rfl,rfl⟩ | ⟨_,hy⟩
  ·cases h0
  ·exact hM.held i y hy h0
 ·rcases key i y hy with⟨rfl,rfl⟩ | ⟨_,hy⟩
  ·exact⟨t.hand,h,g,st,rfl,(off hne).trans hh,h2,hne,hg,Xy⟩
  ·obtain⟨j',h',g',st',e1,e2,e3,e4,e5,e6⟩:=hM.up i y hy h0 hi
   have e7:j'≠j:=fun e=>by rw[e,hj] at e2;cases e2;exact hs e3
   exact⟨j',h',g',st',e1,(off e7).trans e2,e3,e7,e5,e6⟩
 ·rcases key i y hy with⟨rfl,rfl⟩ | ⟨ne,hy1⟩
  ·rcases key i' y' hy' with⟨e,_⟩ | ⟨ne',GR⟩
   ·exact e.symm
   ·obtain⟨j',h',g',st',e1,_,_,e4,_⟩:=hM.up i' y' GR h0' hi'
    rw[e1] at he;cases he;exact absurd rfl e4
  ·rcases key i' y' hy' with⟨_,e⟩ | ⟨ne',GR⟩
   ·obtain⟨j',h',g',st',e1,_,_,e4,_⟩:=hM.up i y hy1 h0 hi
    rw[e1,e] at he;cases he;exact absurd rfl e4
   ·exact hM.uniq i i' y y' hy1 GR h0 h0' hi hi' he
 ·have hl:(t.set j { x with stands:=2,up:=some t.hand }).ae.length=t.ae.length:=by simp[Tk.set]
  show k<(t.set j { x with stands:=2,up:=some t.hand }).ae.length
  rw[hl];rcases key i y hy with⟨rfl,rfl⟩ | ⟨_,hy1⟩
  ·cases hk;exact gB hh
  ·exact hM.ups _ _ _ hy1 hk
theorem Mid.give {m:Md}{K:KM}{G:List Nat}{t:Tk}{st bD:List Int}{h x:Th}{g:Nat}(hM:Mid m K G t st bD)(hh:t.ae[t.hand]?=some h)(hz:t.hand≠0)(hg:G[t.hand]?=some g)(hx:mo x=mo h)(hxu:x.up=h.up)(hs:x.stands=1∧(∃ st',Lay m K G x.fs x.ws st' ((unit m g).takes :: st'))∨x.stands=3) :
  ∃ j st',h.up=some j∧j<t.ae.length∧Mid m K G ({ t.set t.hand x with hand:=j }:Tk) st' (uk m g :: st'):=by
 have h2:h.stands=2:=by obtain⟨h',e,e2,_⟩:=hM.hand;rw[hh] at e;cases e;exact e2
 obtain⟨j,h',g',st',e1,e2,e3,e4,e5,e6⟩:=hM.up t.hand h hh h2 hz;rw[hg] at e5;cases e5;have hlt:=gB hh;have Dn:(t.ae.set t.hand x)[t.hand]?=some x:=by simp[hlt]
 have off:∀ {i:Nat},i≠t.hand→(t.ae.set t.hand x)[i]?=t.ae[i]?:=fun h=>List.getElem?_set_ne (fun e=>h e.symm);have key:∀ (i:Nat) y,(t.ae.set t.hand x)[i]?=some y→(i=t.hand∧y=x)∨(i≠t.hand∧t.ae[i]?=some y):=fun i y hy=>by
  by_cases e:i=t.hand
  ·subst e;rw[Dn] at hy;cases hy;exact .inl ⟨rfl,rfl⟩
  ·rw[off e] at hy;exact .inr ⟨e,hy⟩
 refine⟨j,st',e1,gB e2,⟨by simpa[Tk.set] using hM.len,fun i y hy=>?_,⟨h',(off e4).trans e2,e3,e6⟩,fun i y hy h0=>?_,fun i y hy h0=>?_,fun i y hy h0 hi=>?_,fun i i' y y' hy hy' h0 h0' hi hi' he=>?_,fun i y k hy hk=>?_⟩⟩
 ·rcases key i y hy with⟨rfl,rfl⟩ | ⟨_,hy⟩
  ·rw[hx];exact hM.gen _ h hh
  ·exact hM.gen i y hy
 ·rcases key i y hy with⟨rfl,rfl⟩ | ⟨_,hy⟩
  ·rcases hs with⟨hs,_⟩ | hs<;>omega
  ·exact hM.fresh i y hy h0
 ·rcases key i y hy with⟨rfl,rfl⟩ | ⟨_,hy⟩
  ·rcases hs with⟨hs,st2,hl⟩ | hs
   ·exact⟨g,st2,hg,hl⟩
   ·omega
  ·exact hM.held i y hy h0
 ·rcases key i y hy with⟨rfl,rfl⟩ | ⟨ne,hy⟩
  ·rcases hs with⟨hs,_⟩ | hs<;>omega
  ·obtain⟨j',h'',g',Xz,d1,d2,d3,d4,d5,d6⟩:=hM.up i y hy h0 hi
   refine⟨j',h'',g',Xz,d1,(off d4).trans d2,d3,fun e=>?_,d5,d6⟩;have e':j'=j:=e;rw[e'] at d1;exact ne (hM.uniq i t.hand y h hy hh h0 h2 hi hz (d1.trans e1.symm))
 ·rcases key i y hy with⟨rfl,rfl⟩ | ⟨_,hy⟩
  ·rcases hs with⟨hs,_⟩ | hs<;>omega
  ·rcases key i' y' hy' with⟨rfl,rfl⟩ | ⟨_,hy'⟩
   ·rcases hs with⟨hs,_⟩ | hs<;>omega
   ·exact hM.uniq i i' y y' hy hy' h0 h0' hi hi' he
 ·have hl:(t.set t.hand x).ae.length=t.ae.length:=by simp[Tk.set]
  show k<(t.set t.hand x).ae.length
  rw[hl];rcases key i y hy with⟨rfl,rfl⟩ | ⟨_,hy⟩
  ·rw[hxu] at hk;exact hM.ups _ _ _ hh hk
  ·exact hM.ups _ _ _ hy hk
section
variable {m:Md} {K:KM} {G:List Nat} {t:Tk} {st:List Int} {h:Th} {f:Wk} {r:List Wk} {u:Un} {c:Ins} {k k':Kn}
theorem XA (hK:ib m K)(H:Here m K G t st h f r u c k k')(hM:Mid m K G t st st)(rv:Int)(ho:c.op=29):Goes m K ((t.goto (f.pc+1)).act m c rv):=by
 have hN:=H.next hM (by omega) (by omega) (by omega) (by omega);have hrg:=H.pos.2.2;unfold ranged at hrg;rw[if_neg (by omega),if_neg (by omega),if_neg (by omega),if_neg (by omega),if_pos ho] at hrg;obtain⟨v,hv,hkd,ha⟩:=kN hrg;have hr:=H.gp;unfold eO speak at hr;simp only[ho] at hr;simp at hr;obtain⟨q,h1,h2⟩:=om hr;rw[Dm hv] at h1;rw[H.bD] at h1;rw[h1,h2] at hN;unfold Tk.act;rw[if_neg (by omega),if_neg (by omega),if_neg (by omega),if_neg (by omega),if_neg (by omega),if_neg (by omega),if_neg (by omega),if_neg (by omega),if_neg (by omega),if_neg (by omega),if_neg (by omega),if_neg (by omega),if_neg (by omega),if_neg (by omega)];rw[if_pos ho];generalize t.goto (f.pc+1)=t1 at hN;obtain⟨h',hh,hs,hL⟩:=hN.hand;have htop:=eD hh;have hun:unit m ((c.a.toNat:Nat):Int)=v:=mf hv;have hsz:=ko (iF (hK.rt.heads _ v hv).1).2.1;obtain⟨p1,p2,p3⟩:=hL.params;have hpl:(v.locals.take v.params.toNat).length=v.params.toNat:=by simp;omega
 rw[hpl] at p1 p2 p3;have e1:t1.less v.params.toNat=t1.set t1.hand { h' with ws:=h'.ws.take (h'.ws.length - v.params.toNat) }:=by simp[Tk.less,Tk.words,htop]
 have hM2:=hN.upd hh (h2:={ h' with ws:=h'.ws.take (h'.ws.length - v.params.toNat) }) hs rfl rfl p2;rw[← e1] at hM2;obtain⟨loc,k1,xn⟩:=GN (G:=G) hK hv [] (h'.ws.drop (h'.ws.length - v.params.toNat)++List.replicate (v.locals.length - v.params.toNat) 0) (h'.ws.drop (h'.ws.length - v.params.toNat)) p3 rfl;have mX:=hM2.more hv hkd (x:=gQ v c.a.toNat (h'.ws.drop (h'.ws.length - v.params.toNat))) rfl rfl rfl ⟨[],loc,[],k1,v,xn,fun _=>⟨rfl,by omega⟩,fun e=>absurd rfl e⟩;unfold Tk.start;rw[hun,htop];simp only;split
 ·left;simp[Tk.fall]
 ·refine (mX.congr (t':=({ t1.less v.params.toNat with ae:=(t1.less v.params.toNat).ae++[gQ v c.a.toNat (h'.ws.drop (h'.ws.length - v.params.toNat))] }:Tk).note ⟨6,0,c.a.toNat⟩) rfl rfl).put ⟨fun e=>by omega,fun _=>⟨t1.ae.length,c.a.toNat,rfl,by have:=gB hh;omega,?_,by omega⟩⟩
  rw[← hN.len];simp
theorem XB (H:Here m K G t st h f r u c k k')(hM:Mid m K G t st st)(rv:Int)(ho:c.op=30):(0≤(t.goto (f.pc+1)).cut.last∧(t.goto (f.pc+1)).cut.last.toNat<t.ae.length)∧Goes m K ((t.goto (f.pc+1)).act m c rv):=by
 have hN:=H.next hM (by omega) (by omega) (by omega) (by omega);have hr:=H.gp;unfold eO speak at hr;simp only[ho] at hr;simp at hr;unfold Vf.resume at hr;obtain⟨p,h1,hr⟩:=iU hr;obtain⟨g,h2,hr⟩:=iU hr;obtain⟨s,h3,h4⟩:=iU hr;obtain⟨h5,h6⟩:=xm h3;have e1:=Dk h1;obtain⟨e2,GU⟩:=GK h2;have e3:=uo h4;rw[h6] at e3;rw[H.bD] at e1;rw[e1,e2,e3] at hN;have hlen:(t.goto (f.pc+1)).ae.length=t.ae.length:=by rw[H.at'];simp[Tk.set]
 unfold Tk.act;rw[if_neg (by omega),if_neg (by omega),if_neg (by omega),if_neg (by omega),if_neg (by omega),if_neg (by omega),if_neg (by omega),if_neg (by omega),if_neg (by omega),if_neg (by omega),if_neg (by omega),if_neg (by omega),if_neg (by omega),if_neg (by omega)];rw[if_neg (by omega),if_pos ho];rw[← hlen];generalize t.goto (f.pc+1)=t1 at hN;obtain⟨hM1,hw1⟩:=hN.cut;obtain⟨hM2,hw2⟩:=hM1.cut;obtain⟨j,gu,ej,hj0,uu,hgu⟩:=hw2.2 GU;have hjl:j<t1.ae.length:=by have:=gB uu;rw[hN.len] at this;exact this
 refine⟨by rw[ej];exact⟨by omega,by omega⟩,?_⟩;unfold Tk.resume;simp only[ej,Int.toNat_natCast];have XC:j<t1.cut.cut.ae.length:=by rw[← hM2.len];exact gB uu
 obtain⟨x,hx⟩:∃ x,t1.cut.cut.ae[j]?=some x:=⟨_,List.getElem?_eq_getElem XC⟩;have XD:t1.cut.cut.th j=x:=by simp[Tk.th,hx]
 rw[XD];have XE:(unit m (g.1 - 10)).result=uk m gu:=by unfold uk;rw[← hgu]
 rw[XE] at hM2;split
 ·left;simp[Tk.fall]
 ·split
  ·left;simp[Tk.fall]
  ·split
   ·rename_i XF
    obtain⟨g2,st2,NC,hL2⟩:=hM2.held j x hx XF;rw[uu] at NC;cases NC;refine (Mid.resume hx uu hM2 (by omega) hL2).put ?_;have:p.1=(unit m (g.1 - 10)).takes:=by simpa using h5
    rw[hgu,← this];exact hw1
   ·rename_i n3 n2 n1
    exact .mid (Mid.resume hx uu hM2 n2 (hM2.fresh j x hx ⟨n1,n2,n3⟩)) rfl
theorem XG (H:Here m K G t st h f r u c k k')(hM:Mid m K G t st st)(hk:u.kind=3):t.hand≠0∧r=[]∧G[t.hand]?=some f.u:=by
 obtain⟨lo,loc,os,k0,u0,hf,hr0,hr1⟩:=H.lay;have eu:u0=u:=by have:=hf.un;rw[H.un] at this;cases this;rfl
 subst eu;have hr:r=[]:=Classical.byContradiction fun hne=>by have:=(hr1 hne).1;omega
 obtain⟨g,v,e1,e2,e3,e4⟩:=hM.gen _ _ H.hh;unfold mo at e2;rw[H.fs,hr] at e2;simp at e2;subst e2;rw[H.un] at e3;cases e3;refine⟨fun e=>?_,hr,e1⟩;rw[if_pos e] at e4;omega
theorem GV {t:Tk}{h:Th}(hh:t.ae[t.hand]?=some h){j:Nat}(hj:h.up=some j)(s:Nat)(v:Int):t.give s v=({ t.set t.hand { h with stands:=s } with hand:=j }:Tk).put v:=by
 simp[Tk.give,eD hh,hj]
theorem XH (H:Here m K G t st h f r u c k k')(hM:Mid m K G t st st)(rv:Int)(ho:c.op=31):(∃ j,h.up=some j∧j<t.ae.length)∧Goes m K ((t.goto (f.pc+1)).act m c rv):=by
 have hN:=H.next hM (by omega) (by omega) (by omega) (by omega);have hr:=H.gp;unfold eO speak at hr;simp only[ho] at hr;simp at hr;obtain⟨s,h1,hr⟩:=iU hr;obtain⟨hk3,h6⟩:=xm h1;obtain⟨q,e1,e2⟩:=om hr;rw[h6,H.bD] at e1;rw[e1,e2] at hN;simp at hN;obtain⟨hz,hrn,hG⟩:=XG H hM (by simpa using hk3);obtain⟨hM1,hw1⟩:=hN.cut;have et:(t.goto (f.pc+1)).cut=t.set t.hand { h with fs:={ f with pc:=f.pc+1 } :: r,ws:=h.ws.dropLast }:=by
  rw[H.at',mW (eT H.hh)];exact set_set t t.hand _ _
 have hat:(t.goto (f.pc+1)).cut.ae[(t.goto (f.pc+1)).cut.hand]?=some { h with fs:={ f with pc:=f.pc+1 } :: r,ws:=h.ws.dropLast }:=by rw[et];exact eT H.hh
 have zP:(t.goto (f.pc+1)).cut.hand=t.hand:=by rw[et];rfl
 have hlen:(t.goto (f.pc+1)).cut.ae.length=t.ae.length:=by rw[et];simp[Tk.set]
 obtain⟨h'',ND,_,XI⟩:=hM1.hand;rw[hat] at ND;cases ND;have eu:unit m f.u=u:=mf H.un;obtain⟨j,st',ej,hjl,hM2⟩:=hM1.give hat (by rw[zP];exact hz) (by rw[zP];exact hG) (x:={ h with fs:={ f with pc:=f.pc+1 } :: r,ws:=h.ws.dropLast,stands:=1 }) rfl rfl (.inl ⟨rfl,q,by rw[eu];exact XI⟩);refine⟨⟨j,ej,by rw[← hlen];exact hjl⟩,?_⟩;unfold Tk.act;rw[if_neg (by omega),if_neg (by omega),if_neg (by omega),if_neg (by omega),if_neg (by omega),if_neg (by omega),if_neg (by omega),if_neg (by omega),if_neg (by omega),if_neg (by omega),if_neg (by omega),if_neg (by omega),if_neg (by omega),if_neg (by omega)];rw[if_neg (by omega),if_neg (by omega),if_pos ho,GV hat ej];refine hM2.put ?_;unfold uk;rw[eu];exact hw1
theorem XJ (H:Here m K G t st h f r u c k k')(hM:Mid m K G t st st)(rv:Int)(ho:c.op=25):(t.hand≠0→∃ j,h.up=some j∧j<t.ae.length)∧Goes m K ((t.goto (f.pc+1)).act m c rv):=by
 have hr:=H.gp;unfold eO speak at hr;simp only[ho] at hr;simp at hr;obtain⟨s,h1,hr⟩:=iU hr;obtain⟨hk3,h6⟩:=xm h1;have hk2:u.kind≠2:=by simpa using hk3
 have et:=H.at' (f.pc+1);unfold Tk.act;rw[if_neg (by omega),if_neg (by omega),if_neg (by omega),if_neg (by omega),if_neg (by omega),if_neg (by omega),if_neg (by omega),if_neg (by omega),if_neg (by omega),if_neg (by omega),if_neg (by omega),if_neg (by omega),if_neg (by omega),if_neg (by omega)];rw[if_neg (by omega),if_neg (by omega),if_neg (by omega),if_pos ho];unfold Tk.fin;have zP:(t.goto (f.pc+1)).hand=t.hand:=by rw[et];rfl
 rw[zP];by_cases hz:t.hand=0
 ·rw[if_pos hz]
  exact⟨fun e=>absurd hz e,.inl (by simp[Tk.note])⟩
 ·rw[if_neg hz]
  obtain⟨lo,loc,os,k0,u0,hf,hr0,hr1⟩:=H.lay;have XK:u0=u:=by have:=hf.un;rw[H.un] at this;cases this;rfl
  subst XK;have hrn:r=[]:=Classical.byContradiction fun hne=>hk2 (hr1 hne).1;obtain⟨g,v,e1,e2,e3,e4⟩:=hM.gen _ _ H.hh;have e2':=e2;unfold mo at e2';rw[H.fs,hrn] at e2';simp at e2';subst e2';rw[H.un] at e3;cases e3;obtain⟨j,st',ej,hjl,hM2⟩:=hM.give H.hh hz e1 (x:={ h with fs:={ f with pc:=f.pc+1 } :: r,stands:=3 }) (by unfold mo;rw[H.fs];exact GJ f _ r) rfl (.inr rfl);refine⟨fun _=>⟨j,ej,hjl⟩,?_⟩;have hat:(t.goto (f.pc+1)).ae[(t.goto (f.pc+1)).hand]?=some { h with fs:={ f with pc:=f.pc+1 } :: r }:=by rw[et];exact eT H.hh
  rw[GV hat ej];have e9:({ (t.goto (f.pc+1)).set (t.goto (f.pc+1)).hand { h with fs:={ f with pc:=f.pc+1 } :: r,stands:=3 } with hand:=j }:Tk)={ t.set t.hand { h with fs:={ f with pc:=f.pc+1 } :: r,stands:=3 } with hand:=j }:=by
   rw[et];simp[Tk.set]
  rw[e9];refine hM2.put ?_;unfold uk;rw[mf H.un];refine Xo _ ?_;have:=(iF H.head).2.2;unfold typed heads at this;simp at this;rw[if_neg hz] at e4;rcases this.1.1 with h | h
  ·omega
  ·exact h
end
theorem NF {m:Md}{K:KM}{G:List Nat}{t:Tk}{st:List Int}(hK:ib m K)(hM:Mid m K G t st st)(rv:Int)(jm:(t.ins m).op=27→WT G (jI m (t.ins m).a) rv):Safe m t∧Goes m K (t.step m rv):=by
 obtain⟨h,f,r,u,c,k,k',H⟩:=hM.here hK;rw[H.ins] at jm;have hpos:=H.pos;have htop:=eD H.hh;have e1:t.step m rv=(t.goto (f.pc+1)).act m c rv:=by unfold Tk.step;rw[H.frame,H.ins]
 have elast:(t.goto (f.pc+1)).last=t.last:=by unfold Tk.last;rw[H.at',eD (eT H.hh),htop]
 have XL:(t.goto (f.pc+1)).cut.last=t.cut.last:=by
  unfold Tk.last;rw[H.at',mW (eT H.hh),mW H.hh,eD (eT H.hh),eD (eT (eT H.hh))]
 rw[e1];have XM:c.op=23∨c.op=29→(unit m c.a).params≤h.ws.length:=fun ho=>by
  have hrg:=hpos.2.2;have hr:=H.gp;obtain⟨v,hv⟩:∃ v,m.units[c.a.toNat]?=some v:=by
   unfold ranged at hrg;rcases ho with ho | ho
   ·rw[if_neg (by omega),if_neg (by omega),if_neg (by omega),if_pos ho] at hrg
    obtain⟨v,hv,_⟩:=kN hrg;exact⟨v,hv⟩
   ·rw[if_neg (by omega),if_neg (by omega),if_neg (by omega),if_neg (by omega),if_pos ho] at hrg
    obtain⟨v,hv,_⟩:=kN hrg;exact⟨v,hv⟩
  have hq:∃ q,k.st=(v.locals.take v.params.toNat).reverse++q:=by
   unfold eO speak at hr;rcases ho with ho | ho
   ·simp only[ho] at hr
    simp at hr;obtain⟨q,h1,_⟩:=om hr;rw[Dm hv] at h1;exact⟨q,h1⟩
   ·simp only[ho] at hr
    simp at hr;obtain⟨q,h1,_⟩:=om hr;rw[Dm hv] at h1;exact⟨q,h1⟩
  obtain⟨q,hq⟩:=hq;have hL:=H.lay;rw[← H.bD,hq] at hL;have hsz:=ko (iF (hK.rt.heads _ v hv).1).2.1;have h1:=hL.params.1;rw[Dl hv];simp at h1;omega
 have hbase:f.base≤h.ws.length:=by
  obtain⟨lo,loc,os,k0,u0,hf,_⟩:=H.lay;rw[hf.hws,← hf.hbase];simp
 have hloc:c.op=3∨c.op=4→0≤c.a∧c.a<200:=fun ho=>by
  have h1:=H.local ho;have hsz:=ko (iF H.head).2.1;omega
 have safe:(c.op=24→r≠[]∧f.base<h.ws.length)→(c.op=30→0≤t.cut.last∧t.cut.last.toNat<t.ae.length)→(c.op=32→0≤t.last∧t.last.toNat<t.ae.length)→(c.op=31∨c.op=25∧t.hand≠0→∃ j,h.up=some j∧j<t.ae.length)→Safe m t:=fun a b d e =>
  ⟨gB H.hh,f,r,by rw[htop];exact H.fs,u,c,H.un,H.code,fun ho=>by rw[htop];exact XM ho,by rw[htop];exact hbase,hloc,by rw[htop];exact a,b,d,by rw[htop];exact e,fun i h' k hh hk=>hM.ups i h' k hh hk⟩
 by_cases ho:c.op=32
 ·have hN:=H.next hM (by omega) (by omega) (by omega) (by omega)
  have hr:=H.gp;unfold eO speak at hr;simp only[ho] at hr;simp at hr;obtain⟨p,h1,h2⟩:=iU hr;obtain⟨e2,GU⟩:=GK h1;rw[H.bD] at e2;rw[e2] at hN;obtain⟨j,gu,ej,hj0,uu,hgu⟩:=hN.cut.2.2 GU;rw[elast] at ej;have hjl:j<t.ae.length:=by have:=gB uu;rw[hM.len] at this;exact this
  exact⟨safe (fun e=>by omega) (fun e=>by omega) (fun _=>by rw[ej];exact⟨by omega,by omega⟩) (fun e=>by omega),Nw H hM rv jm (by omega)⟩
 ·by_cases iV:c.op=24
  ·obtain⟨a,b⟩:=Xw H hM rv iV
   exact⟨safe (fun _=>a) (fun e=>by omega) (fun e=>by omega) (fun e=>by omega),b⟩
  ·by_cases mY:c.op=30
   ·obtain⟨a,b⟩:=XB H hM rv mY
    rw[XL] at a;exact⟨safe (fun e=>by omega) (fun _=>a) (fun e=>by omega) (fun e=>by omega),b⟩
   ·by_cases h31:c.op=31
    ·obtain⟨a,b⟩:=XH H hM rv h31
     exact⟨safe (fun e=>by omega) (fun e=>by omega) (fun e=>by omega) (fun _=>a),b⟩
    ·by_cases mZ:c.op=25
     ·obtain⟨a,b⟩:=XJ H hM rv mZ
      exact⟨safe (fun e=>by omega) (fun e=>by omega) (fun e=>by omega) (fun e=>a (by omega)),b⟩
     ·refine⟨safe (fun e=>by omega) (fun e=>by omega) (fun e=>by omega) (fun e=>by omega),?_⟩
      by_cases h3:c.op=3
      ·exact Xt H hM rv h3
      ·by_cases h4:c.op=4
       ·exact Xu H hM rv h4
       ·by_cases h21:c.op=21∨c.op=22
        ·exact Xp H hM rv h21
        ·by_cases h23:c.op=23
         ·exact Xv hK H hM rv h23
         ·by_cases gU:c.op=29
          ·exact XA hK H hM rv gU
          ·exact Nw H hM rv jm (by omega)
theorem XN {m:Md}{K:KM}(hK:ib m K){n:Nat}{u:Un}(hu:m.units[n]?=some u)(hk:u.kind=4):∃ G,Mid m K G (zw u n) [] []:=by
 have hsz:=ko (iF (hK.rt.heads _ u hu).1).2.1;have hp:u.params=0:=by
  have:=(iF (hK.rt.heads _ u hu).1).2.1;unfold sized at this;simp[hk] at this;omega
 have hp0:u.params.toNat=0:=by omega
 obtain⟨loc,k1,xn⟩:=GN (G:=[n]) hK hu [] (List.replicate (u.locals.length - u.params.toNat) 0) [] (by rw[hp0];trivial) rfl;refine⟨[n],rfl,fun i h hh=>?_,⟨_,rfl,rfl,⟨[],loc,[],k1,u,xn,fun _=>⟨rfl,by omega⟩,fun e=>absurd rfl e⟩⟩,fun i h hh hs=>?_,fun i h hh hs=>?_,fun i h hh hs hi=>?_,fun i i' h h' hh hh' _ _ hi _ _=>?_,fun i h k hh hk=>?_⟩
 ·match i,hh with
  | 0,hh=>cases hh;exact⟨n,u,rfl,rfl,hu,hk⟩
 ·match i,hh with
  | 0,hh=>cases hh;exact absurd rfl hs.2.1
 ·match i,hh with
  | 0,hh=>cases hh;cases hs
 ·match i,hh with
  | 0,hh=>exact absurd rfl hi
 ·match i,hh with
  | 0,hh=>exact absurd rfl hi
 ·match i,hh with
  | 0,hh=>cases hh;cases hk
end Vm
end Go.Proofs.YtfcpglhpolpdcaaGreatDoor
namespace Go.Proofs.YtfcpglhpolpdcaaGreatDoor.Vw
open Go.RowKit Vf Vm
section
variable {c:Cx} {L:av} {o i:Nat} {P:Nat→Nat} {w:World} {h:Th} {S g r:Nat} {vU:Value}
theorem aD.NG (H:aD c L o i P w h S g r vU)(hL:bF c.B L w){w1:World}{h':Th}(hb:∀ b,b≠P i→w1.heap[b]?=w.heap[b]?)(hz:w1.heap.size=w.heap.size)(hos:w1.os=w.os∧w1.tape=w.tape∧w1.output=w.output)(hblk:w1.heap[P i]?=some (kr S vU h'.stands (nZ P h'.up)))(e1:h'.ws=h.ws)(e2:h'.fs=h.fs):fq c L o i P w w1 h' :=
 ⟨L,S,g,r,vU,⟨hblk,by rw[e1];exact SK.far H.stack (hb _ H.Gx) (hb _ H.Gy),by rw[e2];exact bA H.row (fun b hb'=>hb b (H.uh hb')),by rw[e2];exact H.few,H.l0,H.l1,H.l2,H.l3⟩,.refl _ _ _ _,hL.on (by omega),hos.1,hos.2.1,hos.2.2,by omega,fun b _ hn=>hb b (fun e=>hn (by unfold dn;rw[e,H.l0];exact⟨rfl,rfl,rfl⟩))⟩
theorem aD.stood (H:aD c L o i P w h S g r vU)(hL:bF c.B L w)(n:Nat):fq c L o i P w (w.setCell ⟨P i,2,none⟩ (.int .i64 n)) { h with stands:=n } :=
 H.NG hL (fun b hb=>Below.heap_setCell _ _ _ _ hb) (by simp[World.setCell]) ⟨rfl,rfl,rfl⟩ (M0 H.blk) rfl rfl
theorem aD.NH (H:aD c L o i P w h S g r vU)(hL:bF c.B L w)(n j:Nat):fq c L o i P w ((w.setCell ⟨P i,2,none⟩ (.int .i64 n)).setCell ⟨P i,3,none⟩ (.pointer (some ⟨P j,0,none⟩))) { h with stands:=n,up:=some j } :=
 H.NG hL (fun b hb=>(Below.heap_setCell _ ⟨P i,3,none⟩ _ _ hb).trans (Below.heap_setCell _ ⟨P i,2,none⟩ _ _ hb)) (by simp[World.setCell]) ⟨rfl,rfl,rfl⟩ (WS (M0 H.blk)) rfl rfl
end
theorem XO {c:Cx}{vB ev vR vO:Value}{w:World}{T hp hp' ov tr:Nat}(h:w.heap[T]?=some (fG c vB ev vR hp vO ov tr)):(w.setCell ⟨T,4,none⟩ (.pointer (some ⟨hp',0,none⟩))).heap[T]?=some (fG c vB ev vR hp' vO ov tr):=by
 simp only[World.setCell,Array.getElem?_modify,if_true,h,Option.map_some];rfl
theorem XP {c:Cx}{vB ev vR vO:Value}{w:World}{T hp n ov tr:Nat}(h:w.heap[T]?=some (fG c vB ev vR hp vO ov tr)):(w.setCell ⟨T,6,none⟩ (.int .i64 n)).heap[T]?=some (fG c vB ev vR hp vO n tr):=by
 simp only[World.setCell,Array.getElem?_modify,if_true,h,Option.map_some];rfl
section
variable {β:Type} {E:Env β} {c:Cx} {vB ev:Value} {o T:Nat} {L:av} {P:Nat→Nat} {w:World} {t:Tk} {x:β} {vR vO:Value}
theorem St.handed (H:St E c vB ev o T L P w t x vR vO){j:Nat}(hj:j<t.ae.length):St E c vB ev o T L P (w.setCell ⟨T,4,none⟩ (.pointer (some ⟨P j,0,none⟩))) { t with hand:=j } x vR vO∧aQ (WB L o) w (w.setCell ⟨T,4,none⟩ (.pointer (some ⟨P j,0,none⟩))) :=
 H.own (t':={ t with hand:=j }) (fun b hb=>Below.heap_setCell _ _ _ _ hb) (by simp[World.setCell]) ⟨rfl,rfl,rfl⟩ (XO H.tk.blk) rfl rfl rfl hj
end
section
variable {β:Type} (E:Env β) (c:Cx) (vB:Value) (N:Nat) (af:Array Value) (hN:Hid (jl E c N af)) (o T:Nat) (L:av) (P:Nat→Nat) (w:World) (t:Tk) (x:β) (vR vO:Value) (H:Hid (St E c vB (.func (.func N) #[] af) o T L P w t x vR vO)) (bI:Hid (t.log.length≤2000001))
include hN H bI
theorem XQ (f:Wk)(r:List Wk)(hf:Hid (t.top.fs=f :: r))(hb:Hid (f.base<t.top.ws.length)) :
  Calls Tryz.prog 186 #[.pointer (some ⟨T,0,none⟩)] w fun e w'=>e=.returned (.tuple #[])∧aS E c vB (.func (.func N) #[] af) o T L w w' t.ret x:=by
 have d0:=cO H.out;go_enter Tryz.func186,Tryz.ntmps186
 go_wp2_with fail
 refine (taken E c vB (.func (.func N) #[] af) o T L P _ t x vR vO H).mono ?_;rintro e w1 ⟨rfl,L1,s1,q1,k1⟩;have d1:=cO s1;have S1:=Sb.hide s1;have E1:=Sb.hide q1;have C1:=Sb.hide k1;clear s1 q1 k1;obtain⟨h,S,g,rr,vU,hh,hT,htop⟩:=S1.out.at
 have GX:t.cut.top={ t.top with ws:=t.top.ws.dropLast }:=by
  obtain⟨h0,_,_,_,_,hh0,_,ht0⟩:=H.out.at
  rw[ht0,mW hh0,eD (eT hh0)]
 have HF:Hid (h.fs=f :: r):=by unfold Hid;rw[← htop,GX];exact hf.out
 have hbl:f.base≤h.ws.length:=by rw[← htop,GX];have:=hb.out;simp;omega
 have HH:=Sb.hide hh;have HT:=Sb.hide hT;have kV:=Sb.hide htop;clear hh hT htop GX;go_wp2_with fail
 refine (WV c L1 o t.cut.hand P _ h S g rr vU HT (Sb.hide S1.out.ok) f r HF hbl _ (Sb.hide rfl)).mono ?_;rintro e w2 ⟨rfl,hp⟩;obtain⟨L2,s2,q2,k2⟩:=S1.out.thread HH.out hp;have s2':St E c vB (.func (.func N) #[] af) o T L2 P w2 t.cut.leave x vR vO:=by rw[NA HH.out HF.out];exact s2
 have S2:=Sb.hide s2';have E2:=Sb.hide q2;have C2:=Sb.hide k2;clear hp s2 s2' q2 k2;go_wp2_with fail
 refine (gJ E c vB N af hN o T L2 P _ t.cut.leave x vR vO S2 (Sb.hide (by exact bI.out)) t.last).mono ?_;rintro e w3 ⟨rfl,hW⟩;have HW:=Sb.hide ((hW.trans E2.out C2.out).trans E1.out C1.out);clear hW;go_wp2
 go_end0
 exact⟨rfl,HW.out⟩
theorem NI (n:Nat)(v:Int)(j:Nat)(hj:Hid (t.top.up=some j∧j<t.ae.length)) :
  Calls Tryz.prog 189 #[.pointer (some ⟨T,0,none⟩),.int .i64 n,.int .i64 v] w fun e w'=>e=.returned (.tuple #[])∧aS E c vB (.func (.func N) #[] af) o T L w w' (t.give n v) x:=by
 have d0:=cO H.out;obtain⟨h,S,g,rr,vU,hh,hT,htop⟩:=H.out.at
 obtain⟨c0,c1,c2,c3⟩:=hT.cells;have fr:=hT.free;have hup:h.up=some j:=by rw[← htop];exact hj.out.1
 rw[hup] at c3;unfold nZ at c3;obtain⟨L1,s1,q1,k1⟩:=H.out.thread hh (hT.stood H.out.ok n);have hjl:j<(t.set t.hand { h with stands:=n }).ae.length:=by simp[Tk.set];exact hj.out.2
 obtain⟨s2,k2⟩:=s1.handed hjl;have zQ:¬ T=P t.hand:=fun e=>by have a:=H.out.tk.lT;have b:=hT.l0;rw[e,b] at a;cases a
 have NJ:¬ P t.hand=T:=fun e=>zQ e.symm;have NK:=(bS H.out.tk.blk).2.2.2.2.2.2.2.2;have S2:=Sb.hide s2;have E1:=Sb.hide q1;have C1:=Sb.hide k1;have C2:=Sb.hide k2;have HG:Hid (t.give n v=({ t.set t.hand { h with stands:=n } with hand:=j }:Tk).put v):=by unfold Hid;exact GV hh hup n v
 clear s1 q1 k1 s2 k2 hh hT htop hup hjl;go_enter Tryz.func189,Tryz.ntmps189
 go_wp2_with fail
 refine (gJ E c vB N af hN o T L1 P _ _ x vR vO S2 (Sb.hide (by exact bI.out)) v).mono ?_;rintro e w3 ⟨rfl,hW⟩;have HW:=Sb.hide ((hW.trans (.refl _ _ _) C2.out).trans E1.out C1.out);clear hW;go_wp2
 go_end0
 refine⟨rfl,?_⟩;rw[HG.out];exact HW.out
end
end Go.Proofs.YtfcpglhpolpdcaaGreatDoor.Vw
