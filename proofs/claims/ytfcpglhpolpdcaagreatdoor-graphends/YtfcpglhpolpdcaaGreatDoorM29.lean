/- What an instruction does,as it is heard. -/
import Derived.Test.YtfcpglhpolpdcaaGreatDoorM11
import Derived.Test.YtfcpglhpolpdcaaGreatDoorM17
import Derived.Test.YtfcpglhpolpdcaaGreatDoorM28
import Derived.Test.YtfcpglhpolpdcaaGreatDoorM18
namespace Go.Proofs.YtfcpglhpolpdcaaGreatDoor
namespace Vm
open Vf
def fM (t t':Tk)(g:List Ev):Prop:=t'.out=t.out∧((t'.log=t.log++g∧t'.over=t.over∧t'.trap=t.trap)∨∃ n:Nat,t'.log=t.log++g++[⟨5,0,n⟩]∧t'.over=5∧t'.trap=n)
theorem fM.quiet {t t':Tk}(h1:t'.out=t.out)(h2:t'.log=t.log)(h3:t'.over=t.over)(h4:t'.trap=t.trap):fM t t' []:=⟨h1,.inl ⟨by rw[h2,List.append_nil],h3,h4⟩⟩
theorem uY (t:Tk)(n:Nat):fM t (t.fall n) []:=⟨rfl,.inr ⟨n,by simp[Tk.fall],rfl,rfl⟩⟩
theorem put_did (t:Tk)(v:Int):fM t (t.put v) []:=by
 unfold Tk.put;split
 ·exact uY t 4
 ·exact .quiet rfl rfl rfl rfl
theorem fM.of {t s s':Tk}{g:List Ev}(h:fM s s' g)(h1:s.out=t.out)(h2:s.log=t.log)(h3:s.over=t.over)(h4:s.trap=t.trap):fM t s' g:=by
 unfold fM at h ⊢;rw[h1,h2,h3,h4] at h;exact h
theorem abN (m:Md)(t:Tk)(n:Nat):fM t (t.call m n) []:=by
 unfold Tk.call;split
 ·exact uY t 4
 ·split
  ·exact .quiet rfl rfl rfl rfl
  ·exact (uY _ 4).of rfl rfl rfl rfl
theorem abO (m:Md)(t:Tk)(n:Nat):∃ g,(g=[]∨g=[⟨6,0,n⟩])∧fM t (t.start m n) g:=by
 unfold Tk.start;dsimp only;split
 ·exact⟨[],.inl rfl,(uY _ 5).of rfl rfl rfl rfl⟩
 ·refine⟨_,.inr rfl,?_⟩
  obtain⟨h1,h2⟩:=put_did (({ (t.less (unit m n).params.toNat) with ae:=(t.less (unit m n).params.toNat).ae++[gQ (unit m n) n (t.top.ws.drop (t.top.ws.length - (unit m n).params.toNat))] }:Tk).note ⟨6,0,n⟩) t.ae.length;refine⟨h1,?_⟩;rw[List.append_nil] at h2;exact h2
theorem Qv (t:Tk)(s:Nat)(v:Int):fM t (t.give s v) []:=by
 unfold Tk.give;exact (put_did _ _).of rfl rfl rfl rfl
theorem abP (t:Tk):fM t t.fin []∨(t.fin.out=t.out∧t.fin.log=t.log++[⟨4,0,0⟩]∧t.fin.over=4∧t.fin.trap=t.trap):=by
 unfold Tk.fin;split
 ·exact .inr ⟨rfl,rfl,rfl,rfl⟩
 ·exact .inl (Qv _ _ _)
theorem abQ (t:Tk):fM t t.resume []:=by
 unfold Tk.resume;dsimp only;split
 ·exact (uY _ 2).of rfl rfl rfl rfl
 ·split
  ·exact (uY _ 3).of rfl rfl rfl rfl
  ·split
   ·exact (put_did _ _).of rfl rfl rfl rfl
   ·exact .quiet rfl rfl rfl rfl
theorem abR (t:Tk)(op:Int):fM t (t.reckon op) []:=by
 unfold Tk.reckon;split
 ·exact (uY _ 1).of rfl rfl rfl rfl
 ·exact (put_did _ _).of rfl rfl rfl rfl
def x8 (c:Ins)(t t':Tk)(v rv:Int):Prop :=
 (c.op=26∧fM t t' [⟨2,c.a,v⟩])∨(c.op=27∧fM t t' [⟨3,c.a,rv⟩])∨(c.op=28∧t'.out=t.out++[v]∧t'.log=t.log++[⟨1,0,v⟩]∧t'.over=t.over∧t'.trap=t.trap) ∨
 ((c.op≠26∧c.op≠27∧c.op≠28)∧((∃ g,(g=[]∨∃ n:Nat,g=[⟨6,0,n⟩])∧fM t t' g)∨(t'.out=t.out∧t'.log=t.log++[⟨4,0,0⟩]∧t'.over=4∧t'.trap=t.trap)))
theorem abS (m:Md)(c:Ins)(t:Tk)(rv:Int):x8 c t (t.act m c rv) t.last rv:=by
 have q:∀ {t':Tk},fM t t' []→c.op≠26∧c.op≠27∧c.op≠28→x8 c t t' t.last rv:=fun h k=>.inr (.inr (.inr ⟨k,.inl ⟨[],.inl rfl,h⟩⟩));unfold Tk.act;by_cases h1:c.op=1
 ·rw[if_pos h1];exact q (put_did _ _) (by omega)
 rw[if_neg h1];by_cases h2:c.op=2
 ·rw[if_pos h2];exact q (put_did _ _) (by omega)
 rw[if_neg h2];by_cases h3:c.op=3
 ·rw[if_pos h3];exact q (put_did _ _) (by omega)
 rw[if_neg h3];by_cases h4:c.op=4
 ·rw[if_pos h4];exact q (.quiet rfl rfl rfl rfl) (by omega)
 rw[if_neg h4];by_cases h5:c.op=5
 ·rw[if_pos h5];exact q (.quiet rfl rfl rfl rfl) (by omega)
 rw[if_neg h5];by_cases h6:c.op=6
 ·rw[if_pos h6];exact q ((put_did _ _).of rfl rfl rfl rfl) (by omega)
 rw[if_neg h6];by_cases h7:c.op=7
 ·rw[if_pos h7];exact q ((put_did _ _).of rfl rfl rfl rfl) (by omega)
 rw[if_neg h7];by_cases h21:c.op=21
 ·rw[if_pos h21];exact q (.quiet rfl rfl rfl rfl) (by omega)
 rw[if_neg h21];by_cases h22:c.op=22
 ·rw[if_pos h22]
  split
  ·exact q (.quiet rfl rfl rfl rfl) (by omega)
  ·exact q (.quiet rfl rfl rfl rfl) (by omega)
 rw[if_neg h22];by_cases bR:c.op=26
 ·rw[if_pos bR];exact .inl ⟨bR,rfl,.inl ⟨rfl,rfl,rfl⟩⟩
 rw[if_neg bR];by_cases h27:c.op=27
 ·rw[if_pos h27]
  obtain⟨k1,k2⟩:=put_did (t.note ⟨3,c.a,rv⟩) rv;refine .inr (.inl ⟨h27,k1,?_⟩);rw[List.append_nil] at k2;exact k2
 rw[if_neg h27];by_cases oz:c.op=28
 ·rw[if_pos oz];exact .inr (.inr (.inl ⟨oz,rfl,rfl,rfl,rfl⟩))
 rw[if_neg oz];by_cases h23:c.op=23
 ·rw[if_pos h23];exact q (abN _ _ _) (by omega)
 rw[if_neg h23];by_cases iV:c.op=24
 ·rw[if_pos iV];exact q ((put_did _ _).of rfl rfl rfl rfl) (by omega)
 rw[if_neg iV];by_cases gU:c.op=29
 ·rw[if_pos gU]
  obtain⟨g,hg,hd⟩:=abO m t c.a.toNat;exact .inr (.inr (.inr ⟨by omega,.inl ⟨g,hg.imp id (fun e=>⟨_,e⟩),hd⟩⟩))
 rw[if_neg gU];by_cases mY:c.op=30
 ·rw[if_pos mY];exact q (abQ _) (by omega)
 rw[if_neg mY];by_cases h31:c.op=31
 ·rw[if_pos h31];exact q ((Qv _ _ _).of rfl rfl rfl rfl) (by omega)
 rw[if_neg h31];by_cases mZ:c.op=25
 ·rw[if_pos mZ]
  rcases abP t with h | h
  ·exact q h (by omega)
  ·exact .inr (.inr (.inr ⟨by omega,.inr h⟩))
 rw[if_neg mZ];by_cases h32:c.op=32
 ·rw[if_pos h32];exact q ((put_did _ _).of rfl rfl rfl rfl) (by omega)
 rw[if_neg h32];exact q (abR _ _) ⟨bR,h27,oz⟩
theorem fM.grows {t t':Tk}{g:List Ev}(h:fM t t' g):t.log <+: t'.log∧t.out <+: t'.out:=by
 obtain⟨h1,h2⟩:=h;refine⟨?_,by rw[h1];exact List.prefix_refl _⟩;rcases h2 with⟨e,_⟩ | ⟨n,e,_⟩
 ·rw[e];exact List.prefix_append _ _
 ·rw[e,List.append_assoc];exact List.prefix_append _ _
theorem x8.grows {c:Ins}{t t':Tk}{v rv:Int}(h:x8 c t t' v rv):t.log <+: t'.log∧t.out <+: t'.out:=by
 rcases h with⟨_,h⟩ | ⟨_,h⟩ | ⟨_,h1,h2,_⟩ | ⟨_,⟨g,_,h⟩ | ⟨h1,h2,_⟩⟩
 ·exact h.grows
 ·exact h.grows
 ·rw[h1,h2];exact⟨List.prefix_append _ _,List.prefix_append _ _⟩
 ·exact h.grows
 ·rw[h1,h2];exact⟨List.prefix_append _ _,List.prefix_refl _⟩
theorem fM.few {t t':Tk}{g:List Ev}(h:fM t t' g):t'.log.length≤t.log.length+g.length+1:=by
 rcases h.2 with⟨e,_⟩ | ⟨n,e,_⟩
 ·rw[e,List.length_append];omega
 ·rw[e,List.length_append,List.length_append];simp
theorem x8.few {c:Ins}{t t':Tk}{v rv:Int}(h:x8 c t t' v rv):t'.log.length≤t.log.length+2:=by
 rcases h with⟨_,h⟩ | ⟨_,h⟩ | ⟨_,h1,h2,_⟩ | ⟨_,⟨g,hg,h⟩ | ⟨h1,h2,_⟩⟩
 ·have:=h.few;simpa using this
 ·have:=h.few;simpa using this
 ·rw[h2];simp
 ·have:=h.few
  rcases hg with rfl | ⟨n,rfl⟩<;>simp at this<;>omega
 ·rw[h2];simp
theorem Qw (m:Md)(c:Ins)(t:Tk)(rv:Int):(t.act m c rv).log.length≤t.log.length+2:=(abS m c t rv).few
end Vm
end Go.Proofs.YtfcpglhpolpdcaaGreatDoor
namespace Go.Proofs.YtfcpglhpolpdcaaGreatDoor.Vw
open Go.RowKit Vf Vm
theorem abT {β:Type}{X:gN β}{c:Cx}{K:KM}{G:List Nat}{t:Tk}{st:List Int}{x:β}(hK:ib c.m K)(hM:Mid c.m K G t st st)(jm:(t.ins c.m).op=27→WT G (jI c.m (t.ins c.m).a) (X.head x (t.ins c.m).a.toNat))(hws:∀ (j:Nat) h,t.ae[j]?=some h→h.ws.length≤400)(Qx:∀ n,(t.ins c.m).op=26→(t.ins c.m).a=(n:Nat)→X.may x n)(hemp:(t.ins c.m).op=27→X.empty x (t.ins c.m).a.toNat=false)(hout:t.out.length≤1000000)(bI:t.log.length≤2000000) :
  ∃ f rs u i,nu c t f rs u i∧jN X c t x f rs u i:=by
 obtain⟨h,f,r,u,i,k,k',H⟩:=hM.here hK;obtain⟨hS,_⟩:=NF hK hM _ jm;obtain⟨zP,f',r',Qy,u',i',hu',hi',s1,s2,s3,s4,s5,s6,s7,s8⟩:=hS;have htop:=eD H.hh;have hfs:t.top.fs=f :: r:=by rw[htop];exact H.fs
 rw[hfs] at Qy;cases Qy;rw[H.un] at hu';cases hu';rw[H.code] at hi';cases hi';have ei:=H.ins;rw[ei] at Qx hemp;obtain⟨hp1,hp2,hrg⟩:=H.pos;have hsz:=ko (iF H.head).2.1;have hpc:f.pc<u.code.length:=gB H.code;have I9:i.op=26∨i.op=27→∃ n:Nat,i.a=n∧n<c.m.boxes.length:=fun ho=>by
  unfold ranged at hrg;rw[if_neg (by omega),if_neg (by omega),if_neg (by omega),if_neg (by omega),if_neg (by omega),if_pos ho] at hrg;simp at hrg;exact⟨i.a.toNat,by omega,by omega⟩
 have GM:i.op=21∨i.op=22→0≤i.a:=fun ho=>by
  unfold ranged at hrg;rw[if_neg (by omega),if_neg (by omega),if_pos ho] at hrg;simp at hrg;exact hrg.1
 have hun:i.op=23∨i.op=29→∃ v,c.m.units[i.a.toNat]?=some v∧0≤i.a:=fun ho=>by
  unfold ranged at hrg;rcases ho with ho | ho
  ·rw[if_neg (by omega),if_neg (by omega),if_neg (by omega),if_pos ho] at hrg
   obtain⟨v,hv,_⟩:=kN hrg;unfold is at hrg;simp at hrg;exact⟨v,hv,hrg.1⟩
  ·rw[if_neg (by omega),if_neg (by omega),if_neg (by omega),if_neg (by omega),if_pos ho] at hrg
   obtain⟨v,hv,_⟩:=kN hrg;unfold is at hrg;simp at hrg;exact⟨v,hv,hrg.1⟩
 have eg:=H.at' (f.pc+1);have Eb:(t.goto (f.pc+1)).top={ h with fs:={ f with pc:=f.pc+1 } :: r }:=by rw[eg];exact eD (eT H.hh)
 have hlast:(t.goto (f.pc+1)).last=t.last:=by unfold Tk.last;rw[Eb,htop]
 have abU:(t.goto (f.pc+1)).cut.last=t.cut.last:=by
  unfold Tk.last;rw[eg,mW (eT H.hh),mW H.hh,eD (eT H.hh),eD (eT (eT H.hh))]
 have hlen:(t.goto (f.pc+1)).ae.length=t.ae.length:=by rw[eg];simp[Tk.set]
 have hhd:(t.goto (f.pc+1)).hand=t.hand:=rfl;refine⟨f,r,u,i,⟨hfs,H.un,H.code,I9⟩,hfs,H.un,H.code,by omega,?_,⟨hp1,hp2⟩,s3,GM,fun ho=>?_,fun ho=>?_,hout,bI,⟨fun ho=>?_,fun ho=>?_,fun ho=>?_,fun ho=>?_,fun ho=>?_,fun j h' k hh hk=>?_⟩⟩
 ·have:=hws _ _ H.hh;rw[htop] at s2;omega
 ·obtain⟨n,e,hn⟩:=I9 (.inl ho);exact⟨n,e,hn,Qx n ho e⟩
 ·obtain⟨n,e,hn⟩:=I9 (.inr ho)
  have:=hemp ho;rw[e,Int.toNat_natCast] at this;exact⟨n,e,hn,this⟩
 ·obtain⟨v,hv,h0⟩:=hun ho
  have hz:=ko (iF (hK.rt.heads _ v hv).1).2.1;have h1:=s1 ho;rw[Dl hv,htop] at h1;rw[Eb];exact⟨i.a.toNat,by omega,v,hv,by omega,h1,by omega,by omega⟩
 ·rw[Eb]
  have h1:=(s4 ho).2;rw[htop] at h1;exact⟨_,_,rfl,h1⟩
 ·rw[abU,hlen];exact s5 ho
 ·rw[hlast,hlen];exact s6 ho
 ·rw[Eb,hlen]
  rw[htop] at s7;exact s7 ho
 ·rw[hlen]
  rw[eg] at hh;change (t.ae.set t.hand _)[j]?=some h' at hh
  rw[List.getElem?_set] at hh;split at hh
  ·cases hh;exact s8 _ _ k H.hh hk
  ·exact s8 _ _ k hh hk
structure Pk where
 task:Int
 q:Int
structure Dd where
 err:Int
 steps:Nat
structure Wd where
 ts:List Tk
 x:List Bq
 steps:Nat
 last:Int
 evs:List (Nat × Ev)
def tk0:Tk:=⟨[],0,[],4,0,[]⟩
def Wd.tk (w:Wd)(n:Int):Tk:=(w.ts[n.toNat]?).getD tk0
def dI (m:Md)(w:Wd)(p:Pk):Int :=
 if p.task<0∨(w.ts.length:Int)≤p.task then 3
 else if 1≤p.q∧p.q≤10000 then
  (if (stat aG m (w.tk p.task) w.x).1=1 then (if 20000≤w.steps then 10 else 0) else 11)
 else 5
def ran (m:Md)(w:Wd)(p:Pk):Nat × Tk × List Bq:=go aG m (min p.q.toNat (20000 - w.steps)) (w.tk p.task) w.x
def dC (m:Md)(w:Wd)(p:Pk):Wd:=if dI m w p=0 then ⟨w.ts.set p.task.toNat (ran m w p).2.1,(ran m w p).2.2,w.steps+(ran m w p).1,p.task,w.evs++((ran m w p).2.1.log.drop (w.tk p.task).log.length).map fun e=>(p.task.toNat,e)⟩ else w
def iX (m:Md)(w:Wd)(p:Pk):Dd:=if dI m w p=0 then ⟨0,(ran m w p).1⟩ else ⟨dI m w p,0⟩
def jU (m:Md)(w:Wd):List Pk→Wd
 | []=>w
 | p :: ps=>jU m (dC m w p) ps
def sw (m:Md)(w:Wd):List Pk→List Dd
 | []=>[]
 | p :: ps=>iX m w p :: sw m (dC m w p) ps
def behind (w:Wd)(i:Nat):Nat:=((w.last+1+i) % (w.ts.length:Int)).toNat
def sD (m:Md)(w:Wd):Nat→Nat→Option Nat
 | 0,_=>none
 | n+1,i=>if (stat aG m (w.tk (behind w i)) w.x).1=1 then some (behind w i) else sD m w n (i+1)
def following (m:Md)(w:Wd):Option Nat:=sD m w w.ts.length 0
def qP (m:Md)(q:Int):Nat→Wd→Int × Wd
 | 0,w=>(10,w)
 | f+1,w=>match following m w with
  | none=>(0,w)
  | some n=>if dI m w ⟨n,q⟩=0 then qP m q f (dC m w ⟨n,q⟩) else (dI m w ⟨n,q⟩,w)
structure MI (m:Md) (K:KM) (n:Nat) (t:Tk) (x:List Bq):Prop where
 goes:Goes m K t
 over:t.over=0∨t.over=4∨t.over=5
 out:t.out.length≤n
 log:t.log.length≤2 * n
 len:x.length=m.boxes.length
 boxes:∀ (i:Nat) q b,x[i]?=some q→m.boxes[i]?=some b→(q.cap:Int)=b.cap∧q.ws.length≤q.cap∧(b.ty=2→q.ws.all Ea=true)
theorem QA {c:Cx}{K:KM}(hK:ib c.m K):Oi aG c (MI c.m K):=by
 have Ja:∀ (n:Nat) b,c.m.boxes[n]?=some b→jI c.m n=b.ty∧¬ 10≤b.ty:=fun n b hb=>by
  have:=hK.rt.boxes n b hb;unfold plain at this;simp at this;refine⟨by simp[jI,hb],by omega⟩
 refine⟨fun n t x hI h0=>?_,fun n t x hn hws hI hst=>?_⟩
 ·rcases hI.goes with hg | ⟨G,st,hM⟩
  ·exact absurd h0 hg
  ·obtain⟨h,f,r,u,i,k,k',H⟩:=hM.here hK
   obtain⟨hp1,hp2,hrg⟩:=H.pos;refine⟨f,r,u,i,by rw[eD H.hh];exact H.fs,H.un,H.code,fun ho=>?_⟩;unfold ranged at hrg;rw[if_neg (by omega),if_neg (by omega),if_neg (by omega),if_neg (by omega),if_neg (by omega),if_pos ho] at hrg;simp at hrg;exact⟨i.a.toNat,by omega,by omega⟩
 ·have h0:t.over=0:=by
   rcases hI.over with e | e | e
   ·exact e
   ·unfold stat at hst;rw[if_pos (by omega)] at hst;simp at hst;omega
   ·unfold stat at hst;rw[if_pos (by omega)] at hst;simp at hst;omega
  rcases hI.goes with hg | ⟨G,st,hM⟩
  ·exact absurd h0 hg
  ·have hbx:(t.ins c.m).op=26∨(t.ins c.m).op=27→∃ b:Nat,(t.ins c.m).a=b∧b<c.m.boxes.length:=fun ho=>by
    obtain⟨h,f,r,u,i,k,k',H⟩:=hM.here hK;rw[H.ins] at ho ⊢;obtain⟨hp1,hp2,hrg⟩:=H.pos;unfold ranged at hrg;rw[if_neg (by omega),if_neg (by omega),if_neg (by omega),if_neg (by omega),if_neg (by omega),if_pos ho] at hrg;simp at hrg;exact⟨i.a.toNat,by omega,by omega⟩
   have hat:∀ b:Nat,b<c.m.boxes.length→∃ q bx,x[b]?=some q∧c.m.boxes[b]?=some bx∧(q.cap:Int)=bx.cap∧q.ws.length≤q.cap∧(bx.ty=2→q.ws.all Ea=true):=fun b hb=>by
    obtain⟨q,hq⟩:∃ q,x[b]?=some q:=⟨_,List.getElem?_eq_getElem (by rw[hI.len];exact hb)⟩;obtain⟨bx,hbx⟩:∃ q,c.m.boxes[b]?=some q:=⟨_,List.getElem?_eq_getElem hb⟩;exact⟨q,bx,hq,hbx,hI.boxes b q bx hq hbx⟩
   unfold stat at hst;rw[if_neg (by omega)] at hst;have hfull:(t.ins c.m).op=26→aG.full x (t.ins c.m).a.toNat=false:=fun ho=>by
    cases hf:aG.full x (t.ins c.m).a.toNat
    ·rfl
    ·rw[if_pos ⟨ho,hf⟩] at hst;cases hst
   have hemp:(t.ins c.m).op=27→aG.empty x (t.ins c.m).a.toNat=false:=fun ho=>by
    cases hf:aG.empty x (t.ins c.m).a.toNat
    ·rfl
    ·rw[if_neg (by omega),if_pos ⟨ho,hf⟩] at hst;cases hst
   have jm:(t.ins c.m).op=27→WT G (jI c.m (t.ins c.m).a) (aG.head x (t.ins c.m).a.toNat):=fun ho=>by
    obtain⟨b,e,hb⟩:=hbx (.inr ho);obtain⟨q,bx,hq,hbq,_,_,h3⟩:=hat b hb;have he:=hemp ho;rw[e,Int.toNat_natCast] at he ⊢;rw[(Ja b bx hbq).1];simp only[aG,hq] at he ⊢;have hlt:0<q.ws.length:=by simp at he;exact List.length_pos_iff.2 he
    obtain⟨u,hu⟩:∃ u,q.ws[0]?=some u:=⟨_,List.getElem?_eq_getElem hlt⟩;rw[hu];exact⟨fun h2=>Qu.1 (List.all_eq_true.1 (h3 h2) u (List.mem_of_getElem? hu)),fun h10=>absurd h10 (Ja b bx hbq).2⟩
   have hout:=hI.out;obtain⟨f,rs,u,i,hA,Ad⟩:=abT (X:=aG) hK hM jm hws (fun b ho e q hq=>by
    have hf:=hfull ho;rw[e,Int.toNat_natCast] at hf;obtain⟨b2,e2,hb2⟩:=hbx (.inl ho);obtain rfl:b=b2:=by omega
    obtain⟨q2,bx,hq2,_,_,h2,_⟩:=hat b hb2;rw[hq] at hq2;cases hq2;simp[aG,hq] at hf;omega) hemp (by omega) (by have:=hI.log;omega)
   refine⟨f,rs,u,i,Ad,?_⟩;obtain⟨_,hgo⟩:=NF hK hM _ jm;obtain⟨a1,a2⟩:=abK c.m (t.ins c.m) (t.goto (t.frame.pc+1)) (aG.head x (t.ins c.m).a.toNat);have QB:=Qw c.m (t.ins c.m) (t.goto (t.frame.pc+1)) (aG.head x (t.ins c.m).a.toNat);have hlI:=hI.log;have QB:(Tk.act c.m (t.ins c.m) (t.goto (t.frame.pc+1)) (aG.head x (t.ins c.m).a.toNat)).log.length≤t.log.length+2:=QB;refine⟨hgo,?_,?_,by show (Tk.act c.m (t.ins c.m) (t.goto (t.frame.pc+1)) (aG.head x (t.ins c.m).a.toNat)).log.length≤2 * (n+1);omega,?_,fun j q bx hq hb=>?_⟩
   ·have e:(t.goto (t.frame.pc+1)).over=t.over:=rfl
    rw[e,h0] at a2;exact a2
   ·show (Tk.act c.m (t.ins c.m) (t.goto (t.frame.pc+1)) (aG.head x (t.ins c.m).a.toNat)).out.length≤n+1
    rw[a1];have e:(t.goto (t.frame.pc+1)).out=t.out:=rfl;split<;>simp[e]<;>omega
   ·show (ou aG (t.ins c.m) _ x).length=_
    unfold ou;split
    ·rename_i ho
     obtain⟨b,e,hb⟩:=hbx (.inl ho);obtain⟨q,bx,hq,_⟩:=hat b hb;rw[e,Int.toNat_natCast];simp[aG,hq,hI.len]
    ·split
     ·rename_i _ ho
      obtain⟨b,e,hb⟩:=hbx (.inr ho);obtain⟨q,bx,hq,_⟩:=hat b hb;rw[e,Int.toNat_natCast];simp[aG,hq,hI.len]
     ·exact hI.len
   ·change (ou aG (t.ins c.m) (t.goto (t.frame.pc+1)).last x)[j]?=some q at hq
    unfold ou at hq;split at hq
    ·rename_i ho
     obtain⟨b,e,hb'⟩:=hbx (.inl ho);obtain⟨q0,bx0,hq0,hbx0,k1,k2,k3⟩:=hat b hb';have hs:=abM hK hM ho;have hf:=hfull ho;rw[e,Int.toNat_natCast] at hq hf;simp only[aG,hq0] at hq hf;rw[List.getElem?_set] at hq;split at hq
     ·rename_i ej
      subst ej;split at hq
      ·cases hq
       rw[hbx0] at hb;cases hb;rw[e,(Ja b _ hbx0).1] at hs;refine⟨k1,by simp at hf ⊢;omega,fun h2=>?_⟩;rw[List.all_append,k3 h2];simp[Qu.2 (hs.1 h2)]
      ·cases hq
     ·exact hI.boxes j q bx hq hb
    ·split at hq
     ·rename_i _ ho
      obtain⟨b,e,hb'⟩:=hbx (.inr ho);obtain⟨q0,bx0,hq0,hbx0,k1,k2,k3⟩:=hat b hb';rw[e,Int.toNat_natCast] at hq;simp only[aG,hq0] at hq;rw[List.getElem?_set] at hq;split at hq
      ·rename_i ej
       subst ej;split at hq
       ·cases hq
        rw[hbx0] at hb;cases hb;refine⟨k1,by simp;omega,fun h2=>?_⟩;have:=k3 h2;rw[List.all_eq_true] at this ⊢;exact fun v hv=>this v (List.mem_of_mem_tail hv)
       ·cases hq
      ·exact hI.boxes j q bx hq hb
     ·exact hI.boxes j q bx hq hb
end Go.Proofs.YtfcpglhpolpdcaaGreatDoor.Vw
