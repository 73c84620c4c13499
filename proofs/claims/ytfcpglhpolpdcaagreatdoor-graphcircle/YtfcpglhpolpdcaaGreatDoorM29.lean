/- What an instruction does,as it is heard. -/
import Derived.Test.YtfcpglhpolpdcaaGreatDoorM11
import Derived.Test.YtfcpglhpolpdcaaGreatDoorM17
import Derived.Test.YtfcpglhpolpdcaaGreatDoorM28
import Derived.Test.YtfcpglhpolpdcaaGreatDoorM18
namespace Go.Proofs.YtfcpglhpolpdcaaGreatDoor
namespace Vm
open Vf
def fH (t t':Tk)(g:List Ev):Prop:=t'.out=t.out∧((t'.log=t.log++g∧t'.over=t.over∧t'.trap=t.trap)∨∃ n:Nat,t'.log=t.log++g++[⟨5,0,n⟩]∧t'.over=5∧t'.trap=n)
theorem fH.quiet {t t':Tk}(h1:t'.out=t.out)(h2:t'.log=t.log)(h3:t'.over=t.over)(h4:t'.trap=t.trap):fH t t' []:=⟨h1,.inl ⟨by rw[h2,List.append_nil],h3,h4⟩⟩
theorem uS (t:Tk)(n:Nat):fH t (t.fall n) []:=⟨rfl,.inr ⟨n,by simp[Tk.fall],rfl,rfl⟩⟩
theorem put_did (t:Tk)(v:Int):fH t (t.put v) []:=by
 unfold Tk.put;split
 ·exact uS t 4
 ·exact .quiet rfl rfl rfl rfl
theorem fH.of {t s s':Tk}{g:List Ev}(h:fH s s' g)(h1:s.out=t.out)(h2:s.log=t.log)(h3:s.over=t.over)(h4:s.trap=t.trap):fH t s' g:=by
 unfold fH at h ⊢;rw[h1,h2,h3,h4] at h;exact h
theorem abn (m:Md)(t:Tk)(n:Nat):fH t (t.call m n) []:=by
 unfold Tk.call;split
 ·exact uS t 4
 ·split
  ·exact .quiet rfl rfl rfl rfl
  ·exact (uS _ 4).of rfl rfl rfl rfl
theorem abo (m:Md)(t:Tk)(n:Nat):∃ g,(g=[]∨g=[⟨6,0,n⟩])∧fH t (t.start m n) g:=by
 unfold Tk.start;dsimp only;split
 ·exact⟨[],.inl rfl,(uS _ 5).of rfl rfl rfl rfl⟩
 ·refine⟨_,.inr rfl,?_⟩
  obtain⟨h1,h2⟩:=put_did (({ (t.less (unit m n).params.toNat) with ae:=(t.less (unit m n).params.toNat).ae++[gM (unit m n) n (t.top.ws.drop (t.top.ws.length - (unit m n).params.toNat))] }:Tk).note ⟨6,0,n⟩) t.ae.length;refine⟨h1,?_⟩;rw[List.append_nil] at h2;exact h2
theorem Qb (t:Tk)(s:Nat)(v:Int):fH t (t.give s v) []:=by
 unfold Tk.give;exact (put_did _ _).of rfl rfl rfl rfl
theorem abp (t:Tk):fH t t.fin []∨(t.fin.out=t.out∧t.fin.log=t.log++[⟨4,0,0⟩]∧t.fin.over=4∧t.fin.trap=t.trap):=by
 unfold Tk.fin;split
 ·exact .inr ⟨rfl,rfl,rfl,rfl⟩
 ·exact .inl (Qb _ _ _)
theorem abq (t:Tk):fH t t.resume []:=by
 unfold Tk.resume;dsimp only;split
 ·exact (uS _ 2).of rfl rfl rfl rfl
 ·split
  ·exact (uS _ 3).of rfl rfl rfl rfl
  ·split
   ·exact (put_did _ _).of rfl rfl rfl rfl
   ·exact .quiet rfl rfl rfl rfl
theorem abr (t:Tk)(op:Int):fH t (t.reckon op) []:=by
 unfold Tk.reckon;split
 ·exact (uS _ 1).of rfl rfl rfl rfl
 ·exact (put_did _ _).of rfl rfl rfl rfl
def xO (c:Ins)(t t':Tk)(v rv:Int):Prop :=
 (c.op=26∧fH t t' [⟨2,c.a,v⟩])∨(c.op=27∧fH t t' [⟨3,c.a,rv⟩])∨(c.op=28∧t'.out=t.out++[v]∧t'.log=t.log++[⟨1,0,v⟩]∧t'.over=t.over∧t'.trap=t.trap) ∨
 ((c.op≠26∧c.op≠27∧c.op≠28)∧((∃ g,(g=[]∨∃ n:Nat,g=[⟨6,0,n⟩])∧fH t t' g)∨(t'.out=t.out∧t'.log=t.log++[⟨4,0,0⟩]∧t'.over=4∧t'.trap=t.trap)))
theorem abt (m:Md)(c:Ins)(t:Tk)(rv:Int):xO c t (t.act m c rv) t.last rv:=by
 have q:∀ {t':Tk},fH t t' []→c.op≠26∧c.op≠27∧c.op≠28→xO c t t' t.last rv:=fun h k=>.inr (.inr (.inr ⟨k,.inl ⟨[],.inl rfl,h⟩⟩));unfold Tk.act;by_cases h1:c.op=1
 ·rw[if_pos h1];exact q (put_did _ _) (by omega)
 rw[if_neg h1];by_cases h2:c.op=2
 ·rw[if_pos h2];exact q (put_did _ _) (by omega)
 rw[if_neg h2];by_cases h3:c.op=3
 ·rw[if_pos h3];exact q (put_did _ _) (by omega)
 rw[if_neg h3];by_cases h4:c.op=4
 ·rw[if_pos h4];exact q (.quiet rfl rfl rfl rfl) (by omega)
 rw[if_neg h4];by_cases h5:c.op=5
 ·rw[if_pos h5];exact q (.quiet rfl rfl rfl rfl) (by omega)
 rw[if_neg h5];by_cases h6:c.op=6
 ·rw[if_pos h6];exact q ((put_did _ _).of rfl rfl rfl rfl) (by omega)
 rw[if_neg h6];by_cases h7:c.op=7
 ·rw[if_pos h7];exact q ((put_did _ _).of rfl rfl rfl rfl) (by omega)
 rw[if_neg h7];by_cases h21:c.op=21
 ·rw[if_pos h21];exact q (.quiet rfl rfl rfl rfl) (by omega)
 rw[if_neg h21];by_cases h22:c.op=22
 ·rw[if_pos h22]
  split
  ·exact q (.quiet rfl rfl rfl rfl) (by omega)
  ·exact q (.quiet rfl rfl rfl rfl) (by omega)
 rw[if_neg h22];by_cases bJ:c.op=26
 ·rw[if_pos bJ];exact .inl ⟨bJ,rfl,.inl ⟨rfl,rfl,rfl⟩⟩
 rw[if_neg bJ];by_cases h27:c.op=27
 ·rw[if_pos h27]
  obtain⟨k1,k2⟩:=put_did (t.note ⟨3,c.a,rv⟩) rv;refine .inr (.inl ⟨h27,k1,?_⟩);rw[List.append_nil] at k2;exact k2
 rw[if_neg h27];by_cases lu:c.op=28
 ·rw[if_pos lu];exact .inr (.inr (.inl ⟨lu,rfl,rfl,rfl,rfl⟩))
 rw[if_neg lu];by_cases h23:c.op=23
 ·rw[if_pos h23];exact q (abn _ _ _) (by omega)
 rw[if_neg h23];by_cases gP:c.op=24
 ·rw[if_pos gP];exact q ((put_did _ _).of rfl rfl rfl rfl) (by omega)
 rw[if_neg gP];by_cases fI:c.op=29
 ·rw[if_pos fI]
  obtain⟨g,hg,hd⟩:=abo m t c.a.toNat;exact .inr (.inr (.inr ⟨by omega,.inl ⟨g,hg.imp id (fun e=>⟨_,e⟩),hd⟩⟩))
 rw[if_neg fI];by_cases kI:c.op=30
 ·rw[if_pos kI];exact q (abq _) (by omega)
 rw[if_neg kI];by_cases h31:c.op=31
 ·rw[if_pos h31];exact q ((Qb _ _ _).of rfl rfl rfl rfl) (by omega)
 rw[if_neg h31];by_cases kJ:c.op=25
 ·rw[if_pos kJ]
  rcases abp t with h | h
  ·exact q h (by omega)
  ·exact .inr (.inr (.inr ⟨by omega,.inr h⟩))
 rw[if_neg kJ];by_cases h32:c.op=32
 ·rw[if_pos h32];exact q ((put_did _ _).of rfl rfl rfl rfl) (by omega)
 rw[if_neg h32];exact q (abr _ _) ⟨bJ,h27,lu⟩
theorem fH.grows {t t':Tk}{g:List Ev}(h:fH t t' g):t.log <+: t'.log∧t.out <+: t'.out:=by
 obtain⟨h1,h2⟩:=h;refine⟨?_,by rw[h1];exact List.prefix_refl _⟩;rcases h2 with⟨e,_⟩ | ⟨n,e,_⟩
 ·rw[e];exact List.prefix_append _ _
 ·rw[e,List.append_assoc];exact List.prefix_append _ _
theorem xO.grows {c:Ins}{t t':Tk}{v rv:Int}(h:xO c t t' v rv):t.log <+: t'.log∧t.out <+: t'.out:=by
 rcases h with⟨_,h⟩ | ⟨_,h⟩ | ⟨_,h1,h2,_⟩ | ⟨_,⟨g,_,h⟩ | ⟨h1,h2,_⟩⟩
 ·exact h.grows
 ·exact h.grows
 ·rw[h1,h2];exact⟨List.prefix_append _ _,List.prefix_append _ _⟩
 ·exact h.grows
 ·rw[h1,h2];exact⟨List.prefix_append _ _,List.prefix_refl _⟩
theorem fH.few {t t':Tk}{g:List Ev}(h:fH t t' g):t'.log.length≤t.log.length+g.length+1:=by
 rcases h.2 with⟨e,_⟩ | ⟨n,e,_⟩
 ·rw[e,List.length_append];omega
 ·rw[e,List.length_append,List.length_append];simp
theorem xO.few {c:Ins}{t t':Tk}{v rv:Int}(h:xO c t t' v rv):t'.log.length≤t.log.length+2:=by
 rcases h with⟨_,h⟩ | ⟨_,h⟩ | ⟨_,h1,h2,_⟩ | ⟨_,⟨g,hg,h⟩ | ⟨h1,h2,_⟩⟩
 ·have:=h.few;simpa using this
 ·have:=h.few;simpa using this
 ·rw[h2];simp
 ·have:=h.few
  rcases hg with rfl | ⟨n,rfl⟩<;>simp at this<;>omega
 ·rw[h2];simp
theorem Qc (m:Md)(c:Ins)(t:Tk)(rv:Int):(t.act m c rv).log.length≤t.log.length+2:=(abt m c t rv).few
end Vm
end Go.Proofs.YtfcpglhpolpdcaaGreatDoor
namespace Go.Proofs.YtfcpglhpolpdcaaGreatDoor.Vw
open Go.RowKit Vf Vm
theorem abu {β:Type}{X:gI β}{c:Cx}{K:KM}{G:List Nat}{t:Tk}{st:List Int}{x:β}(hK:gH c.m K)(hM:Mid c.m K G t st st)(iY:(t.ins c.m).op=27→WT G (jv c.m (t.ins c.m).a) (X.head x (t.ins c.m).a.toNat))(hws:∀ (j:Nat) h,t.ae[j]?=some h→h.ws.length≤400)(Qd:∀ n,(t.ins c.m).op=26→(t.ins c.m).a=(n:Nat)→X.may x n)(hemp:(t.ins c.m).op=27→X.empty x (t.ins c.m).a.toNat=false)(hout:t.out.length≤1000000)(bG:t.log.length≤2000000) :
  ∃ f rs u i,mU c t f rs u i∧jD X c t x f rs u i:=by
 obtain⟨h,f,r,u,i,k,k',H⟩:=hM.here hK;obtain⟨hS,_⟩:=Ni hK hM _ iY;obtain⟨zy,f',r',Qe,u',i',hu',hi',s1,s2,s3,s4,s5,s6,s7,s8⟩:=hS;have htop:=dY H.hh;have hfs:t.top.fs=f :: r:=by rw[htop];exact H.fs
 rw[hfs] at Qe;cases Qe;rw[H.un] at hu';cases hu';rw[H.code] at hi';cases hi';have ei:=H.ins;rw[ei] at Qd hemp;obtain⟨hp1,hp2,hrg⟩:=H.pos;have hsz:=jS (iy H.head).2.1;have hpc:f.pc<u.code.length:=fZ H.code;have IC:i.op=26∨i.op=27→∃ n:Nat,i.a=n∧n<c.m.boxes.length:=fun ho=>by
  unfold ranged at hrg;rw[if_neg (by omega),if_neg (by omega),if_neg (by omega),if_neg (by omega),if_neg (by omega),if_pos ho] at hrg;simp at hrg;exact⟨i.a.toNat,by omega,by omega⟩
 have Gi:i.op=21∨i.op=22→0≤i.a:=fun ho=>by
  unfold ranged at hrg;rw[if_neg (by omega),if_neg (by omega),if_pos ho] at hrg;simp at hrg;exact hrg.1
 have hun:i.op=23∨i.op=29→∃ v,c.m.units[i.a.toNat]?=some v∧0≤i.a:=fun ho=>by
  unfold ranged at hrg;rcases ho with ho | ho
  ·rw[if_neg (by omega),if_neg (by omega),if_neg (by omega),if_pos ho] at hrg
   obtain⟨v,hv,_⟩:=kD hrg;unfold is at hrg;simp at hrg;exact⟨v,hv,hrg.1⟩
  ·rw[if_neg (by omega),if_neg (by omega),if_neg (by omega),if_neg (by omega),if_pos ho] at hrg
   obtain⟨v,hv,_⟩:=kD hrg;unfold is at hrg;simp at hrg;exact⟨v,hv,hrg.1⟩
 have eg:=H.at' (f.pc+1);have DF:(t.goto (f.pc+1)).top={ h with fs:={ f with pc:=f.pc+1 } :: r }:=by rw[eg];exact dY (eH H.hh)
 have hlast:(t.goto (f.pc+1)).last=t.last:=by unfold Tk.last;rw[DF,htop]
 have abv:(t.goto (f.pc+1)).cut.last=t.cut.last:=by
  unfold Tk.last;rw[eg,mM (eH H.hh),mM H.hh,dY (eH H.hh),dY (eH (eH H.hh))]
 have hlen:(t.goto (f.pc+1)).ae.length=t.ae.length:=by rw[eg];simp[Tk.set]
 have hhd:(t.goto (f.pc+1)).hand=t.hand:=rfl;refine⟨f,r,u,i,⟨hfs,H.un,H.code,IC⟩,hfs,H.un,H.code,by omega,?_,⟨hp1,hp2⟩,s3,Gi,fun ho=>?_,fun ho=>?_,hout,bG,⟨fun ho=>?_,fun ho=>?_,fun ho=>?_,fun ho=>?_,fun ho=>?_,fun j h' k hh hk=>?_⟩⟩
 ·have:=hws _ _ H.hh;rw[htop] at s2;omega
 ·obtain⟨n,e,hn⟩:=IC (.inl ho);exact⟨n,e,hn,Qd n ho e⟩
 ·obtain⟨n,e,hn⟩:=IC (.inr ho)
  have:=hemp ho;rw[e,Int.toNat_natCast] at this;exact⟨n,e,hn,this⟩
 ·obtain⟨v,hv,h0⟩:=hun ho
  have hz:=jS (iy (hK.rt.heads _ v hv).1).2.1;have h1:=s1 ho;rw[CR hv,htop] at h1;rw[DF];exact⟨i.a.toNat,by omega,v,hv,by omega,h1,by omega,by omega⟩
 ·rw[DF]
  have h1:=(s4 ho).2;rw[htop] at h1;exact⟨_,_,rfl,h1⟩
 ·rw[abv,hlen];exact s5 ho
 ·rw[hlast,hlen];exact s6 ho
 ·rw[DF,hlen]
  rw[htop] at s7;exact s7 ho
 ·rw[hlen]
  rw[eg] at hh;change (t.ae.set t.hand _)[j]?=some h' at hh
  rw[List.getElem?_set] at hh;split at hh
  ·cases hh;exact s8 _ _ k H.hh hk
  ·exact s8 _ _ k hh hk
structure Pk where
 task:Int
 q:Int
structure Dd where
 err:Int
 steps:Nat
structure Wd where
 ts:List Tk
 x:List Bq
 steps:Nat
 last:Int
 evs:List (Nat × Ev)
def tk0:Tk:=⟨[],0,[],4,0,[]⟩
def Wd.tk (w:Wd)(n:Int):Tk:=(w.ts[n.toNat]?).getD tk0
def dD (m:Md)(w:Wd)(p:Pk):Int :=
 if p.task<0∨(w.ts.length:Int)≤p.task then 3
 else if 1≤p.q∧p.q≤10000 then
  (if (stat aA m (w.tk p.task) w.x).1=1 then (if 20000≤w.steps then 10 else 0) else 11)
 else 5
def ran (m:Md)(w:Wd)(p:Pk):Nat × Tk × List Bq:=go aA m (min p.q.toNat (20000 - w.steps)) (w.tk p.task) w.x
def dm (m:Md)(w:Wd)(p:Pk):Wd:=if dD m w p=0 then ⟨w.ts.set p.task.toNat (ran m w p).2.1,(ran m w p).2.2,w.steps+(ran m w p).1,p.task,w.evs++((ran m w p).2.1.log.drop (w.tk p.task).log.length).map fun e=>(p.task.toNat,e)⟩ else w
def iP (m:Md)(w:Wd)(p:Pk):Dd:=if dD m w p=0 then ⟨0,(ran m w p).1⟩ else ⟨dD m w p,0⟩
def jY (m:Md)(w:Wd):List Pk→Wd
 | []=>w
 | p :: ps=>jY m (dm m w p) ps
def rY (m:Md)(w:Wd):List Pk→List Dd
 | []=>[]
 | p :: ps=>iP m w p :: rY m (dm m w p) ps
def behind (w:Wd)(i:Nat):Nat:=((w.last+1+i) % (w.ts.length:Int)).toNat
def o6 (m:Md)(w:Wd):Nat→Nat→Option Nat
 | 0,_=>none
 | n+1,i=>if (stat aA m (w.tk (behind w i)) w.x).1=1 then some (behind w i) else o6 m w n (i+1)
def following (m:Md)(w:Wd):Option Nat:=o6 m w w.ts.length 0
def mZ (m:Md)(q:Int):Nat→Wd→Int × Wd
 | 0,w=>(10,w)
 | f+1,w=>match following m w with
  | none=>(0,w)
  | some n=>if dD m w ⟨n,q⟩=0 then mZ m q f (dm m w ⟨n,q⟩) else (dD m w ⟨n,q⟩,w)
structure MI (m:Md) (K:KM) (n:Nat) (t:Tk) (x:List Bq):Prop where
 goes:Goes m K t
 over:t.over=0∨t.over=4∨t.over=5
 out:t.out.length≤n
 log:t.log.length≤2 * n
 len:x.length=m.boxes.length
 boxes:∀ (i:Nat) q b,x[i]?=some q→m.boxes[i]?=some b→(q.cap:Int)=b.cap∧q.ws.length≤q.cap∧(b.ty=2→q.ws.all DD=true)
theorem IE {c:Cx}{K:KM}(hK:gH c.m K):NN aA c (MI c.m K):=by
 have IG:∀ (n:Nat) b,c.m.boxes[n]?=some b→jv c.m n=b.ty∧¬ 10≤b.ty:=fun n b hb=>by
  have:=hK.rt.boxes n b hb;unfold plain at this;simp at this;refine⟨by simp[jv,hb],by omega⟩
 refine⟨fun n t x hI h0=>?_,fun n t x hn hws hI hst=>?_⟩
 ·rcases hI.goes with hg | ⟨G,st,hM⟩
  ·exact absurd h0 hg
  ·obtain⟨h,f,r,u,i,k,k',H⟩:=hM.here hK
   obtain⟨hp1,hp2,hrg⟩:=H.pos;refine⟨f,r,u,i,by rw[dY H.hh];exact H.fs,H.un,H.code,fun ho=>?_⟩;unfold ranged at hrg;rw[if_neg (by omega),if_neg (by omega),if_neg (by omega),if_neg (by omega),if_neg (by omega),if_pos ho] at hrg;simp at hrg;exact⟨i.a.toNat,by omega,by omega⟩
 ·have h0:t.over=0:=by
   rcases hI.over with e | e | e
   ·exact e
   ·unfold stat at hst;rw[if_pos (by omega)] at hst;simp at hst;omega
   ·unfold stat at hst;rw[if_pos (by omega)] at hst;simp at hst;omega
  rcases hI.goes with hg | ⟨G,st,hM⟩
  ·exact absurd h0 hg
  ·have hbx:(t.ins c.m).op=26∨(t.ins c.m).op=27→∃ b:Nat,(t.ins c.m).a=b∧b<c.m.boxes.length:=fun ho=>by
    obtain⟨h,f,r,u,i,k,k',H⟩:=hM.here hK;rw[H.ins] at ho ⊢;obtain⟨hp1,hp2,hrg⟩:=H.pos;unfold ranged at hrg;rw[if_neg (by omega),if_neg (by omega),if_neg (by omega),if_neg (by omega),if_neg (by omega),if_pos ho] at hrg;simp at hrg;exact⟨i.a.toNat,by omega,by omega⟩
   have hat:∀ b:Nat,b<c.m.boxes.length→∃ q bx,x[b]?=some q∧c.m.boxes[b]?=some bx∧(q.cap:Int)=bx.cap∧q.ws.length≤q.cap∧(bx.ty=2→q.ws.all DD=true):=fun b hb=>by
    obtain⟨q,hq⟩:∃ q,x[b]?=some q:=⟨_,List.getElem?_eq_getElem (by rw[hI.len];exact hb)⟩;obtain⟨bx,hbx⟩:∃ q,c.m.boxes[b]?=some q:=⟨_,List.getElem?_eq_getElem hb⟩;exact⟨q,bx,hq,hbx,hI.boxes b q bx hq hbx⟩
   unfold stat at hst;rw[if_neg (by omega)] at hst;have hfull:(t.ins c.m).op=26→aA.full x (t.ins c.m).a.toNat=false:=fun ho=>by
    cases hf:aA.full x (t.ins c.m).a.toNat
    ·rfl
    ·rw[if_pos ⟨ho,hf⟩] at hst;cases hst
   have hemp:(t.ins c.m).op=27→aA.empty x (t.ins c.m).a.toNat=false:=fun ho=>by
    cases hf:aA.empty x (t.ins c.m).a.toNat
    ·rfl
    ·rw[if_neg (by omega),if_pos ⟨ho,hf⟩] at hst;cases hst
   have iY:(t.ins c.m).op=27→WT G (jv c.m (t.ins c.m).a) (aA.head x (t.ins c.m).a.toNat):=fun ho=>by
    obtain⟨b,e,hb⟩:=hbx (.inr ho);obtain⟨q,bx,hq,hbq,_,_,h3⟩:=hat b hb;have he:=hemp ho;rw[e,Int.toNat_natCast] at he ⊢;rw[(IG b bx hbq).1];simp only[aA,hq] at he ⊢;have hlt:0<q.ws.length:=by simp at he;exact List.length_pos_iff.2 he
    obtain⟨u,hu⟩:∃ u,q.ws[0]?=some u:=⟨_,List.getElem?_eq_getElem hlt⟩;rw[hu];exact⟨fun h2=>Qa.1 (List.all_eq_true.1 (h3 h2) u (List.mem_of_getElem? hu)),fun h10=>absurd h10 (IG b bx hbq).2⟩
   have hout:=hI.out;obtain⟨f,rs,u,i,hA,zP⟩:=abu (X:=aA) hK hM iY hws (fun b ho e q hq=>by
    have hf:=hfull ho;rw[e,Int.toNat_natCast] at hf;obtain⟨b2,e2,hb2⟩:=hbx (.inl ho);obtain rfl:b=b2:=by omega
    obtain⟨q2,bx,hq2,_,_,h2,_⟩:=hat b hb2;rw[hq] at hq2;cases hq2;simp[aA,hq] at hf;omega) hemp (by omega) (by have:=hI.log;omega)
   refine⟨f,rs,u,i,zP,?_⟩;obtain⟨_,hgo⟩:=Ni hK hM _ iY;obtain⟨a1,a2⟩:=P9 c.m (t.ins c.m) (t.goto (t.frame.pc+1)) (aA.head x (t.ins c.m).a.toNat);have Qf:=Qc c.m (t.ins c.m) (t.goto (t.frame.pc+1)) (aA.head x (t.ins c.m).a.toNat);have hlI:=hI.log;have Qf:(Tk.act c.m (t.ins c.m) (t.goto (t.frame.pc+1)) (aA.head x (t.ins c.m).a.toNat)).log.length≤t.log.length+2:=Qf;refine⟨hgo,?_,?_,by show (Tk.act c.m (t.ins c.m) (t.goto (t.frame.pc+1)) (aA.head x (t.ins c.m).a.toNat)).log.length≤2 * (n+1);omega,?_,fun j q bx hq hb=>?_⟩
   ·have e:(t.goto (t.frame.pc+1)).over=t.over:=rfl
    rw[e,h0] at a2;exact a2
   ·show (Tk.act c.m (t.ins c.m) (t.goto (t.frame.pc+1)) (aA.head x (t.ins c.m).a.toNat)).out.length≤n+1
    rw[a1];have e:(t.goto (t.frame.pc+1)).out=t.out:=rfl;split<;>simp[e]<;>omega
   ·show (nU aA (t.ins c.m) _ x).length=_
    unfold nU;split
    ·rename_i ho
     obtain⟨b,e,hb⟩:=hbx (.inl ho);obtain⟨q,bx,hq,_⟩:=hat b hb;rw[e,Int.toNat_natCast];simp[aA,hq,hI.len]
    ·split
     ·rename_i _ ho
      obtain⟨b,e,hb⟩:=hbx (.inr ho);obtain⟨q,bx,hq,_⟩:=hat b hb;rw[e,Int.toNat_natCast];simp[aA,hq,hI.len]
     ·exact hI.len
   ·change (nU aA (t.ins c.m) (t.goto (t.frame.pc+1)).last x)[j]?=some q at hq
    unfold nU at hq;split at hq
    ·rename_i ho
     obtain⟨b,e,hb'⟩:=hbx (.inl ho);obtain⟨q0,bx0,hq0,hbx0,k1,k2,k3⟩:=hat b hb';have hs:=abm hK hM ho;have hf:=hfull ho;rw[e,Int.toNat_natCast] at hq hf;simp only[aA,hq0] at hq hf;rw[List.getElem?_set] at hq;split at hq
     ·rename_i ej
      subst ej;split at hq
      ·cases hq
       rw[hbx0] at hb;cases hb;rw[e,(IG b _ hbx0).1] at hs;refine⟨k1,by simp at hf ⊢;omega,fun h2=>?_⟩;rw[List.all_append,k3 h2];simp[Qa.2 (hs.1 h2)]
      ·cases hq
     ·exact hI.boxes j q bx hq hb
    ·split at hq
     ·rename_i _ ho
      obtain⟨b,e,hb'⟩:=hbx (.inr ho);obtain⟨q0,bx0,hq0,hbx0,k1,k2,k3⟩:=hat b hb';rw[e,Int.toNat_natCast] at hq;simp only[aA,hq0] at hq;rw[List.getElem?_set] at hq;split at hq
      ·rename_i ej
       subst ej;split at hq
       ·cases hq
        rw[hbx0] at hb;cases hb;refine⟨k1,by simp;omega,fun h2=>?_⟩;have:=k3 h2;rw[List.all_eq_true] at this ⊢;exact fun v hv=>this v (List.mem_of_mem_tail hv)
       ·cases hq
      ·exact hI.boxes j q bx hq hb
     ·exact hI.boxes j q bx hq hb
end Go.Proofs.YtfcpglhpolpdcaaGreatDoor.Vw
