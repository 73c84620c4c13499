/- What an instruction does,as it is heard. -/
import Derived.Test.YthffafaoobpedaaGreatDoorM11
import Derived.Test.YthffafaoobpedaaGreatDoorM17
import Derived.Test.YthffafaoobpedaaGreatDoorM28
namespace Go.Proofs.YthffafaoobpedaaGreatDoor
namespace Vm
open Vf
def fG (t t':Tk)(g:List Ev):Prop:=t'.out=t.out∧((t'.log=t.log ++ g∧t'.over=t.over∧t'.trap=t.trap)∨∃ n:Nat,t'.log=t.log ++ g ++ [⟨5,0,n⟩]∧t'.over=5∧t'.trap=n)
theorem fG.quiet {t t':Tk}(h1:t'.out=t.out)(h2:t'.log=t.log)(h3:t'.over=t.over)(h4:t'.trap=t.trap):fG t t' []:=⟨h1,.inl ⟨by rw [h2,List.append_nil],h3,h4⟩⟩
theorem tX (t:Tk)(n:Nat):fG t (t.fall n) []:=⟨rfl,.inr ⟨n,by simp [Tk.fall],rfl,rfl⟩⟩
theorem put_did (t:Tk)(v:Int):fG t (t.put v) []:=by
 unfold Tk.put
 split
 ·exact tX t 4
 ·exact .quiet rfl rfl rfl rfl
theorem fG.of {t s s':Tk}{g:List Ev}(h:fG s s' g)(h1:s.out=t.out)(h2:s.log=t.log)(h3:s.over=t.over)(h4:s.trap=t.trap):fG t s' g:=by
 unfold fG at h ⊢
 rw [h1,h2,h3,h4] at h
 exact h
theorem YZ (m:Md)(t:Tk)(n:Nat):fG t (t.call m n) []:=by
 unfold Tk.call
 split
 ·exact tX t 4
 ·split
  ·exact .quiet rfl rfl rfl rfl
  ·exact (tX _ 4).of rfl rfl rfl rfl
theorem Y0 (m:Md)(t:Tk)(n:Nat):∃ g,(g=[]∨g=[⟨6,0,n⟩])∧fG t (t.start m n) g:=by
 unfold Tk.start
 dsimp only
 split
 ·exact ⟨[],.inl rfl,(tX _ 5).of rfl rfl rfl rfl⟩
 ·refine ⟨_,.inr rfl,?_⟩
  obtain ⟨h1,h2⟩:=put_did (({ (t.less (unit m n).params.toNat) with ae:=(t.less (unit m n).params.toNat).ae ++ [gH (unit m n) n (t.top.ws.drop (t.top.ws.length - (unit m n).params.toNat))] }:Tk).note ⟨6,0,n⟩) t.ae.length
  refine ⟨h1,?_⟩
  rw [List.append_nil] at h2
  exact h2
theorem ND (t:Tk)(s:Nat)(v:Int):fG t (t.give s v) []:=by
 unfold Tk.give
 exact (put_did _ _).of rfl rfl rfl rfl
theorem Y1 (t:Tk):fG t t.fin []∨(t.fin.out=t.out∧t.fin.log=t.log ++ [⟨4,0,0⟩]∧t.fin.over=4∧t.fin.trap=t.trap):=by
 unfold Tk.fin
 split
 ·exact .inr ⟨rfl,rfl,rfl,rfl⟩
 ·exact .inl (ND _ _ _)
theorem Y2 (t:Tk):fG t t.resume []:=by
 unfold Tk.resume
 dsimp only
 split
 ·exact (tX _ 2).of rfl rfl rfl rfl
 ·split
  ·exact (tX _ 3).of rfl rfl rfl rfl
  ·split
   ·exact (put_did _ _).of rfl rfl rfl rfl
   ·exact .quiet rfl rfl rfl rfl
theorem Y3 (t:Tk)(op:Int):fG t (t.reckon op) []:=by
 unfold Tk.reckon
 split
 ·exact (tX _ 1).of rfl rfl rfl rfl
 ·exact (put_did _ _).of rfl rfl rfl rfl
def wu (c:Ins)(t t':Tk)(v rv:Int):Prop :=
 (c.op=26∧fG t t' [⟨2,c.a,v⟩])∨(c.op=27∧fG t t' [⟨3,c.a,rv⟩])∨(c.op=28∧t'.out=t.out ++ [v]∧t'.log=t.log ++ [⟨1,0,v⟩]∧t'.over=t.over∧t'.trap=t.trap) ∨
 ((c.op≠26∧c.op≠27∧c.op≠28)∧((∃ g,(g=[]∨∃ n:Nat,g=[⟨6,0,n⟩])∧fG t t' g)∨(t'.out=t.out∧t'.log=t.log ++ [⟨4,0,0⟩]∧t'.over=4∧t'.trap=t.trap)))
theorem Y4 (m:Md)(c:Ins)(t:Tk)(rv:Int):wu c t (t.act m c rv) t.last rv:=by
 have q:∀ {t':Tk},fG t t' []→c.op≠26∧c.op≠27∧c.op≠28→wu c t t' t.last rv:=fun h k=>.inr (.inr (.inr ⟨k,.inl ⟨[],.inl rfl,h⟩⟩))
 unfold Tk.act
 by_cases h1:c.op=1
 ·rw [if_pos h1];exact q (put_did _ _) (by omega)
 rw [if_neg h1]
 by_cases h2:c.op=2
 ·rw [if_pos h2];exact q (put_did _ _) (by omega)
 rw [if_neg h2]
 by_cases h3:c.op=3
 ·rw [if_pos h3];exact q (put_did _ _) (by omega)
 rw [if_neg h3]
 by_cases h4:c.op=4
 ·rw [if_pos h4];exact q (.quiet rfl rfl rfl rfl) (by omega)
 rw [if_neg h4]
 by_cases h5:c.op=5
 ·rw [if_pos h5];exact q (.quiet rfl rfl rfl rfl) (by omega)
 rw [if_neg h5]
 by_cases h6:c.op=6
 ·rw [if_pos h6];exact q ((put_did _ _).of rfl rfl rfl rfl) (by omega)
 rw [if_neg h6]
 by_cases h7:c.op=7
 ·rw [if_pos h7];exact q ((put_did _ _).of rfl rfl rfl rfl) (by omega)
 rw [if_neg h7]
 by_cases h21:c.op=21
 ·rw [if_pos h21];exact q (.quiet rfl rfl rfl rfl) (by omega)
 rw [if_neg h21]
 by_cases h22:c.op=22
 ·rw [if_pos h22]
  split
  ·exact q (.quiet rfl rfl rfl rfl) (by omega)
  ·exact q (.quiet rfl rfl rfl rfl) (by omega)
 rw [if_neg h22]
 by_cases bE:c.op=26
 ·rw [if_pos bE];exact .inl ⟨bE,rfl,.inl ⟨rfl,rfl,rfl⟩⟩
 rw [if_neg bE]
 by_cases h27:c.op=27
 ·rw [if_pos h27]
  obtain ⟨k1,k2⟩:=put_did (t.note ⟨3,c.a,rv⟩) rv
  refine .inr (.inl ⟨h27,k1,?_⟩)
  rw [List.append_nil] at k2
  exact k2
 rw [if_neg h27]
 by_cases ng:c.op=28
 ·rw [if_pos ng];exact .inr (.inr (.inl ⟨ng,rfl,rfl,rfl,rfl⟩))
 rw [if_neg ng]
 by_cases h23:c.op=23
 ·rw [if_pos h23];exact q (YZ _ _ _) (by omega)
 rw [if_neg h23]
 by_cases iL:c.op=24
 ·rw [if_pos iL];exact q ((put_did _ _).of rfl rfl rfl rfl) (by omega)
 rw [if_neg iL]
 by_cases gJ:c.op=29
 ·rw [if_pos gJ]
  obtain ⟨g,hg,hd⟩:=Y0 m t c.a.toNat
  exact .inr (.inr (.inr ⟨by omega,.inl ⟨g,hg.imp id (fun e=>⟨_,e⟩),hd⟩⟩))
 rw [if_neg gJ]
 by_cases l8:c.op=30
 ·rw [if_pos l8];exact q (Y2 _) (by omega)
 rw [if_neg l8]
 by_cases h31:c.op=31
 ·rw [if_pos h31];exact q ((ND _ _ _).of rfl rfl rfl rfl) (by omega)
 rw [if_neg h31]
 by_cases l9:c.op=25
 ·rw [if_pos l9]
  rcases Y1 t with h | h
  ·exact q h (by omega)
  ·exact .inr (.inr (.inr ⟨by omega,.inr h⟩))
 rw [if_neg l9]
 by_cases h32:c.op=32
 ·rw [if_pos h32];exact q ((put_did _ _).of rfl rfl rfl rfl) (by omega)
 rw [if_neg h32]
 exact q (Y3 _ _) ⟨bE,h27,ng⟩
theorem fG.grows {t t':Tk}{g:List Ev}(h:fG t t' g):t.log <+: t'.log∧t.out <+: t'.out:=by
 obtain ⟨h1,h2⟩:=h
 refine ⟨?_,by rw [h1];exact List.prefix_refl _⟩
 rcases h2 with ⟨e,_⟩ | ⟨n,e,_⟩
 ·rw [e];exact List.prefix_append _ _
 ·rw [e,List.append_assoc];exact List.prefix_append _ _
theorem wu.grows {c:Ins}{t t':Tk}{v rv:Int}(h:wu c t t' v rv):t.log <+: t'.log∧t.out <+: t'.out:=by
 rcases h with ⟨_,h⟩ | ⟨_,h⟩ | ⟨_,h1,h2,_⟩ | ⟨_,⟨g,_,h⟩ | ⟨h1,h2,_⟩⟩
 ·exact h.grows
 ·exact h.grows
 ·rw [h1,h2];exact ⟨List.prefix_append _ _,List.prefix_append _ _⟩
 ·exact h.grows
 ·rw [h1,h2];exact ⟨List.prefix_append _ _,List.prefix_refl _⟩
theorem fG.few {t t':Tk}{g:List Ev}(h:fG t t' g):t'.log.length≤t.log.length+g.length+1:=by
 rcases h.2 with ⟨e,_⟩ | ⟨n,e,_⟩
 ·rw [e,List.length_append];omega
 ·rw [e,List.length_append,List.length_append];simp
theorem wu.few {c:Ins}{t t':Tk}{v rv:Int}(h:wu c t t' v rv):t'.log.length≤t.log.length+2:=by
 rcases h with ⟨_,h⟩ | ⟨_,h⟩ | ⟨_,h1,h2,_⟩ | ⟨_,⟨g,hg,h⟩ | ⟨h1,h2,_⟩⟩
 ·have:=h.few;simpa using this
 ·have:=h.few;simpa using this
 ·rw [h2];simp
 ·have:=h.few
  rcases hg with rfl | ⟨n,rfl⟩ <;> simp at this <;> omega
 ·rw [h2];simp
theorem Y5 (m:Md)(c:Ins)(t:Tk)(rv:Int):(t.act m c rv).log.length≤t.log.length+2:=(Y4 m c t rv).few
end Vm
end Go.Proofs.YthffafaoobpedaaGreatDoor
namespace Go.Proofs.YthffafaoobpedaaGreatDoor.Vw
open Go.RowKit Vf Vm
theorem Y6 {β:Type}{X:fQ β}{c:Cx}{K:KM}{G:List Nat}{t:Tk}{st:List Int}{x:β}(hK:lZ c.m K)(hM:Mid c.m K G t st st)(iR:(t.ins c.m).op=27→WT G (gM c.m (t.ins c.m).a) (X.head x (t.ins c.m).a.toNat))(hws:∀ (j:Nat) h,t.ae[j]?=some h→h.ws.length≤400)(NF:∀ n,(t.ins c.m).op=26→(t.ins c.m).a=(n:Nat)→X.may x n)(hemp:(t.ins c.m).op=27→X.empty x (t.ins c.m).a.toNat=false)(hout:t.out.length≤1000000)(bJ:t.log.length≤2000000) :
  ∃ f rs u i,lF c t f rs u i∧jo X c t x f rs u i:=by
 obtain ⟨h,f,r,u,i,k,k',H⟩:=hM.here hK
 obtain ⟨hS,_⟩:=Ku hK hM _ iR
 obtain ⟨xP,f',r',NG,u',i',hu',hi',s1,s2,s3,s4,s5,s6,s7,s8⟩:=hS
 have htop:=dN H.hh
 have hfs:t.top.fs=f :: r:=by rw [htop];exact H.fs
 rw [hfs] at NG
 cases NG
 rw [H.un] at hu'
 cases hu'
 rw [H.code] at hi'
 cases hi'
 have ei:=H.ins
 rw [ei] at NF hemp
 obtain ⟨hp1,hp2,hrg⟩:=H.pos
 have hsz:=jI (ig H.head).2.1
 have hpc:f.pc < u.code.length:=fO H.code
 have F3:i.op=26∨i.op=27→∃ n:Nat,i.a=n∧n < c.m.boxes.length:=fun ho=>by
  unfold ranged at hrg
  rw [if_neg (by omega),if_neg (by omega),if_neg (by omega),if_neg (by omega),if_neg (by omega),if_pos ho] at hrg
  simp at hrg
  exact ⟨i.a.toNat,by omega,by omega⟩
 have DW:i.op=21∨i.op=22→0≤i.a:=fun ho=>by
  unfold ranged at hrg
  rw [if_neg (by omega),if_neg (by omega),if_pos ho] at hrg
  simp at hrg
  exact hrg.1
 have hun:i.op=23∨i.op=29→∃ v,c.m.units[i.a.toNat]?=some v∧0≤i.a:=fun ho=>by
  unfold ranged at hrg
  rcases ho with ho | ho
  ·rw [if_neg (by omega),if_neg (by omega),if_neg (by omega),if_pos ho] at hrg
   obtain ⟨v,hv,_⟩:=kg hrg
   unfold is at hrg
   simp at hrg
   exact ⟨v,hv,hrg.1⟩
  ·rw [if_neg (by omega),if_neg (by omega),if_neg (by omega),if_neg (by omega),if_pos ho] at hrg
   obtain ⟨v,hv,_⟩:=kg hrg
   unfold is at hrg
   simp at hrg
   exact ⟨v,hv,hrg.1⟩
 have eg:=H.at' (f.pc+1)
 have Bu:(t.goto (f.pc+1)).top={ h with fs:={ f with pc:=f.pc+1 } :: r }:=by rw [eg];exact dN (dY H.hh)
 have hlast:(t.goto (f.pc+1)).last=t.last:=by unfold Tk.last;rw [Bu,htop]
 have Y7:(t.goto (f.pc+1)).cut.last=t.cut.last:=by
  unfold Tk.last
  rw [eg,l6 (dY H.hh),l6 H.hh,dN (dY H.hh),dN (dY (dY H.hh))]
 have hlen:(t.goto (f.pc+1)).ae.length=t.ae.length:=by rw [eg];simp [Tk.set]
 have hhd:(t.goto (f.pc+1)).hand=t.hand:=rfl
 refine ⟨f,r,u,i,⟨hfs,H.un,H.code,F3⟩,hfs,H.un,H.code,by omega,?_,⟨hp1,hp2⟩,s3,DW,fun ho=>?_,fun ho=>?_,hout,bJ,⟨fun ho=>?_,fun ho=>?_,fun ho=>?_,fun ho=>?_,fun ho=>?_,fun j h' k hh hk=>?_⟩⟩
 ·have:=hws _ _ H.hh;rw [htop] at s2;omega
 ·obtain ⟨n,e,hn⟩:=F3 (.inl ho);exact ⟨n,e,hn,NF n ho e⟩
 ·obtain ⟨n,e,hn⟩:=F3 (.inr ho)
  have:=hemp ho
  rw [e,Int.toNat_natCast] at this
  exact ⟨n,e,hn,this⟩
 ·obtain ⟨v,hv,h0⟩:=hun ho
  have hz:=jI (ig (hK.rt.heads _ v hv).1).2.1
  have h1:=s1 ho
  rw [Aw hv,htop] at h1
  rw [Bu]
  exact ⟨i.a.toNat,by omega,v,hv,by omega,h1,by omega,by omega⟩
 ·rw [Bu]
  have h1:=(s4 ho).2
  rw [htop] at h1
  exact ⟨_,_,rfl,h1⟩
 ·rw [Y7,hlen];exact s5 ho
 ·rw [hlast,hlen];exact s6 ho
 ·rw [Bu,hlen]
  rw [htop] at s7
  exact s7 ho
 ·rw [hlen]
  rw [eg] at hh
  change (t.ae.set t.hand _)[j]?=some h' at hh
  rw [List.getElem?_set] at hh
  split at hh
  ·cases hh;exact s8 _ _ k H.hh hk
  ·exact s8 _ _ k hh hk
structure LI (m:Md) (K:KM) (fs:List (List Int)) (n:Nat) (t:Tk) (x:List aV):Prop where
 goes:Goes m K t
 over:t.over=0∨t.over=4∨t.over=5
 out:t.out.length≤n
 log:t.log.length≤2 * n
 len:x.length=m.boxes.length
 lists:∀ (i:Nat) q,x[i]?=some q→fs[i]?=some q.feed∧q.took≤q.feed.length∧q.sent.length≤n∧(gM m i=2→q.feed.all kN=true∧q.sent.all kN=true)
theorem NH {c:Cx}{K:KM}(hK:lZ c.m K)(fs:List (List Int)):K4 aD c (LI c.m K fs):=by
 have Y8:∀ n:Nat,n < c.m.boxes.length→¬ 10≤gM c.m n:=fun n hn=>by
  obtain ⟨b,hb⟩:∃ b,c.m.boxes[n]?=some b:=⟨_,List.getElem?_eq_getElem hn⟩
  have:=hK.rt.boxes n b hb
  unfold plain at this
  simp at this
  simp only [gM,Int.toNat_natCast,hb,Option.map_some,Option.getD_some]
  omega
 have hwt:∀ (n:Nat) (t:Tk) (x:List aV),LI c.m K fs n t x→(t.ins c.m).op=27→∀ b:Nat,(t.ins c.m).a=b→b < c.m.boxes.length→aD.empty x b=false→∀ G,WT G (gM c.m (t.ins c.m).a) (aD.head x (t.ins c.m).a.toNat):=fun n t x hI ho b hb hbl he G=>by
  obtain ⟨q,hq⟩:∃ q,x[b]?=some q:=⟨_,List.getElem?_eq_getElem (by rw [hI.len];exact hbl)⟩
  rw [hb,Int.toNat_natCast]
  obtain ⟨l1,l2,l3,l4⟩:=hI.lists b q hq
  simp [aD,hq] at he ⊢
  obtain ⟨v,hv⟩:∃ v,q.feed[q.took]?=some v:=⟨_,List.getElem?_eq_getElem (by omega)⟩
  rw [hv]
  refine ⟨fun h2=>?_,fun h10=>absurd h10 (Y8 b hbl)⟩
  exact Nl.1 (List.all_eq_true.1 (l4 h2).1 v (List.mem_of_getElem? hv))
 refine ⟨fun n t x hI h0=>?_,fun n t x hn hws hI hst=>?_⟩
 ·rcases hI.goes with hg | ⟨G,st,hM⟩
  ·exact absurd h0 hg
  ·obtain ⟨h,f,r,u,i,k,k',H⟩:=hM.here hK
   obtain ⟨hp1,hp2,hrg⟩:=H.pos
   refine ⟨f,r,u,i,by rw [dN H.hh];exact H.fs,H.un,H.code,fun ho=>?_⟩
   unfold ranged at hrg
   rw [if_neg (by omega),if_neg (by omega),if_neg (by omega),if_neg (by omega),if_neg (by omega),if_pos ho] at hrg
   simp at hrg
   exact ⟨i.a.toNat,by omega,by omega⟩
 ·have h0:t.over=0:=by
   rcases hI.over with e | e | e
   ·exact e
   ·unfold stat at hst;rw [if_pos (by omega)] at hst;simp at hst;omega
   ·unfold stat at hst;rw [if_pos (by omega)] at hst;simp at hst;omega
  rcases hI.goes with hg | ⟨G,st,hM⟩
  ·exact absurd h0 hg
  ·have hemp:(t.ins c.m).op=27→aD.empty x (t.ins c.m).a.toNat=false:=fun ho=>by
    unfold stat at hst
    rw [if_neg (by omega),if_neg (by omega)] at hst
    split at hst
    ·cases hst
    ·rename_i hn2
     cases he:aD.empty x (t.ins c.m).a.toNat
     ·rfl
     ·exact absurd ⟨ho,he⟩ hn2
   have hbx:(t.ins c.m).op=26∨(t.ins c.m).op=27→∃ b:Nat,(t.ins c.m).a=b∧b < c.m.boxes.length:=fun ho=>by
    obtain ⟨h,f,r,u,i,k,k',H⟩:=hM.here hK
    rw [H.ins] at ho ⊢
    obtain ⟨hp1,hp2,hrg⟩:=H.pos
    unfold ranged at hrg
    rw [if_neg (by omega),if_neg (by omega),if_neg (by omega),if_neg (by omega),if_neg (by omega),if_pos ho] at hrg
    simp at hrg
    exact ⟨i.a.toNat,by omega,by omega⟩
   have iR:(t.ins c.m).op=27→WT G (gM c.m (t.ins c.m).a) (aD.head x (t.ins c.m).a.toNat):=fun ho=>by
    obtain ⟨b,e,hb⟩:=hbx (.inr ho)
    have he:=hemp ho
    rw [e,Int.toNat_natCast] at he
    exact hwt n t x hI ho b e hb he G
   have hout:=hI.out
   obtain ⟨f,rs,u,i,hA,yf⟩:=Y6 (X:=aD) hK hM iR hws (fun b ho e q hq=>by
    have:=(hI.lists b q hq).2.2.1
    omega) hemp (by omega) (by have:=hI.log;omega)
   refine ⟨f,rs,u,i,yf,?_⟩
   obtain ⟨_,hgo⟩:=Ku hK hM _ iR
   obtain ⟨a1,a2⟩:=Yn c.m (t.ins c.m) (t.goto (t.frame.pc+1)) (aD.head x (t.ins c.m).a.toNat)
   have NI:=Y5 c.m (t.ins c.m) (t.goto (t.frame.pc+1)) (aD.head x (t.ins c.m).a.toNat)
   have hlI:=hI.log
   have NI:(Tk.act c.m (t.ins c.m) (t.goto (t.frame.pc+1)) (aD.head x (t.ins c.m).a.toNat)).log.length≤t.log.length+2:=NI
   refine ⟨hgo,?_,?_,by show (Tk.act c.m (t.ins c.m) (t.goto (t.frame.pc+1)) (aD.head x (t.ins c.m).a.toNat)).log.length≤2 * (n+1);omega,?_,fun j q hq=>?_⟩
   ·have e:(t.goto (t.frame.pc+1)).over=t.over:=rfl
    rw [e,h0] at a2
    exact a2
   ·show (Tk.act c.m (t.ins c.m) (t.goto (t.frame.pc+1)) (aD.head x (t.ins c.m).a.toNat)).out.length≤n+1
    rw [a1]
    have e:(t.goto (t.frame.pc+1)).out=t.out:=rfl
    split <;> simp [e] <;> omega
   ·show (mY aD (t.ins c.m) _ x).length=_
    unfold mY
    split
    ·rename_i ho
     obtain ⟨b,e,hb⟩:=hbx (.inl ho)
     obtain ⟨q,hq⟩:∃ q,x[b]?=some q:=⟨_,List.getElem?_eq_getElem (by rw [hI.len];exact hb)⟩
     rw [e,Int.toNat_natCast]
     simp [aD,hq,hI.len]
    ·split
     ·rename_i _ ho
      obtain ⟨b,e,hb⟩:=hbx (.inr ho)
      obtain ⟨q,hq⟩:∃ q,x[b]?=some q:=⟨_,List.getElem?_eq_getElem (by rw [hI.len];exact hb)⟩
      rw [e,Int.toNat_natCast]
      simp [aD,hq,hI.len]
     ·exact hI.len
   ·have old:∀ q,x[j]?=some q→fs[j]?=some q.feed∧q.took≤q.feed.length∧q.sent.length≤n+1∧(gM c.m j=2→q.feed.all kN=true∧q.sent.all kN=true):=fun q hq=>by
     obtain ⟨l1,l2,l3,l4⟩:=hI.lists j q hq
     exact ⟨l1,l2,by omega,l4⟩
    change (mY aD (t.ins c.m) (t.goto (t.frame.pc+1)).last x)[j]?=some q at hq
    unfold mY at hq
    split at hq
    ·rename_i ho
     obtain ⟨b,e,hb⟩:=hbx (.inl ho)
     obtain ⟨q0,hq0⟩:∃ q,x[b]?=some q:=⟨_,List.getElem?_eq_getElem (by rw [hI.len];exact hb)⟩
     have hs:=Yp hK hM ho
     rw [e,Int.toNat_natCast] at hq
     simp only [aD,hq0] at hq
     rw [List.getElem?_set] at hq
     split at hq
     ·rename_i ej
      subst ej
      split at hq
      ·cases hq
       obtain ⟨l1,l2,l3,l4⟩:=hI.lists b q0 hq0
       refine ⟨l1,l2,by simp;omega,fun h2=>⟨(l4 h2).1,?_⟩⟩
       rw [e] at hs
       rw [List.all_append,(l4 h2).2]
       simp [Nl.2 (hs.1 h2)]
      ·cases hq
     ·exact old q hq
    ·split at hq
     ·rename_i _ ho
      obtain ⟨b,e,hb⟩:=hbx (.inr ho)
      obtain ⟨q0,hq0⟩:∃ q,x[b]?=some q:=⟨_,List.getElem?_eq_getElem (by rw [hI.len];exact hb)⟩
      have he:=hemp ho
      rw [e,Int.toNat_natCast] at hq he
      simp only [aD,hq0] at hq
      simp [aD,hq0] at he
      rw [List.getElem?_set] at hq
      split at hq
      ·rename_i ej
       subst ej
       split at hq
       ·cases hq
        obtain ⟨l1,l2,l3,l4⟩:=hI.lists b q0 hq0
        exact ⟨l1,by show q0.took+1≤q0.feed.length;omega,by show q0.sent.length≤n+1;omega,l4⟩
       ·cases hq
      ·exact old q hq
     ·exact old q hq
end Go.Proofs.YthffafaoobpedaaGreatDoor.Vw
