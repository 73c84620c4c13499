/- A pass of the document's,plainly. -/
import Derived.Test.YtbdpdjcdhclbfaaGreatM4
import Derived.Test.YtbdpdjcdhclbfaaGreatM19
import Derived.Test.YtbdpdjcdhclbfaaGreatM8
set_option maxRecDepth 100000
set_option maxHeartbeats 2000000
namespace Go.Proofs.YtbdpdjcdhclbfaaGreat
namespace Od
open Vf Vm Ot
theorem ZL (a b:Ins):(vF a b).length≤1:=by unfold vF;split<;>simp
theorem ZM (l:List Ins)(k:Nat):(su l k).1=0∨(su l k).2.length<(su l k).1:=by
 have h5:=ZL (ia l k) (ia l (k+1));unfold su second third;repeat' split
 all_goals first | (left;rfl) | (right;simp[yH,ym];done) | (right;simp;omega)
def yx (l:List Ins)(p:Nat × Ch):Bool:=decide ((DV l p.1).1≠0)
theorem RO (l:List Ins):∀ (f k:Nat),l.length≤k+f→((pieces l f k).any (yx l)=true→(out (pieces l f k)).length<l.length - k)∧((pieces l f k).any (yx l)=false→(out (pieces l f k)).length=l.length - k)
 | 0,k,h=>⟨fun h=>(by cases h),fun _=>(by show 0=_;omega)⟩
 | f+1,k,hf=>by
  by_cases hk:k<l.length
  ·have e:pieces l (f+1) k=(k,change l k) :: pieces l f (k+(change l k).1):=by rw[pieces,if_pos hk]
   have eo:out ((k,change l k) :: pieces l f (k+(change l k).1))=(change l k).2++out (pieces l f (k+(change l k).1)):=rfl;have hp:=yn l k;obtain⟨i1,i2⟩:=RO l f (k+(change l k).1) (by omega);have i0:=(Lr l f (k+(change l k).1)).1;rw[e,eo,List.length_append,List.any_cons];have hW:=PK l k;by_cases hr:(DV l k).1=0
   ·rw[if_pos hr] at hW
    have e1:yx l (k,change l k)=false:=by simp[yx,hr]
    rw[e1,Bool.false_or];rw[hW] at i1 i2 ⊢;simp only[List.length_singleton] at i1 i2 ⊢;exact⟨fun h=>by have:=i1 h;omega,fun h=>by have:=i2 h;omega⟩
   ·rw[if_neg hr] at hW
    have e1:yx l (k,change l k)=true:=by simp[yx,hr]
    rw[e1,Bool.true_or];refine⟨fun _=>?_,fun h=>by cases h⟩;have hs:=ZM l k;rw[← PM hk,← hW] at hs;rcases hp.2.2 with h | ⟨_,h,_⟩
    ·rw[h] at hs
     rcases hs with hs | hs<;>simp at hs
    ·rcases hs with hs | hs<;>omega
  ·have e:pieces l (f+1) k=[]:=by rw[pieces,if_neg hk]
   rw[e];exact⟨fun h=>(by cases h),fun _=>(by show 0=_;omega)⟩
theorem ZN (l:List Ins):(all l).any (yx l)=decide ((over l).length<l.length):=by
 obtain⟨h1,h2⟩:=RO l l.length 0 (by omega);rw[DU];cases h:(all l).any (yx l) with
 | true=>have:=h1 h;unfold all;simp;omega
 | false=>have:=h2 h;unfold all;simp;omega
def lead (q:List Nat)(x:Int):Nat:=(q.takeWhile fun (y:Nat)=>decide ((y:Int)<x)).length
theorem ZO (l:List Ins)(f k y:Nat)(h:y ∈ olds (pieces l f k)):k≤y:=by
 obtain⟨p,hp,h⟩:=List.mem_flatMap.1 h;unfold yo at h;obtain⟨_,_,rfl⟩:=List.mem_map.1 h;exact (Aq l f k p hp).1
theorem RP (l:List Ins)(x:Nat):∀ (f k:Nat),lead (olds (pieces l f k)) (x:Int)=now (pieces l f k) x
 | 0,k=>rfl
 | f+1,k=>by
  by_cases hk:k<l.length
  ·have e:pieces l (f+1) k=(k,change l k) :: pieces l f (k+(change l k).1):=by rw[pieces,if_pos hk]
   have hge:=ZO l (f+1) k;rw[e] at hge ⊢;have eo:olds ((k,change l k) :: pieces l f (k+(change l k).1))=yo (k,change l k)++olds (pieces l f (k+(change l k).1)):=rfl;rw[now];by_cases hx:k<x
   ·rw[if_pos hx,← RP l x f,eo]
    unfold lead;rw[List.takeWhile_append_of_pos,List.length_append,GR];intro y hy;unfold yo at hy;obtain⟨_,_,rfl⟩:=List.mem_map.1 hy;simpa using hx
   ·rw[if_neg hx]
    unfold lead;cases hq:olds ((k,change l k) :: pieces l f (k+(change l k).1)) with
    | nil=>rfl
    | cons y q =>
     have:=hge y (by rw[hq];exact List.mem_cons_self);rw[List.takeWhile_cons,if_neg (by simp;omega)];rfl
  ·rw[pieces,if_neg hk];rfl
theorem ZP (l:List Ins)(x:Nat):lead (olds (all l)) (x:Int)=now (all l) x:=RP l x _ _
theorem Ka {q:List Nat}{x:Int}{j:Nat}(h1:∀ i y,i<j→q[i]?=some y→(y:Int)<x)(hj:j≤q.length)(h2:∀ y,q[j]?=some y→¬ (y:Int)<x):lead q x=j:=by
 induction q generalizing j with
 | nil=>simp at hj;subst hj;rfl
 | cons a q ih =>
  unfold lead;cases j with
  | zero =>
   rw[List.takeWhile_cons,if_neg (by simpa using h2 a rfl)];rfl
  | succ j =>
   rw[List.takeWhile_cons,if_pos (by simpa using h1 0 a (by omega) rfl),List.length_cons];congr 1
   exact ih (fun i y hi hy=>h1 (i+1) y (by omega) (by simpa using hy)) (by simpa using hj) (fun y hy=>h2 y (by simpa using hy))
structure At (l:List Ins) (x:Nat) (ps:List (Nat × Ch)):Prop where
 le:x≤l.length
 rest:∃ f,all l=ps++pieces l f x∧l.length≤x+f
theorem At.start (l:List Ins):At l 0 []:=⟨Nat.zero_le _,l.length,rfl,by omega⟩
theorem At.next {l:List Ins}{x:Nat}{ps:List (Nat × Ch)}(h:At l x ps)(hx:x<l.length):At l (x+(change l x).1) (ps++[(x,change l x)]):=by
 obtain⟨f,h1,h2⟩:=h.rest;have hp:=yn l x;refine⟨?_,?_⟩
 ·rcases hp.2.2 with e | ⟨_,h,_⟩
  ·rw[e];exact hx
  ·omega
 ·cases f with
  | zero=>omega
  | succ f =>
   rw[pieces,if_pos hx] at h1;exact⟨f,by rw[h1];simp,by omega⟩
theorem At.fin {l:List Ins}{ps:List (Nat × Ch)}(h:At l l.length ps):all l=ps:=by
 obtain⟨f,h1,h2⟩:=h.rest;cases f with
 | zero=>simpa[pieces] using h1
 | succ f=>rw[pieces,if_neg (by omega)] at h1;simpa using h1
theorem At.few {l:List Ins}{x:Nat}{ps:List (Nat × Ch)}(h:At l x ps):(out ps).length≤l.length:=by
 obtain⟨f,h1,h2⟩:=h.rest;have h3:=Ls l;rw[DU,h1] at h3;unfold out at h3 ⊢;rw[List.flatMap_append,List.length_append] at h3;omega
theorem ZQ (b:Bool):yes b=0∨yes b=1:=by cases b<;>simp[yes]
theorem ZR {l:List Ins}(h:Good l){k:Nat}(hk:k<l.length):Good (change l k).2:=by
 have hi:∀ {j:Nat} {c:Ins},l[j]?=some c→c.op=2→c.a=0∨c.a=1:=fun hc=>h _ (List.mem_of_getElem? hc);rcases Js l k with e | ⟨_,e⟩
 ·rw[e,List.getElem?_eq_getElem hk]
  intro c hc;simp only[Option.getD_some,List.mem_singleton] at hc;subst hc;exact h _ (List.getElem_mem hk)
 ·rcases e with⟨a,b,c,hr,e⟩ | ⟨a,b,hr,e⟩ | ⟨a,b,hr,e⟩ | ⟨a,b,hr,e⟩ | ⟨a,b,hr,e⟩ | ⟨a,_,_,_,e⟩
  ·rw[e]
   intro d hd ho;simp only[List.mem_singleton] at hd;subst hd;unfold Ot.comes at ho ⊢;by_cases h12:c.op≤12
   ·rw[if_pos h12] at ho;cases ho
   ·rw[if_neg h12]
    show two c.op (word a) (word b)=0∨two c.op (word a) (word b)=1
    unfold two;rw[if_neg (by omega),if_neg (by omega),if_neg (by omega),if_neg (by omega),if_neg (by omega)];exact ZQ _
  ·rw[e];intro d hd;cases hd
  ·rw[e]
   intro d hd ho;simp only[yH,List.mem_singleton] at hd;subst hd;cases ho
  ·rw[e]
   intro d hd ho;simp only[ym,List.mem_singleton] at hd;subst hd;rcases hi hr.h0 (by have:=hr.VO;simpa using this) with h | h
   ·right;rw[h];show wrap (1 - 0)=1;unfold wrap Go.RowKit.wrap64;omega
   ·left;rw[h];show wrap (1 - 1)=0;unfold wrap Go.RowKit.wrap64;omega
  ·rw[e]
   intro d hd ho;simp only[vF] at hd;split at hd
   ·simp only[List.mem_singleton] at hd;subst hd;cases ho
   ·cases hd
  ·rw[e];intro d hd;cases hd
theorem ZT {l:List Ins}(h:Good l):Good (over l):=by
 intro c hc ho;obtain⟨d,hd,rfl⟩:=List.mem_map.1 hc;obtain⟨p,hp,hd⟩:=List.mem_flatMap.1 hd;obtain⟨_,h1,h2⟩:=Aq _ _ _ _ hp;rw[h2] at hd;unfold moved at ho ⊢;split
 ·rename_i hj
  rw[if_pos hj] at ho;have:d.op=2:=ho;simp[jmp,this] at hj
 ·rename_i hj
  rw[if_neg hj] at ho;exact ZR h h1 d hd ho
end Od
end Go.Proofs.YtbdpdjcdhclbfaaGreat
namespace Go.Proofs.YtbdpdjcdhclbfaaGreat.Ow
open Go.RowKit Vf Vm Ot
structure vI (lo hi:Nat) (w0:World) (P g n cap R M W n0:Nat) (fs:List (Nat × Array Value)) (jw:Nat→Bool) (w:World):Prop where
 ps:w.heap[P]?=some (BP g n cap R M W n0)
 Fq:G5 lo hi w0 R fs
 held:Held lo hi w0 w
 Ca:xx w M jw
 his:hi≤w.heap.size
theorem vI.on {lo hi:Nat}{w0:World}{P g n cap R M W n0:Nat}{fs:List (Nat × Array Value)}{jw:Nat→Bool}{w w':World}(h:vI lo hi w0 P g n cap R M W n0 fs jw w)(hb:Below w.heap.size w w'):vI lo hi w0 P g n cap R M W n0 fs jw w' :=
 ⟨(hb.block _ (lt_of_block h.ps)).trans h.ps,h.Fq,fun j h1 h2=>(hb.block j (Nat.lt_of_lt_of_le h2 h.his)).trans (h.held j h1 h2),h.Ca.keep (hb.block _ h.Ca.lt),Nat.le_trans h.his hb.size⟩
theorem ZU {lo hi:Nat}{w0 w:World}{R:Nat}{fs:List (Nat × Array Value)}(h:G5 lo hi w0 R fs)(hh:Held lo hi w0 w){i N:Nat}{uh:Array Value}(hi:fs[i]?=some (N,uh)):w.cell? ⟨R,i,none⟩=some (.func (.func N) #[] uh):=by
 have hb:=(hh R h.at'.1 h.at'.2).trans h.blk;simp[World.cell?,hb,hi]
theorem RQ {B:Nat}{w w':World}{l:List Ins}{a:Option Addr}(h:aV B w l a)(hB:B≤w.heap.size)(hb:Below w.heap.size w w'):aV B w' l a:=h.low (fun k hk=>hb.block k (by omega))
theorem ZV {ok:Nat→Bool}{d c:Ch}{l:List Ch}{i:Nat}(h:l[i]?=some c):pick ok d (l.drop i)=if 0<c.1∧ok c.1=true then c else pick ok d (l.drop (i+1)):=by
 obtain⟨h1,h2⟩:=List.getElem?_eq_some_iff.1 h;rw[List.drop_eq_getElem_cons h1,h2];rfl
theorem ZW (l:List Ins):(ve l).1≤3:=by
 unfold ve;split
 ·split<;>simp
 ·simp
theorem Kb (second:Int)(put:Ins→Ins→List Ins)(first:List Int)(l:List Ins):(pair second put first l).1≤3:=by
 unfold pair;split
 ·split<;>simp
 ·simp
theorem ZX (k:Nat)(l:List Ins):(next k l).1≤3:=by
 unfold next;split
 ·split<;>simp
 ·simp
theorem ZY (i k:Nat)(l:List Ins):(DY i k l).1≤3:=by
 unfold DY;split
 ·exact ZW l
 ·exact Kb _ _ _ l
 ·exact Kb _ _ _ l
 ·exact Kb _ _ _ l
 ·exact Kb _ _ _ l
 ·exact ZX k l
theorem ZZ {w0 w w1:World}{v:Value}{l:List Ins}{b:Nat}(h:uI w0 w v l)(hb:b<w0.heap.size)(hs:w1.heap.size≤w0.heap.size)(x y:Value):uI w1 ((w.setCell ⟨b,0,none⟩ x).setCell ⟨b,1,none⟩ y) v l:=by
 rcases h with h | ⟨c,q,h1,h2,h3,h4⟩
 ·exact .inl h
 ·exact .inr ⟨c,q,h1,h2,Nat.le_trans hs h3,by rw[Below.heap_setCell _ ⟨b,1,none⟩ _ _ (by show q≠b;omega),Below.heap_setCell _ ⟨b,0,none⟩ _ _ (by show q≠b;omega)];exact h4⟩
def Kc (w w':World)(g cap:Nat)(l:List Ins)(x:Nat)(v:Value):Prop :=
 uI w w' v (change l x).2∨(v=.slice (some ⟨g,x * 3,none⟩) 1 (cap - x)∧∃ c,l[x]?=some c∧change l x=(1,[c]))
theorem Z0 (lo hi:Nat)(w0:World)(P g cap R M W n0 B x:Nat)(fs:List (Nat × Array Value))(l:List Ins)(w:World)(hP:Hid (vI lo hi w0 P g l.length cap R M W n0 fs (lg l) w))(hC:Hid (aV B w (l.drop x) (some ⟨g,x * 3,none⟩)))(hB:B≤w.heap.size)(hl:l.length≤4000)(hx:x<l.length)(hcap:l.length≤cap∧cap≤9223372036854775807) :
  Calls Tryz.prog 39 #[.pointer (some ⟨P,0,none⟩),.int .i64 x] w fun e w'=>∃ v m c,e=.returned (.agg #[.int .i64 (change l x).1,.slice v m c])∧Kc w w' g cap l x (.slice v m c)∧Below w.heap.size w w':=by
 obtain⟨n,hn⟩:∃ n,n=l.length:=⟨_,rfl⟩;rw[← hn] at hP hl hx hcap;have HN:=hide hn;clear hn;have x1:(x:Int)≤4000:=by omega
 have x2:(x:Int)<(n:Int):=by omega
 have x3:(x:Int)≤(n:Int):=by omega
 have n1:(n:Int)≤4000:=by omega
 have c1:(n:Int)≤(cap:Int):=by omega
 have c2:(x:Int)≤(cap:Int):=by omega
 obtain⟨r,hr⟩:∃ r,r=l.drop x:=⟨_,rfl⟩;have Ia:Hid (r.length=n - x):=by unfold Hid;rw[hr,List.length_drop,HN.out]
 have HRR:=hide hr;rw[← hr] at hC;clear hr;have HB0:Hid (Below w.heap.size w (w.alloc sD)):=fG _ _;have RS:Hid (vI lo hi w0 P g n cap R M W n0 fs (lg l) (w.alloc sD)):=hP.out.on HB0.out;have Z4:(w.alloc sD).heap.size=w.heap.size+1:=by simp
 have yu:=hide Z4;have MQ:Hid ((w.alloc sD).heap[w.heap.size]?=some sD):=heap_alloc_new _ _;go_enter Tryz.func39,Tryz.ntmps39
 obtain⟨p0,p1,p2,p3⟩:=yL hP.out.ps;have JA:=lt_of_block hP.out.ps;go_wp2
 clear p0 p1 p2 p3;go_loopw [13] (fun i wr=>∃ j:Nat,j≤6∧i=.int .i64 j∧change l x=pick (may l x) (1,[(l[x]?).getD i0]) ((answers x r).drop j)∧Below (w.heap.size+1) (w.alloc sD) wr) (fun i _=>6 - (intOf i).toNat)
 case atStart=>exact⟨0,Nat.zero_le _,rfl,by rw[HRR.out];rfl,Below.refl _ _⟩
 case round =>
  obtain⟨j,hj,rfl,hch,hB1⟩:=hrel;have Cb:=hide hch;have HB1:Hid (Below (w.alloc sD).heap.size (w.alloc sD) wr):=by unfold Hid;rw[yu.out];exact hB1
  have xe:=hide (RS.out.on HB1.out);obtain⟨p0,p1,p2,p3⟩:=yL xe.out.ps;have uF:Hid (Below w.heap.size w wr):=az HB0.out HB1.out;have RU:=HB1.out.block w.heap.size (by omega);obtain⟨m0,m1,z0,z1⟩:=Au (RU.trans MQ.out);clear hch hB1 RU;by_cases hlt:j<6
  ·obtain⟨⟨N,uh⟩,MR⟩:∃ p,fs[j]?=some p:=⟨_,List.getElem?_eq_getElem (by rw[xe.out.Fq.len];exact hlt)⟩
   have cr:=ZU xe.out.Fq xe.out.held MR;have Ib:=hide (xe.out.Fq.rule j N uh MR);have en:=Ib.out.enter;have j1:(j:Int)<6:=by omega
   clear MR;have hcall:=Ib.out.call x r g (x * 3) (cap - x) B wr (by omega) (by rw[Ia.out];omega) (by rw[Ia.out];omega) (RQ hC.out hB uF.out) (Nat.le_trans hB uF.out.size) xe.out.held;rw[Ia.out] at hcall;obtain⟨gn,hgn⟩:∃ gn,gn=(DY j x r).1:=⟨_,rfl⟩;have hg3:gn≤3:=by rw[hgn];exact ZY _ _ _
   rw[← hgn] at hcall;have Fs:=hide hcall;have xS:=hide hgn;have Gl:=hide (ZV (ok:=may l x) (d:=(1,[(l[x]?).getD i0])) (Wy x r hlt));clear hcall hgn;go_wp2_with fail
   refine Fs.out.mono ?_;rintro e w1 ⟨v,m,c,rfl,hp,hb1⟩;have uE:=hide hp;have HB2:Hid (Below (w.alloc sD).heap.size (w.alloc sD) w1):=az HB1.out hb1;clear hp hb1 Fs cr en p0 p1 p2 p3 m0 m1 z0 z1;obtain⟨W2,hW2⟩:∃ W2,W2=w1.alloc (.cells #[.int .i64 gn,.slice v m c] 87):=⟨_,rfl⟩;have hb2:Below w1.heap.size w1 W2:=by rw[hW2];exact fG _ _
   have q0:W2.heap[w1.heap.size]?=some (.cells #[.int .i64 gn,.slice v m c] 87 (0,0)):=by rw[hW2];exact heap_alloc_new _ _
   have HB3:Hid (Below (w.alloc sD).heap.size (w.alloc sD) W2):=az HB2.out hb2;have vM:Hid (uI wr W2 (.slice v m c) (DY j x r).2):=uE.out.keep (Nat.le_refl _) hb2;have Ke:=hide (RS.out.on HB3.out);have hV2:=HB3.out.block w.heap.size (by omega);have h1w:w.heap.size<w1.heap.size:=Nat.lt_of_lt_of_le (by omega) HB2.out.size;have hne:¬ w1.heap.size=w.heap.size:=by omega
   have hne2:¬ w.heap.size=w1.heap.size:=by omega
   have HW2:=hide hW2.symm;obtain⟨a0,a1,y0,y1⟩:=Au q0;obtain⟨m0,m1,z0,z1⟩:=Au (hV2.trans MQ.out);have RV:=hide q0;have Av:=hide (hV2.trans MQ.out);clear hW2 hb2 q0 hV2 HB2 uE;go_upto_region 5 with fail
   rw[HW2.out];clear HW2;by_cases hg0:0<gn
   ·have e1:(0:Int)<(gn:Int):=by omega
    obtain⟨ok,hok⟩:∃ ok,ok=(decide (x+gn<n) && lone (lg l) x (gn - 1)):=⟨_,rfl⟩;have gN:=hide hok;have zx:Hid (may l x gn=ok):=by unfold Hid;rw[hok,HN.out];rfl
    clear hok;go_wp2_with fail
    refine (WI P g n cap R M W n0 x gn (lg l) W2 (hide Ke.out.ps) (hide Ke.out.Ca) hl (by omega) hg3 hg0 ok gN).mono ?_;rintro e w3 ⟨rfl,hb3⟩;have uk:Hid (Below (w.alloc sD).heap.size (w.alloc sD) w3):=az HB3.out hb3;have Jy:Hid (uI wr w3 (.slice v m c) (DY j x r).2):=vM.out.keep (Nat.le_refl _) hb3;obtain⟨a0,a1,y0,y1⟩:=Au ((hb3.block _ (lt_of_block RV.out)).trans RV.out);obtain⟨m0,m1,z0,z1⟩:=Au ((hb3.block _ (lt_of_block Av.out)).trans Av.out);clear hb3 vM HB3;cases ok with
    | true =>
     have HR:Hid (change l x=DY j x r):=by
      unfold Hid;rw[Cb.out,Gl.out,if_pos ⟨by rw[← xS.out];exact hg0,by rw[← xS.out];exact zx.out⟩]
     have hwr:=uF.out.size;have Z5:w.heap.size<wr.heap.size:=Nat.lt_of_lt_of_le (by omega) HB1.out.size;have HE:Hid (∀ a b,Kc w ((w3.setCell ⟨w.heap.size,0,none⟩ a).setCell ⟨w.heap.size,1,none⟩ b) g cap l x (.slice v m c)):=fun a b=>.inl (by
      rw[HR.out];exact ZZ Jy.out Z5 hwr a b)
     have HF:Hid (∀ a b,Below w.heap.size w ((w3.setCell ⟨w.heap.size,0,none⟩ a).setCell ⟨w.heap.size,1,none⟩ b)):=fun a b=>FW (az HB0.out uk.out) a b;have HG:Hid ((change l x).1=gn):=by unfold Hid;rw[HR.out,xS.out]
     go_wp2
     exact bodyPost_ret (v:=.agg #[.int .i64 gn,.slice v m c]) (by simp[results,Tryz.results39,go_sem,m0,m1]) rfl ⟨_,_,_,by rw[HG.out],HE.out _ _,HF.out _ _⟩
    | false =>
     have Fu:Hid (change l x=pick (may l x) (1,[(l[x]?).getD i0]) ((answers x r).drop (j+1))):=by
      unfold Hid;rw[Cb.out,Gl.out,if_neg (fun h=>by have:=h.2;rw[← xS.out,zx.out] at this;cases this)]
     go_wp2
     go_roundw
     case rel=>exact⟨j+1,by omega,by go_num,Fu.out,by rw[← yu.out];exact uk.out⟩
     case measure=>simp[intOf];omega
   ·have e1:¬ (0:Int)<(gn:Int):=by omega
    have Fu:Hid (change l x=pick (may l x) (1,[(l[x]?).getD i0]) ((answers x r).drop (j+1))):=by
     unfold Hid;rw[Cb.out,Gl.out,if_neg (fun h=>hg0 (by rw[xS.out];exact h.1))]
    clear hg0;go_wp2
    go_roundw
    case rel=>exact⟨j+1,by omega,by go_num,Fu.out,by rw[← yu.out];exact HB3.out⟩
    case measure=>simp[intOf];omega
  ·obtain rfl:j=6:=by omega
   have hlx:l[x]?=some l[x]:=List.getElem?_eq_getElem (by rw[← HN.out];exact hx);have HR:Hid (change l x=(1,[l[x]])):=by
    unfold Hid;rw[Cb.out,hlx];rfl
   have HE:Hid (∀ a b,Kc w ((wr.setCell ⟨w.heap.size,0,none⟩ a).setCell ⟨w.heap.size,1,none⟩ b) g cap l x (.slice (some ⟨g,x * 3,none⟩) 1 (cap - x))):=fun a b=>.inr ⟨rfl,_,hlx,HR.out⟩;have HF:Hid (∀ a b,Below w.heap.size w ((wr.setCell ⟨w.heap.size,0,none⟩ a).setCell ⟨w.heap.size,1,none⟩ b)):=fun a b=>FW uF.out a b;have HG:Hid ((change l x).1=1):=by unfold Hid;rw[HR.out]
   have x4:(x:Int)+1≤(cap:Int):=by omega
   have x5:(x:Int)≤(x:Int)+1:=by omega
   clear hlx hlt;go_wp2
   exact bodyPost_ret (v:=.agg #[.int .i64 1,.slice (some ⟨g,x * 3,none⟩) 1 (cap - x)]) (by simp[results,Tryz.results39,go_sem,m0,m1]) rfl ⟨_,_,_,by rw[HG.out];rfl,HE.out _ _,HF.out _ _⟩
theorem RY {l:List Ins}{k:Nat}{c:Ins}(h:l[k]?=some c)(n:Nat):lg (l.take (k+1)) n=(lg (l.take k) n || (jmp c && c.a==(n:Int))):=by
 unfold lg;rw[List.take_add_one,h,List.any_append];simp
structure Ap (lo hi P g M W:Nat):Prop where
 pg:P≠g
 pm:P≠M
 pw:P≠W
 gm:g≠M
 gw:g≠W
 mw:M≠W
 oP:P<lo∨hi≤P
 oG:g<lo∨hi≤g
 oM:M<lo∨hi≤M
 oW:W<lo∨hi≤W
theorem vI.gm {lo hi:Nat}{w0:World}{P g n cap R M W n0:Nat}{fs:List (Nat × Array Value)}{jw RZ:Nat→Bool}{w w':World}(h:vI lo hi w0 P g n cap R M W n0 fs jw w)(ha:Ap lo hi P g M W)(hg:w.grownBy w' (some M))(hm:xx w' M RZ):vI lo hi w0 P g n cap R M W n0 fs RZ w' :=
 ⟨(hg.block P (lt_of_block h.ps) (by intro e;cases e;exact ha.pm rfl)).trans h.ps,h.Fq,fun j h1 h2=>(hg.block j (Nat.lt_of_lt_of_le h2 h.his) (by intro e;cases e;have:=ha.oM;omega)).trans (h.held j h1 h2),hm,Nat.le_trans h.his hg.size⟩
theorem R5 {B:Nat}{w w':World}{l:List Ins}{g M:Nat}{off:Nat}(h:aV B w l (some ⟨g,off,none⟩))(hB:B≤w.heap.size)(hg:w.grownBy w' (some M))(hgm:g≠M):aV B w' l (some ⟨g,off,none⟩):=fun i x hx=>by
 obtain⟨h1,h2,h3,b,o,e,hb,c0,c1,c2⟩:=h i x hx;cases e;have hk:=hg.block g (by omega) (by intro e;cases e;exact hgm rfl);exact⟨h1,h2,h3,g,off,rfl,hb,(gZ hk _).trans c0,(gZ hk _).trans c1,(gZ hk _).trans c2⟩
theorem Fv {w w':World}(h:Below w.heap.size w w')(r:Option Nat):w.grownBy w' r:=⟨h.os,h.tape,h.output,h.size,fun k hk _=>h.block k hk⟩
theorem Ic {a b c:World}{M:Nat}(h:a.grownBy b (some M))(k:b.grownBy c (some M)):a.grownBy c (some M) :=
 ⟨k.os.trans h.os,k.tape.trans h.tape,k.output.trans h.output,Nat.le_trans h.size k.size,fun j hj hne=>(k.block j (Nat.lt_of_lt_of_le hj h.size) hne).trans (h.block j hj hne)⟩
theorem Z7 (lo hi:Nat)(w0:World)(P g cap R M W n0 B:Nat)(fs:List (Nat × Array Value))(l:List Ins)(Kg:Nat→Bool)(w:World)(hP:Hid (vI lo hi w0 P g l.length cap R M W n0 fs Kg w))(ha:Hid (Ap lo hi P g M W))(hC:Hid (aV B w l (some ⟨g,0,none⟩)))(hB:B≤w.heap.size)(hl:l.length≤4000)(hj:Hid (yI l)) :
  Calls Tryz.prog 38 #[.pointer (some ⟨P,0,none⟩)] w fun e w'=>e=.returned (.tuple #[])∧vI lo hi w0 P g l.length cap R M W n0 fs (lg l) w'∧w.grownBy w' (some M):=by
 obtain⟨n,hn⟩:∃ n,n=l.length:=⟨_,rfl⟩;rw[← hn] at hP hl;have HN:=hide hn;obtain⟨p0,p1,p2,p3⟩:=yL hP.out.ps;obtain⟨w1,hrun,hA1,hg1⟩:=WH hP.out.Ca 0;have aH:=hide hg1;have uE:Hid (vI lo hi w0 P g n cap R M W n0 fs (lg (l.take 0)) w1):=hP.out.gm ha.out hg1 hA1;have n1:(n:Int)≤4000:=by omega
 clear hn hA1 hg1;go_enter Tryz.func38,Tryz.ntmps38
 obtain⟨q0,q1,q2,q3⟩:=yL uE.out.ps;go_wp2
 clear p0 p1 p2 p3 q0 q1 q2 q3 hrun;go_loopw [13] (fun i wr=>∃ k:Nat,k≤n∧i=.int .i64 k∧vI lo hi w0 P g n cap R M W n0 fs (lg (l.take k)) wr∧w.grownBy wr (some M)) (fun i _=>n - (intOf i).toNat)
 case atStart=>exact⟨0,Nat.zero_le _,rfl,uE.out,aH.out⟩
 case round =>
  obtain⟨k,hk,rfl,R6,Cc⟩:=hrel;have Gl:=hide R6;have zF:=hide Cc;clear R6 Cc uE aH;by_cases hlt:k<n
  ·obtain⟨c,hc⟩:∃ c,l[k]?=some c:=⟨_,List.getElem?_eq_getElem (by rw[← HN.out];exact hlt)⟩
   obtain⟨hgB,x0,x1,x2⟩:=Ar (R5 hC.out hB zF.out ha.out.gm) hc;rw[Nat.zero_add] at x0 x1 x2;have yT:=hide hc;have k0:(0:Int)≤(k:Int):=by omega
   have k1:(k:Int)<(n:Int):=by omega
   have hgl:g<wr.heap.size:=Nat.lt_of_lt_of_le hgB (Nat.le_trans hB zF.out.size);obtain⟨W2,hW2⟩:∃ W2,W2=(wr.alloc (fF c)).alloc (fF c):=⟨_,rfl⟩;have hb2:Below wr.heap.size wr W2:=by rw[hW2];exact vY _ _ _
   have hq:W2.heap[wr.heap.size]?=some (fF c):=by
    rw[hW2,Below.heap_alloc _ _ _ (by simp)];exact heap_alloc_new _ _
   have HW2:=hide hW2.symm;have vM:=hide (Gl.out.on hb2);have HG2:Hid (w.grownBy W2 (some M)):=Ic zF.out (Fv hb2 _);have HQ:=hide hq;clear hc hW2 hb2 hq;go_wp2_with fail
   refine (PS c _).mono ?_;rintro e w3 ⟨rfl,rfl⟩;rw[HW2.out];clear HW2;cases hjc:jmp c with
   | true =>
    obtain⟨c0,c1⟩:=hj.out c (List.mem_of_getElem? yT.out) hjc;have MS:((c.a.toNat:Nat):Int)=c.a:=by omega
    obtain⟨w4,hrun,MU,hg4⟩:=WG (w:=W2.drew) (k:=c.a.toNat) (vM.out.Ca.keep (w':=W2.drew) rfl);rw[MS] at hrun;have Ie:(fun i=>decide (i=c.a.toNat) || lg (l.take k) i)=lg (l.take (k+1)):=by
     funext i
     rw[RY yT.out,hjc,Bool.true_and,Bool.or_comm];congr 1
     by_cases h:i=c.a.toNat
     ·subst h
      rw[MS];simp
     ·have:¬ c.a=(i:Int):=by omega
      simp[h,this]
    rw[Ie] at MU;have zZ:W2.grownBy w4 (some M):=⟨hg4.os,hg4.tape,hg4.output,hg4.size,hg4.block⟩;have zw:=hide (vM.out.gm ha.out zZ MU);have sI:=hide (Ic HG2.out zZ);obtain⟨q0,q1,q2,q3⟩:=yL vM.out.ps;have b1:W2.cell? ⟨wr.heap.size,1,none⟩=some (.int .i64 c.a):=by simp[World.cell?,HQ.out]
    clear MU hg4 zZ Ie MS c0 c1;go_wp2
    go_region
    go_wp2
    go_roundw
    case rel=>exact⟨k+1,by omega,by go_num,zw.out,sI.out⟩
    case measure=>simp[intOf];omega
   | false =>
    have Ie:lg (l.take (k+1))=lg (l.take k):=by
     funext i
     rw[RY yT.out,hjc];simp
    have zw:Hid (vI lo hi w0 P g n cap R M W n0 fs (lg (l.take (k+1))) W2):=by unfold Hid;rw[Ie];exact vM.out
    clear Ie;go_wp2
    go_roundw
    case rel=>exact⟨k+1,by omega,by go_num,zw.out,HG2.out⟩
    case measure=>simp[intOf];omega
  ·obtain rfl:k=n:=by omega
   have HE:Hid (lg (l.take k)=lg l):=by unfold Hid;rw[HN.out,List.take_length]
   go_wp2
   go_end0
   exact⟨rfl,by rw[← HE.out,← HN.out];exact Gl.out,zF.out⟩
end Go.Proofs.YtbdpdjcdhclbfaaGreat.Ow
