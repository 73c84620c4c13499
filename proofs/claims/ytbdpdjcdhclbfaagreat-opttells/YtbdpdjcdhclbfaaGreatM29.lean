/- The document's answer,chapter 7,walked: take. -/
import Derived.Test.YtbdpdjcdhclbfaaGreatM26
import Derived.Lib.Bytes
import Derived.Test.YtbdpdjcdhclbfaaGreatM27
set_option maxRecDepth 100000
set_option maxHeartbeats 2000000
namespace Go.Proofs.YtbdpdjcdhclbfaaGreat
open Go.RowKit
namespace Vf
def jC:List UInt8→List UInt8→UInt8→Except Int (List UInt8)
 | [],st,_=>.ok st
 | _ :: _,[],_=>.error 12
 | c :: ws,x :: st,last =>
  if c=42 then jC ws st last
  else if c=63 then (if (x≠110∧x≠98)∨(last≠0∧last≠x) then .error 9 else jC ws st x)
  else if x=c then jC ws st last else .error 9
end Vf
def abX (r:Except Int (List UInt8))(e:Ending):Prop :=
 match r with
 | .ok l=>∃ s:ByteArray,s.data.toList=l.reverse∧e=.returned (.tuple #[.string s,.int .i64 0])
 | .error n=>e=.returned (.tuple #[.string ⟨#[]⟩,.int .i64 n])
structure abY (t:ByteArray) (R:Except Int (List UInt8)) (s:ByteArray) (last:UInt8) (st wt:List UInt8):Prop where
 N8:s.data.toList=st.reverse
 wtE:∃ pre,t.data.toList=wt.reverse++pre
 rest:R=Vf.jC wt st last
 few:s.size≤1000
theorem gV (s:ByteArray):s.data.toList.length=s.size:=by rw[Array.length_toList];rfl
theorem byte_at {s:ByteArray}{l:List UInt8}(h:s.data.toList=l){k:Nat}{x:UInt8}(hx:l[k]?=some x):∃ hk:k<s.size,s[k]=x:=by
 obtain⟨h1,h2⟩:=List.getElem?_eq_some_iff.1 hx;have hk:k<s.size:=by rw[← gV,h];exact h1
 refine⟨hk,?_⟩;subst h;have:s.data.toList[k]'h1=s[k]:=by simp[ByteArray.getElem_eq_getElem_data]
 rw[← this];exact h2
theorem ab0 (s:ByteArray)(n:Nat):(s.extract 0 n).data.toList=s.data.toList.take n:=by
 rw[ByteArray.data_extract];simp
theorem ab1 {s:ByteArray}(h:s.data.toList=[]):s=⟨#[]⟩:=by
 apply ByteArray.ext;simpa using h
theorem N9 {s:ByteArray}(h:0<s.size):s.toList.isEmpty=false:=by
 rw[Lib.toList_data];cases hl:s.data.toList with
 | nil=>rw[← gV,hl] at h;exact absurd h (by decide)
 | cons _ _=>rfl
theorem Oa {c n:UInt8}(h:¬ c=n):((c.toNat:Int)==(n.toNat:Int))=false:=by
 rw[Bool.eq_false_iff];intro e;rw[beq_iff_eq] at e;exact h (UInt8.toNat_inj.1 (by omega))
theorem FH {c n:UInt8}(h:¬ c=n):((c.toNat:Int) != (n.toNat:Int))=true:=by
 unfold bne;rw[Oa h];rfl
theorem AV (s t:ByteArray)(st wt:List UInt8)(w:World)(hs:Hid (s.data.toList=st.reverse))(ht:Hid (t.data.toList=wt.reverse))(hsl:s.size≤1000)(htl:t.size≤1000)(R:Except Int (List UInt8))(hR:Hid (R=Vf.jC wt st 0)) :
  Calls Tryz.prog 47 #[.string s,.string t] w fun e w'=>abX R e∧w'=w:=by
 have hlen:t.size=wt.length:=by rw[← gV,ht.out];simp
 go_enter Tryz.func47,Tryz.ntmps47
 go_wp2
 go_loopw [0,6,7] (fun v0 v6 v7 wr=>∃ (s':ByteArray) (last:UInt8) (st' KI:List UInt8),v0=.string s'∧v6=.int .u8 (last.toNat:Int)∧v7=.int .i64 ((KI.length:Int) - 1)∧abY t R s' last st' KI∧wr=w) (fun _ _ v _=>(intOf v+1).toNat)
 case atStart=>exact⟨s,0,st,wt,rfl,rfl,rfl,⟨hs.out,⟨[],by rw[ht.out];simp⟩,hR.out,hsl⟩,rfl⟩
 case round =>
  clear hs hR hsl;obtain⟨s',last,st',KI,rfl,rfl,rfl,hA,rfl⟩:=hrel;have HA:=hide hA;clear hA;match KI with
  | [] =>
   have HR:Hid (R=.ok st'):=HA.out.rest;go_wp2
   refine bodyPost_ret (v:=.tuple #[.string s',.int .i64 0]) (by simp[results,Tryz.results47,go_sem]) rfl ?_;rw[HR.out];exact⟨⟨s',HA.out.N8,rfl⟩,rfl⟩
  | c :: ws =>
   obtain⟨pre,hpre⟩:=HA.out.wtE;obtain⟨htk,htc⟩:=byte_at hpre (k:=ws.length) (x:=c) (by simp);match st' with
   | [] =>
    have HR:Hid (R=.error 12):=HA.out.rest;obtain rfl:s'=⟨#[]⟩:=ab1 HA.out.N8;clear hpre;go_wp2
    refine bodyPost_ret (v:=.tuple #[.string ⟨#[]⟩,.int .i64 12]) (by simp[results,Tryz.results47,go_sem]) rfl ?_;rw[HR.out];exact⟨rfl,rfl⟩
   | x :: r =>
    have hst:s'.data.toList=r.reverse++[x]:=by rw[HA.out.N8];simp
    have hsz:s'.size=r.length+1:=by rw[← gV,hst];simp
    obtain⟨hsk,hsx⟩:=byte_at hst (k:=r.length) (x:=x) (by simp);have hne:s'.toList.isEmpty=false:=N9 (by omega);have aed:=HA.out.few;have hwl:ws.length<1000:=by omega
    obtain⟨s2,hs2⟩:∃ s2,s'.extract 0 r.length=s2:=⟨_,rfl⟩;have HS2:Hid (s2.data.toList=r.reverse):=by
     unfold Hid;rw[← hs2,ab0,hst];simp
    clear hst;have HW:Hid (∃ pre,t.data.toList=ws.reverse++pre):=⟨c :: pre,by rw[hpre];simp⟩;clear hpre;have HRR:Hid (R=Vf.jC (c :: ws) (x :: r) last):=HA.out.rest;have Gw:s2.size≤1000:=by rw[← gV,HS2.out];simp;omega
    clear HA;by_cases I5:c=42
    ·have HR:Hid (R=Vf.jC ws r last):=by rw[HRR.out,Vf.jC,if_pos I5];rfl
     clear HRR;subst I5;go_wp2
     go_roundw
     case rel=>exact⟨s2,last,r,ws,rfl,rfl,rfl,⟨HS2.out,HW.out,HR.out,Gw⟩,by trivial⟩
     case measure=>(simp[intOf]<;>omega)
    have n42:((c.toNat:Int)==42)=false:=Oa (n:=42) I5;have HR1:Hid (R=if c=63 then (if (x≠110∧x≠98)∨(last≠0∧last≠x) then .error 9 else Vf.jC ws r x) else if x=c then Vf.jC ws r last else .error 9):=by rw[HRR.out,Vf.jC,if_neg I5];rfl
    clear HRR I5;by_cases h63:c=63
    ·have HR2:Hid (R=if (x≠110∧x≠98)∨(last≠0∧last≠x) then .error 9 else Vf.jC ws r x):=by rw[HR1.out,if_pos h63];rfl
     clear HR1;subst h63;by_cases hx:x=110
     ·skip
      by_cases hl:last=0
      ·have HR:Hid (R=Vf.jC ws r x):=by rw[HR2.out,if_neg (by rw[hx,hl];decide)];rfl
       clear HR2;subst hl hx;go_wp2
       go_roundw
       case rel=>exact⟨s2,_,r,ws,rfl,rfl,rfl,⟨HS2.out,HW.out,HR.out,Gw⟩,by trivial⟩
       case measure=>(simp[intOf]<;>omega)
      by_cases hl2:last=x
      ·have HR:Hid (R=Vf.jC ws r x):=by rw[HR2.out,if_neg (by rw[hl2,hx];decide)];rfl
       clear HR2 hl;subst hl2;subst hx;go_wp2
       go_roundw
       case rel=>exact⟨s2,_,r,ws,rfl,rfl,rfl,⟨HS2.out,HW.out,HR.out,Gw⟩,by trivial⟩
       case measure=>(simp[intOf]<;>omega)
      ·have HR:Hid (R=.error 9):=by rw[HR2.out,if_pos (.inr ⟨hl,hl2⟩)];rfl
       have l1:((last.toNat:Int) != 0)=true:=FH (c:=last) (n:=0) hl;have l2:((last.toNat:Int) != 110)=true:=FH (c:=last) (n:=110) (by rw[← hx];exact hl2);clear HR2 hl hl2;subst hx;go_wp2
       refine bodyPost_ret (v:=.tuple #[.string ⟨#[]⟩,.int .i64 9]) (by simp[results,Tryz.results47,go_sem]) rfl ?_;rw[HR.out];exact⟨rfl,rfl⟩
     by_cases hx2:x=98
     ·clear hx
      have hx:=hx2;clear hx2;by_cases hl:last=0
      ·have HR:Hid (R=Vf.jC ws r x):=by rw[HR2.out,if_neg (by rw[hx,hl];decide)];rfl
       clear HR2;subst hl hx;go_wp2
       go_roundw
       case rel=>exact⟨s2,_,r,ws,rfl,rfl,rfl,⟨HS2.out,HW.out,HR.out,Gw⟩,by trivial⟩
       case measure=>(simp[intOf]<;>omega)
      by_cases hl2:last=x
      ·have HR:Hid (R=Vf.jC ws r x):=by rw[HR2.out,if_neg (by rw[hl2,hx];decide)];rfl
       clear HR2 hl;subst hl2;subst hx;go_wp2
       go_roundw
       case rel=>exact⟨s2,_,r,ws,rfl,rfl,rfl,⟨HS2.out,HW.out,HR.out,Gw⟩,by trivial⟩
       case measure=>(simp[intOf]<;>omega)
      ·have HR:Hid (R=.error 9):=by rw[HR2.out,if_pos (.inr ⟨hl,hl2⟩)];rfl
       have l1:((last.toNat:Int) != 0)=true:=FH (c:=last) (n:=0) hl;have l2:((last.toNat:Int) != 98)=true:=FH (c:=last) (n:=98) (by rw[← hx];exact hl2);clear HR2 hl hl2;subst hx;go_wp2
       refine bodyPost_ret (v:=.tuple #[.string ⟨#[]⟩,.int .i64 9]) (by simp[results,Tryz.results47,go_sem]) rfl ?_;rw[HR.out];exact⟨rfl,rfl⟩
     ·have HR:Hid (R=.error 9):=by rw[HR2.out,if_pos (.inl ⟨hx,hx2⟩)];rfl
      have x1:((x.toNat:Int) != 110)=true:=FH (c:=x) (n:=110) hx;have x2:((x.toNat:Int) != 98)=true:=FH (c:=x) (n:=98) hx2;clear HR2 hx hx2;go_wp2
      refine bodyPost_ret (v:=.tuple #[.string ⟨#[]⟩,.int .i64 9]) (by simp[results,Tryz.results47,go_sem]) rfl ?_;rw[HR.out];exact⟨rfl,rfl⟩
    ·have n63:((c.toNat:Int)==63)=false:=Oa (n:=63) h63
     have HR2:Hid (R=if x=c then Vf.jC ws r last else .error 9):=by rw[HR1.out,if_neg h63];rfl
     clear HR1 h63;by_cases hx:x=c
     ·have HR:Hid (R=Vf.jC ws r last):=by rw[HR2.out,if_pos hx];rfl
      clear HR2;subst hx;go_wp2
      go_roundw
      case rel=>exact⟨s2,last,r,ws,rfl,rfl,rfl,⟨HS2.out,HW.out,HR.out,Gw⟩,by trivial⟩
      case measure=>(simp[intOf]<;>omega)
     ·have HR:Hid (R=.error 9):=by rw[HR2.out,if_neg hx];rfl
      have x1:((x.toNat:Int) != (c.toNat:Int))=true:=FH hx;clear HR2 hx;go_wp2
      refine bodyPost_ret (v:=.tuple #[.string ⟨#[]⟩,.int .i64 9]) (by simp[results,Tryz.results47,go_sem]) rfl ?_;rw[HR.out];exact⟨rfl,rfl⟩
namespace Vf
def ag (t:Int):UInt8:=if t=1 then 110 else if t=2 then 98 else UInt8.ofNat (55+t).toNat
def jF (t:Int):Prop:=t=1∨t=2∨(10≤t∧t<40)
theorem I6 {t:Int}(h:10≤t):ag t=UInt8.ofNat (55+t).toNat:=by unfold ag;rw[if_neg (by omega),if_neg (by omega)]
theorem I7 {s t:Int}(hs:jF s)(ht:jF t)(h:ag s=ag t):s=t:=by
 have key:∀ x:Int,jF x→((ag x).toNat:Int)=if x=1 then 110 else if x=2 then 98 else 55+x:=by
  rintro x (rfl | rfl | hx)
  ·rfl
  ·rfl
  ·rw[I6 hx.1,if_neg (by omega),if_neg (by omega),UInt8.toNat_ofNat']
   omega
 have h1:=key s hs;have h2:=key t ht;rw[h] at h1;rw[h1] at h2;rcases hs with rfl | rfl | hs<;>rcases ht with rfl | rfl | ht
 ·rfl
 ·exact absurd h2 (by decide)
 ·rw[if_pos rfl,if_neg (by omega),if_neg (by omega)] at h2;omega
 ·exact absurd h2 (by decide)
 ·rfl
 ·rw[if_neg (by decide),if_pos rfl,if_neg (by omega),if_neg (by omega)] at h2;omega
 ·rw[if_neg (by omega),if_neg (by omega),if_pos rfl] at h2;omega
 ·rw[if_neg (by omega),if_neg (by omega),if_neg (by decide),if_pos rfl] at h2;omega
 ·rw[if_neg (by omega),if_neg (by omega),if_neg (by omega),if_neg (by omega)] at h2;omega
end Vf
theorem zJ (t:Int)(ht:Vf.jF t)(w:World)(s:ByteArray)(hs:Hid (s=⟨#[Vf.ag t]⟩)):Calls Tryz.prog 46 #[.int .i64 t] w fun e w'=>e=.returned (.string s)∧w.grownBy w' none:=by
 rw[hs.out];rcases ht with rfl | rfl | h
 ·refine (abG w).mono ?_
  rintro e w' ⟨rfl,rfl⟩;exact⟨rfl,World.grownBy.refl _ _⟩
 ·refine (abH w).mono ?_
  rintro e w' ⟨rfl,rfl⟩;exact⟨rfl,World.grownBy.refl _ _⟩
 ·rw[Vf.I6 h.1]
  exact abI t h.1 h.2 w
structure ab2 (l:List Int) (w:World) (j:Nat) (s:ByteArray) (W:World):Prop where
 le:j≤l.length
 grown:w.grownBy W none
 txt:s.data.toList=(l.take j).map Vf.ag
theorem TZ (m:Vf.Md)(ab au:Option Addr)(cb cu B M:Nat)(k:Nat)(u:Vf.Un)(w:World)(hmd:Hid (aD B w m ab au))(hB:B≤w.heap.size)(hM:Hid (w.heap[M]?=some (uM m ab au cb cu)))(hu:Hid (m.units[k]?=some u))(h0:0≤u.params)(h6:u.params≤6)(hl:u.params≤u.locals.length)(hlt:Hid (∀ t ∈ u.locals,Vf.jF t)) :
  Calls Tryz.prog 78 #[.int .i64 (k:Int),.pointer (some ⟨M,0,none⟩)] w fun e w'=>(∃ s:ByteArray,s.data.toList=(u.locals.take u.params.toNat).map Vf.ag∧e=.returned (.string s))∧w.grownBy w' none:=by
 obtain⟨y0,y1,_⟩:=lF hM.out;obtain⟨b,off,al,cl,ac,cc,ha,hb,jB,q0,q1,q2,q3,q4,q5⟩:=hmd.out.units k u hu.out;obtain⟨p,hp⟩:=yM h0;have hk1:k<m.units.length:=(List.getElem?_eq_some_iff.1 hu.out).1;have hk2:(k:Int)<(m.units.length:Int):=by omega
 have hpl:p≤u.locals.length:=by omega
 have hpc:p≤cl:=by have:=jB.uh.1;omega
 have Yu:p≤6:=by omega
 rw[hp] at q1;have HP:=hide hp;obtain⟨l,hL⟩:∃ l:List Int,l=u.locals.take p:=⟨_,rfl⟩;have hll:l.length=p:=by rw[hL,List.length_take];omega
 have sF:Hid (∀ W,Low B w W→IntsIn B W l al):=fun W hW i x hx=>by
  refine (jB.locals.low hW) i x ?_;rw[hL] at hx;rw[List.getElem?_take] at hx;split at hx
  ·exact hx
  ·cases hx
 have I8:Hid (∀ t ∈ l,Vf.jF t):=fun t ht=>hlt.out t (by rw[hL] at ht;exact List.mem_of_mem_take ht);have HL:Hid (u.locals.take u.params.toNat=l):=by
  unfold Hid;rw[hp,hL];rfl
 have KJ:=hide hll;clear jB hL hp h0 h6 hl hlt hll;subst ha;go_enter Tryz.func78,Tryz.ntmps78
 go_wp2_with fail
 go_quiet (fail)
 go_wp2_with fail
 go_loopw [4,21] (fun v4 v wr=>∃ (j:Nat) (s:ByteArray),v=.int .i64 j∧v4=.string s∧ab2 l w j s wr) (fun _ v _=>p - (intOf v).toNat)
 case atStart=>exact⟨0,⟨#[]⟩,rfl,rfl,Nat.zero_le _,XV (World.grownBy.refl _ _) nq,rfl⟩
 case round =>
  clear y0 y1 q0 q1 q2 q3 q4 q5;obtain⟨j,s,rfl,rfl,hA⟩:=hrel;have HA:=hide hA;have hjp:j≤p:=by have:=hA.le;have:=KJ.out;omega
  have hsz:s.size=j:=by
   rw[← gV,hA.txt];have:=hA.le;simp;omega
  have HSZ:=hide hsz;clear hA hsz;by_cases hj:j<p
  ·obtain⟨t,ht⟩:∃ t,l[j]?=some t:=⟨_,List.getElem?_eq_getElem (by rw[KJ.out];exact hj)⟩
   obtain⟨h64,bl,ol,hal,hbl,ct⟩:=sF.out wr (aK HA.out.grown hB) j t ht;have HT:Hid (Vf.jF t):=I8.out t (List.mem_of_getElem? ht);have AX:=hide ht;obtain⟨s1,hs1⟩:∃ s1:ByteArray,s1=⟨#[Vf.ag t]⟩:=⟨_,rfl⟩;have jg:=hide hs1;have hz1:s1.size=1:=by rw[hs1];rfl
   have hz:¬ 9223372036854775807<s.size+s1.size:=by have:=HSZ.out;omega
   have HZ1:=hide hz1;clear ht hs1 hz1;subst hal;go_wp2_with fail
   refine (zJ t HT.out _ s1 jg).mono ?_;rintro e w2 ⟨rfl,hg2⟩;have HG2:Hid (w.grownBy w2 none):=aJ HA.out.grown hg2;clear hg2;go_wp2
   go_roundw
   case rel =>
    refine⟨j+1,s++s1,by go_num,rfl,by have:=KJ.out;omega,HG2.out,?_⟩;obtain⟨hj2,hjt⟩:=List.getElem?_eq_some_iff.1 AX.out;rw[List.take_succ_eq_append_getElem hj2,hjt];simp[ByteArray.data_append,HA.out.txt,jg.out]
   case measure=>simp[intOf];omega
  ·have T9:j=p:=by omega
   go_wp2
   go_ret
   refine⟨⟨s,?_,rfl⟩,HA.out.grown⟩;rw[HA.out.txt,HL.out,List.take_of_length_le (by rw[KJ.out];omega)]
def rZ (p:List UInt8 × List UInt8)(e:Ending):Prop:=∃ s t:ByteArray,s.data.toList=p.1∧t.data.toList=p.2∧e=.returned (.tuple #[.string s,.string t])
theorem rneeds_1 (m:Vf.Md)(ab au:Option Addr)(cb cu:Nat)(u:Vf.Un)(al ac:Option Addr)(cl cc:Nat)(a n:Int)(w:World)  :
  Calls Tryz.prog 45 #[aT m ab au cb cu,jm u al ac cl cc,jE 1 a n] w fun e w'=>rZ ([],[110]) e∧w.grownBy w' none:=by
 have ji:∀ (fn:Fn) (first cap:Array Value) (w:World),(Instr.makeFunc fn first cap).run Tryz.prog w=.ok (.func fn first cap) w:=fun _ _ _ _=>rfl;go_enter Tryz.func45,Tryz.ntmps45
 go_wp2
 refine bodyPost_ret (v:=.tuple #[.string ⟨#[]⟩,.string ⟨#[110]⟩]) (by simp[results,Tryz.results45,go_sem]) rfl ?_;exact⟨⟨_,_,rfl,rfl,rfl⟩,ai (aF _ _ _) _⟩
theorem rneeds_2 (m:Vf.Md)(ab au:Option Addr)(cb cu:Nat)(u:Vf.Un)(al ac:Option Addr)(cl cc:Nat)(a n:Int)(w:World)  :
  Calls Tryz.prog 45 #[aT m ab au cb cu,jm u al ac cl cc,jE 2 a n] w fun e w'=>rZ ([],[98]) e∧w.grownBy w' none:=by
 have ji:∀ (fn:Fn) (first cap:Array Value) (w:World),(Instr.makeFunc fn first cap).run Tryz.prog w=.ok (.func fn first cap) w:=fun _ _ _ _=>rfl;go_enter Tryz.func45,Tryz.ntmps45
 go_wp2
 refine bodyPost_ret (v:=.tuple #[.string ⟨#[]⟩,.string ⟨#[98]⟩]) (by simp[results,Tryz.results45,go_sem]) rfl ?_;exact⟨⟨_,_,rfl,rfl,rfl⟩,ai (aF _ _ _) _⟩
theorem rneeds_5 (m:Vf.Md)(ab au:Option Addr)(cb cu:Nat)(u:Vf.Un)(al ac:Option Addr)(cl cc:Nat)(a n:Int)(w:World)  :
  Calls Tryz.prog 45 #[aT m ab au cb cu,jm u al ac cl cc,jE 5 a n] w fun e w'=>rZ ([42],[]) e∧w.grownBy w' none:=by
 have ji:∀ (fn:Fn) (first cap:Array Value) (w:World),(Instr.makeFunc fn first cap).run Tryz.prog w=.ok (.func fn first cap) w:=fun _ _ _ _=>rfl;go_enter Tryz.func45,Tryz.ntmps45
 go_wp2
 refine bodyPost_ret (v:=.tuple #[.string ⟨#[42]⟩,.string ⟨#[]⟩]) (by simp[results,Tryz.results45,go_sem]) rfl ?_;exact⟨⟨_,_,rfl,rfl,rfl⟩,ai (aF _ _ _) _⟩
theorem rneeds_6 (m:Vf.Md)(ab au:Option Addr)(cb cu:Nat)(u:Vf.Un)(al ac:Option Addr)(cl cc:Nat)(a n:Int)(w:World)  :
  Calls Tryz.prog 45 #[aT m ab au cb cu,jm u al ac cl cc,jE 6 a n] w fun e w'=>rZ ([110],[110]) e∧w.grownBy w' none:=by
 have ji:∀ (fn:Fn) (first cap:Array Value) (w:World),(Instr.makeFunc fn first cap).run Tryz.prog w=.ok (.func fn first cap) w:=fun _ _ _ _=>rfl;go_enter Tryz.func45,Tryz.ntmps45
 go_wp2
 refine bodyPost_ret (v:=.tuple #[.string ⟨#[110]⟩,.string ⟨#[110]⟩]) (by simp[results,Tryz.results45,go_sem]) rfl ?_;exact⟨⟨_,_,rfl,rfl,rfl⟩,ai (aF _ _ _) _⟩
theorem rneeds_7 (m:Vf.Md)(ab au:Option Addr)(cb cu:Nat)(u:Vf.Un)(al ac:Option Addr)(cl cc:Nat)(a n:Int)(w:World)  :
  Calls Tryz.prog 45 #[aT m ab au cb cu,jm u al ac cl cc,jE 7 a n] w fun e w'=>rZ ([98],[98]) e∧w.grownBy w' none:=by
 have ji:∀ (fn:Fn) (first cap:Array Value) (w:World),(Instr.makeFunc fn first cap).run Tryz.prog w=.ok (.func fn first cap) w:=fun _ _ _ _=>rfl;go_enter Tryz.func45,Tryz.ntmps45
 go_wp2
 refine bodyPost_ret (v:=.tuple #[.string ⟨#[98]⟩,.string ⟨#[98]⟩]) (by simp[results,Tryz.results45,go_sem]) rfl ?_;exact⟨⟨_,_,rfl,rfl,rfl⟩,ai (aF _ _ _) _⟩
theorem rneeds_8 (m:Vf.Md)(ab au:Option Addr)(cb cu:Nat)(u:Vf.Un)(al ac:Option Addr)(cl cc:Nat)(a n:Int)(w:World)  :
  Calls Tryz.prog 45 #[aT m ab au cb cu,jm u al ac cl cc,jE 8 a n] w fun e w'=>rZ ([110,110],[110]) e∧w.grownBy w' none:=by
 have ji:∀ (fn:Fn) (first cap:Array Value) (w:World),(Instr.makeFunc fn first cap).run Tryz.prog w=.ok (.func fn first cap) w:=fun _ _ _ _=>rfl;go_enter Tryz.func45,Tryz.ntmps45
 go_wp2
 refine bodyPost_ret (v:=.tuple #[.string ⟨#[110,110]⟩,.string ⟨#[110]⟩]) (by simp[results,Tryz.results45,go_sem]) rfl ?_;exact⟨⟨_,_,rfl,rfl,rfl⟩,ai (aF _ _ _) _⟩
theorem rneeds_9 (m:Vf.Md)(ab au:Option Addr)(cb cu:Nat)(u:Vf.Un)(al ac:Option Addr)(cl cc:Nat)(a n:Int)(w:World)  :
  Calls Tryz.prog 45 #[aT m ab au cb cu,jm u al ac cl cc,jE 9 a n] w fun e w'=>rZ ([110,110],[110]) e∧w.grownBy w' none:=by
 have ji:∀ (fn:Fn) (first cap:Array Value) (w:World),(Instr.makeFunc fn first cap).run Tryz.prog w=.ok (.func fn first cap) w:=fun _ _ _ _=>rfl;go_enter Tryz.func45,Tryz.ntmps45
 go_wp2
 refine bodyPost_ret (v:=.tuple #[.string ⟨#[110,110]⟩,.string ⟨#[110]⟩]) (by simp[results,Tryz.results45,go_sem]) rfl ?_;exact⟨⟨_,_,rfl,rfl,rfl⟩,ai (aF _ _ _) _⟩
theorem rneeds_10 (m:Vf.Md)(ab au:Option Addr)(cb cu:Nat)(u:Vf.Un)(al ac:Option Addr)(cl cc:Nat)(a n:Int)(w:World)  :
  Calls Tryz.prog 45 #[aT m ab au cb cu,jm u al ac cl cc,jE 10 a n] w fun e w'=>rZ ([110,110],[110]) e∧w.grownBy w' none:=by
 have ji:∀ (fn:Fn) (first cap:Array Value) (w:World),(Instr.makeFunc fn first cap).run Tryz.prog w=.ok (.func fn first cap) w:=fun _ _ _ _=>rfl;go_enter Tryz.func45,Tryz.ntmps45
 go_wp2
 refine bodyPost_ret (v:=.tuple #[.string ⟨#[110,110]⟩,.string ⟨#[110]⟩]) (by simp[results,Tryz.results45,go_sem]) rfl ?_;exact⟨⟨_,_,rfl,rfl,rfl⟩,ai (aF _ _ _) _⟩
theorem rneeds_11 (m:Vf.Md)(ab au:Option Addr)(cb cu:Nat)(u:Vf.Un)(al ac:Option Addr)(cl cc:Nat)(a n:Int)(w:World)  :
  Calls Tryz.prog 45 #[aT m ab au cb cu,jm u al ac cl cc,jE 11 a n] w fun e w'=>rZ ([110,110],[110]) e∧w.grownBy w' none:=by
 have ji:∀ (fn:Fn) (first cap:Array Value) (w:World),(Instr.makeFunc fn first cap).run Tryz.prog w=.ok (.func fn first cap) w:=fun _ _ _ _=>rfl;go_enter Tryz.func45,Tryz.ntmps45
 go_wp2
 refine bodyPost_ret (v:=.tuple #[.string ⟨#[110,110]⟩,.string ⟨#[110]⟩]) (by simp[results,Tryz.results45,go_sem]) rfl ?_;exact⟨⟨_,_,rfl,rfl,rfl⟩,ai (aF _ _ _) _⟩
theorem rneeds_12 (m:Vf.Md)(ab au:Option Addr)(cb cu:Nat)(u:Vf.Un)(al ac:Option Addr)(cl cc:Nat)(a n:Int)(w:World)  :
  Calls Tryz.prog 45 #[aT m ab au cb cu,jm u al ac cl cc,jE 12 a n] w fun e w'=>rZ ([110,110],[110]) e∧w.grownBy w' none:=by
 have ji:∀ (fn:Fn) (first cap:Array Value) (w:World),(Instr.makeFunc fn first cap).run Tryz.prog w=.ok (.func fn first cap) w:=fun _ _ _ _=>rfl;go_enter Tryz.func45,Tryz.ntmps45
 go_wp2
 refine bodyPost_ret (v:=.tuple #[.string ⟨#[110,110]⟩,.string ⟨#[110]⟩]) (by simp[results,Tryz.results45,go_sem]) rfl ?_;exact⟨⟨_,_,rfl,rfl,rfl⟩,ai (aF _ _ _) _⟩
theorem rneeds_13 (m:Vf.Md)(ab au:Option Addr)(cb cu:Nat)(u:Vf.Un)(al ac:Option Addr)(cl cc:Nat)(a n:Int)(w:World)  :
  Calls Tryz.prog 45 #[aT m ab au cb cu,jm u al ac cl cc,jE 13 a n] w fun e w'=>rZ ([63,63],[98]) e∧w.grownBy w' none:=by
 have ji:∀ (fn:Fn) (first cap:Array Value) (w:World),(Instr.makeFunc fn first cap).run Tryz.prog w=.ok (.func fn first cap) w:=fun _ _ _ _=>rfl;go_enter Tryz.func45,Tryz.ntmps45
 go_wp2
 refine bodyPost_ret (v:=.tuple #[.string ⟨#[63,63]⟩,.string ⟨#[98]⟩]) (by simp[results,Tryz.results45,go_sem]) rfl ?_;exact⟨⟨_,_,rfl,rfl,rfl⟩,ai (aF _ _ _) _⟩
theorem rneeds_14 (m:Vf.Md)(ab au:Option Addr)(cb cu:Nat)(u:Vf.Un)(al ac:Option Addr)(cl cc:Nat)(a n:Int)(w:World)  :
  Calls Tryz.prog 45 #[aT m ab au cb cu,jm u al ac cl cc,jE 14 a n] w fun e w'=>rZ ([63,63],[98]) e∧w.grownBy w' none:=by
 have ji:∀ (fn:Fn) (first cap:Array Value) (w:World),(Instr.makeFunc fn first cap).run Tryz.prog w=.ok (.func fn first cap) w:=fun _ _ _ _=>rfl;go_enter Tryz.func45,Tryz.ntmps45
 go_wp2
 refine bodyPost_ret (v:=.tuple #[.string ⟨#[63,63]⟩,.string ⟨#[98]⟩]) (by simp[results,Tryz.results45,go_sem]) rfl ?_;exact⟨⟨_,_,rfl,rfl,rfl⟩,ai (aF _ _ _) _⟩
theorem rneeds_15 (m:Vf.Md)(ab au:Option Addr)(cb cu:Nat)(u:Vf.Un)(al ac:Option Addr)(cl cc:Nat)(a n:Int)(w:World)  :
  Calls Tryz.prog 45 #[aT m ab au cb cu,jm u al ac cl cc,jE 15 a n] w fun e w'=>rZ ([110,110],[98]) e∧w.grownBy w' none:=by
 have ji:∀ (fn:Fn) (first cap:Array Value) (w:World),(Instr.makeFunc fn first cap).run Tryz.prog w=.ok (.func fn first cap) w:=fun _ _ _ _=>rfl;go_enter Tryz.func45,Tryz.ntmps45
 go_wp2
 refine bodyPost_ret (v:=.tuple #[.string ⟨#[110,110]⟩,.string ⟨#[98]⟩]) (by simp[results,Tryz.results45,go_sem]) rfl ?_;exact⟨⟨_,_,rfl,rfl,rfl⟩,ai (aF _ _ _) _⟩
theorem rneeds_16 (m:Vf.Md)(ab au:Option Addr)(cb cu:Nat)(u:Vf.Un)(al ac:Option Addr)(cl cc:Nat)(a n:Int)(w:World)  :
  Calls Tryz.prog 45 #[aT m ab au cb cu,jm u al ac cl cc,jE 16 a n] w fun e w'=>rZ ([110,110],[98]) e∧w.grownBy w' none:=by
 have ji:∀ (fn:Fn) (first cap:Array Value) (w:World),(Instr.makeFunc fn first cap).run Tryz.prog w=.ok (.func fn first cap) w:=fun _ _ _ _=>rfl;go_enter Tryz.func45,Tryz.ntmps45
 go_wp2
 refine bodyPost_ret (v:=.tuple #[.string ⟨#[110,110]⟩,.string ⟨#[98]⟩]) (by simp[results,Tryz.results45,go_sem]) rfl ?_;exact⟨⟨_,_,rfl,rfl,rfl⟩,ai (aF _ _ _) _⟩
theorem rneeds_17 (m:Vf.Md)(ab au:Option Addr)(cb cu:Nat)(u:Vf.Un)(al ac:Option Addr)(cl cc:Nat)(a n:Int)(w:World)  :
  Calls Tryz.prog 45 #[aT m ab au cb cu,jm u al ac cl cc,jE 17 a n] w fun e w'=>rZ ([110,110],[98]) e∧w.grownBy w' none:=by
 have ji:∀ (fn:Fn) (first cap:Array Value) (w:World),(Instr.makeFunc fn first cap).run Tryz.prog w=.ok (.func fn first cap) w:=fun _ _ _ _=>rfl;go_enter Tryz.func45,Tryz.ntmps45
 go_wp2
 refine bodyPost_ret (v:=.tuple #[.string ⟨#[110,110]⟩,.string ⟨#[98]⟩]) (by simp[results,Tryz.results45,go_sem]) rfl ?_;exact⟨⟨_,_,rfl,rfl,rfl⟩,ai (aF _ _ _) _⟩
theorem rneeds_18 (m:Vf.Md)(ab au:Option Addr)(cb cu:Nat)(u:Vf.Un)(al ac:Option Addr)(cl cc:Nat)(a n:Int)(w:World)  :
  Calls Tryz.prog 45 #[aT m ab au cb cu,jm u al ac cl cc,jE 18 a n] w fun e w'=>rZ ([110,110],[98]) e∧w.grownBy w' none:=by
 have ji:∀ (fn:Fn) (first cap:Array Value) (w:World),(Instr.makeFunc fn first cap).run Tryz.prog w=.ok (.func fn first cap) w:=fun _ _ _ _=>rfl;go_enter Tryz.func45,Tryz.ntmps45
 go_wp2
 refine bodyPost_ret (v:=.tuple #[.string ⟨#[110,110]⟩,.string ⟨#[98]⟩]) (by simp[results,Tryz.results45,go_sem]) rfl ?_;exact⟨⟨_,_,rfl,rfl,rfl⟩,ai (aF _ _ _) _⟩
theorem rneeds_19 (m:Vf.Md)(ab au:Option Addr)(cb cu:Nat)(u:Vf.Un)(al ac:Option Addr)(cl cc:Nat)(a n:Int)(w:World)  :
  Calls Tryz.prog 45 #[aT m ab au cb cu,jm u al ac cl cc,jE 19 a n] w fun e w'=>rZ ([98,98],[98]) e∧w.grownBy w' none:=by
 have ji:∀ (fn:Fn) (first cap:Array Value) (w:World),(Instr.makeFunc fn first cap).run Tryz.prog w=.ok (.func fn first cap) w:=fun _ _ _ _=>rfl;go_enter Tryz.func45,Tryz.ntmps45
 go_wp2
 refine bodyPost_ret (v:=.tuple #[.string ⟨#[98,98]⟩,.string ⟨#[98]⟩]) (by simp[results,Tryz.results45,go_sem]) rfl ?_;exact⟨⟨_,_,rfl,rfl,rfl⟩,ai (aF _ _ _) _⟩
theorem rneeds_20 (m:Vf.Md)(ab au:Option Addr)(cb cu:Nat)(u:Vf.Un)(al ac:Option Addr)(cl cc:Nat)(a n:Int)(w:World)  :
  Calls Tryz.prog 45 #[aT m ab au cb cu,jm u al ac cl cc,jE 20 a n] w fun e w'=>rZ ([98,98],[98]) e∧w.grownBy w' none:=by
 have ji:∀ (fn:Fn) (first cap:Array Value) (w:World),(Instr.makeFunc fn first cap).run Tryz.prog w=.ok (.func fn first cap) w:=fun _ _ _ _=>rfl;go_enter Tryz.func45,Tryz.ntmps45
 go_wp2
 refine bodyPost_ret (v:=.tuple #[.string ⟨#[98,98]⟩,.string ⟨#[98]⟩]) (by simp[results,Tryz.results45,go_sem]) rfl ?_;exact⟨⟨_,_,rfl,rfl,rfl⟩,ai (aF _ _ _) _⟩
end Go.Proofs.YtbdpdjcdhclbfaaGreat
