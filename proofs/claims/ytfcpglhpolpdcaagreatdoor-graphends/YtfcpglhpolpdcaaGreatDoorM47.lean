/- Regions whose order is drawn: what our machine answers is what Go answers,in whatever order. -/
import Derived.Test.YtfcpglhpolpdcaaGreatDoorM46
import Derived.Test.YtfcpglhpolpdcaaGreatDoorM37
import Derived.WalkSpells
import Derived.WalkLawsBesides
import Derived.Deep.QuietTactic
import Derived.BigQuiet
import Derived.Recover
import Derived.KernelRfl
set_option maxRecDepth 100000
set_option maxHeartbeats 400000
namespace Go.Proofs.YtfcpglhpolpdcaaGreatDoor
namespace Xe
variable {P:Program}
section
variable {nt ak k:Nat} {ops:Array Oper} {ms es:List Nat} {call:Cl} {e0 aC:En} {ds:List Dp} {sF:S} {Sx Jx:Nat→S} {φ0 φ:Ph} {h0 h:Hp} {w0 w:World} {listed:Array Bool} {a:Act} {i:Nat} {o:Oper} {d:Dp}
theorem Dx (hN:jF P)(hC:iP P call)(C:Ctx P nt ops ms es call e0 ak ds aC sF Sx Jx)(I:Inv ops nt ms es call e0 ak ds aC Sx φ0 h0 w0 listed k a w φ h)(r0:Rel φ0 h0 w0)(hi:i ∈ Region.ready .any ops listed)
  {K:Act→World→Prop} {Q:Exit→Act→World→Prop} (hK:∀ k' a' w' φ' h',Inv ops nt ms es call e0 ak ds aC Sx φ0 h0 w0 (listed.setIfInBounds i true) k' a' w' φ' h'→K a' w'):wpOp P ops Q i K a w:=by
 obtain⟨o,ho,hlt,hil,hcl⟩:=K8 C I hi;obtain⟨d,jf,hdi⟩:=C.dat i o ho;obtain⟨o',hd⟩:=C.yS d jf;have Lf:o'=o:=by have:=hd.op;rw[hdi,ho] at this;cases this;rfl
 subst Lf;obtain⟨hlo,hhi⟩:=afG I hil hcl hd hdi;have hkl:k≤es.length:=by rw[← I.cnt];exact yU
 have UL:=afH C I ho hil hcl;have hm:d.m=aH ms i:=by rw[hd.m,hdi]
 have hE:=afI hd.ok I.rel.l8 UL;have hwant:=afF UL hd.g;rw[← hm] at hE hwant;unfold wpOp;rw[ho];show (if Region.wanted o' (yielded ops a.tmps)=true then _ else _)
 rw[hwant];have hc3:d.c=0∨d.c=1∨d.c=2:=by
  rw[hd.c];rcases wC hd.f with⟨h0,_⟩ | ⟨h0,_⟩ | ⟨h0,_⟩<;>simp[h0]
 rcases hc3 with hc | hc | hc
 ·obtain⟨v,s2,hv,hev⟩:=C.rF.read k (Nat.zero_le _) (by omega) d jf hc hlo hhi
  rw[K6] at hev;rw[hdi] at hv;have same:∀ v',V φ v v'→Inv ops nt ms es call e0 ak ds aC Sx φ0 h0 w0 (listed.setIfInBounds i true) k (a.put o'.dst v') w φ h:=fun v' hV =>
   Lc C I ho hcl jf hd hdi (by omega) hv hV (Sub.refl φ) I.rel I.hA (fun h1=>by omega) (fun _ _=>rfl) (fun _ _=>rfl) I.ext I.dF
  by_cases hw:want d.st.g (dY (kK ops) d.m aC e0)=true
  ·rw[if_pos hw] at hev ⊢
   refine .inl ?_;rcases wC hd.f with⟨_,hR⟩ | ⟨h1,_⟩ | ⟨h1,_⟩
   ·obtain⟨_,hR⟩:=hR call _ _ _ v s2 hev
    obtain⟨v',hV,hrun⟩:=hR φ a w hE (I.rel.less I.hA);unfold Oper.wp;rw[hrun o' rfl];exact hK k _ w φ h (same v' hV)
   ·rw[← hd.c,hc] at h1;cases h1
   ·rw[← hd.c,hc] at h1;cases h1
  ·rw[if_neg hw] at hev ⊢
   cases hev;exact hK k _ w φ h (same undef (V.undef φ))
 ·obtain⟨v,s1,s2,hv,hev⟩:=C.rF.lays d jf hc (Nat.zero_le _) (by omega)
  rw[hdi] at hv;rcases Uv hd hc hev with⟨hw,_,rfl,fZ⟩ | ⟨hw,ob,yV,fZ,_,Cv⟩
  ·rw[if_neg (by rw[hw];simp)]
   exact hK k _ w φ h (Lc C I ho hcl jf hd hdi (by omega) hv (V.undef φ) (Sub.refl φ) I.rel I.hA (fun _ o2 h2=>by rw[fZ] at h2;cases h2) (fun _ _=>rfl) (fun _ _=>rfl) I.ext I.dF)
  ·rw[if_pos hw]
   refine .inl ?_;have hnm:φ (ak+d.i)=none:=by rw[hdi];exact I.kept i hlt hil
   obtain⟨o2,n,v',hrun,hV,hor⟩:=Cv φ a w hE hnm;unfold Oper.wp;rw[hrun o' rfl];rw[hdi] at hnm hV hor;have hsub:=yP hnm ⟨w.heap.size,n⟩;have hrel:=Ua (o':=o2) I.rel hnm hor;have Le:Ext φ h w (upd φ (ak+i) ⟨w.heap.size,n⟩) (w.alloc o2):=by
    refine⟨hsub,?_,?_,?_,⟨rfl,rfl,rfl⟩⟩
    ·show w.heap.size≤(w.heap.push o2).size
     simp
    ·intro x g h1 h2
     unfold upd at h2;split at h2
     ·cases h2;exact .inl (Nat.le_refl _)
     ·rw[h1] at h2;cases h2
    ·intro b hb' _
     show (w.heap.push o2)[b]?=_
     rw[Array.getElem?_push_lt hb'];simp[hb']
   refine hK k _ _ _ (setH h (ak+i) ob) (Lc C I ho hcl jf hd hdi (by omega) hv hV hsub hrel ?_ ?_ ?_ ?_ ?_ ?_)
   ·intro x o3 hx hi3
    rw[iC];have hne:x≠ak+i:=by
     rintro rfl;have:=C.rF.free k (Nat.zero_le _) (by omega) d jf hc hhi;rw[hdi,hx] at this;cases this
    rw[if_neg hne];exact I.hA x o3 hx hi3
   ·intro _ o3 h3
    rw[fZ] at h3;cases h3;rw[iC,if_pos rfl]
   ·intro x hx;rw[iC,if_neg hx]
   ·intro x hx;unfold upd;rw[if_neg hx]
   ·exact I.ext.trans Le I.dF (fun x hx=>r0.has hx) (fun x hx=>I.rel.has hx)
   ·rintro x ⟨o3,h3,hi3⟩
    rw[iC] at h3;split at h3
    ·rename_i e
     subst e;refine .inr ?_;cases h4:φ0 (ak+i) with
     | none=>rfl
     | some g=>rw[I.ext.sub _ g h4] at hnm;cases hnm
    ·exact I.dF x ⟨o3,h3,hi3⟩
 ·have hie:i ∈ es:=(C.FP i).2 ⟨o',ho,by rw[← hd.c];exact hc⟩
  have hk:=afL C I hil hcl hie;obtain⟨d',hd',afN,v,hv,hev⟩:=C.rF.Ux k i hk;have:=C.FQ d' hd' d jf (by rw[afN,hdi]);subst this;rw[Nat.zero_add,K6] at hev;obtain⟨jc,jd,_⟩:=C.rF.join k (Nat.zero_le _) (by omega);have hS:dK φ (Jx k) w:=⟨I.rel.less (FT C I (UG C hcl hk)),fun x hx=>I.fr x (by rw[← jc];exact hx)⟩;have hdf:L (DR φ) (Jx k).ds a.defers:=by rw[jd];exact I.je
  by_cases hw:want d'.st.g (dY (kK ops) d'.m aC e0)=true
  ·rw[if_pos hw] at hev ⊢
   refine .inl (UD hN hC hd.f (by rw[← hd.c];exact hc) hev hE hS hdf K Q ?_);intro φ' v' w' df hV hP afO;obtain⟨h',I'⟩:=UH C I r0 ho hcl hd hdi jf hc hk hv hV hP afO;exact hK _ _ _ _ h' I'
  ·rw[if_neg hw] at hev ⊢
   have UM:(undef,Jx k)=(v,Sx (k+1)):=Option.some.inj hev;have e1:v=undef:=(congrArg Prod.fst UM).symm;have e2:Jx k=Sx (k+1):=congrArg Prod.snd UM;have hP:Post φ (Jx k) w φ (Sx (k+1)) w:=e2 ▸ Post.refl hS;obtain⟨h',I'⟩:=UH (df:=a.defers) C I r0 ho hcl hd hdi jf hc hk hv (by rw[e1];exact V.undef φ) hP (by rw[← e2];exact hdf);exact hK _ _ _ _ h' I'
theorem any_ok (hN:jF P)(hC:iP P call)(C:Ctx P nt ops ms es call e0 ak ds aC sF Sx Jx)(r0:Rel φ0 h0 w0){Q:Exit→Act→World→Prop}
  (hQ:∀ listed k a w φ h,Inv ops nt ms es call e0 ak ds aC Sx φ0 h0 w0 listed k a w φ h→(∀ i,i<ops.size→on listed i=true)→Q .normal a w) :
  ∀ (n:Nat) (listed:Array Bool) (k:Nat) (a:Act) (w:World) (φ:Ph) (h:Hp),listed.toList.count false≤n→Inv ops nt ms es call e0 ak ds aC Sx φ0 h0 w0 listed k a w φ h→wpAny P .any ops Q n listed a w:=by
 have fin:∀ (listed:Array Bool) (k:Nat) (a:Act) (w:World) (φ:Ph) (h:Hp),Inv ops nt ms es call e0 ak ds aC Sx φ0 h0 w0 listed k a w φ h→Region.ready .any ops listed=[]→Q .normal a w:=by
  intro listed k a w φ h I hr;refine hQ listed k a w φ h I ?_;intro i;induction i using Nat.strongRecOn with
  | _ i ih =>
   intro hlt;cases hon:on listed i with
   | true=>rfl
   | false =>
    exfalso;have ho:ops[i]?=some ops[i]:=Array.getElem?_eq_getElem hlt;have:i ∈ Region.ready .any ops listed:=by
     unfold Region.ready;rw[List.mem_filter,List.mem_range,Bool.and_eq_true];refine⟨hlt,?_,?_⟩
     ·have hl:listed[i]?=some (listed[i]'(by rw[I.sz];exact hlt)):=Array.getElem?_eq_getElem _
      unfold on at hon;rw[Array.getD_eq_getD_getElem?,hl] at hon ⊢;simpa using hon
     ·rw[ho]
      simp only[Option.map_some,Option.getD_some];rw[Array.all_eq_true'];intro e he;cases hb:Region.binds .any e with
      | false=>rfl
      | true =>
       have ht:=C.edge i _ ho e he hb;have hle:=C.st.lt i _ ho e.on ht;have:=ih e.on hle (by omega);unfold on at this;rw[this];rfl
    rw[hr] at this;cases this
 intro n;induction n with
 | zero =>
  intro listed k a w φ h hn I;have hr:Region.ready .any ops listed=[]:=by
   cases hrr:Region.ready .any ops listed with
   | nil=>rfl
   | cons i l =>
    exfalso;obtain⟨o,ho,hlt,hil,_⟩:=K8 C I (i:=i) (by rw[hrr];simp);have hmem:false ∈ listed.toList:=by
     have hl:listed[i]?=some (listed[i]'(by rw[I.sz];exact hlt)):=Array.getElem?_eq_getElem _;unfold on at hil;rw[Array.getD_eq_getD_getElem?,hl] at hil;have e:listed[i]'(by rw[I.sz];exact hlt)=false:=by simpa using hil
     have:=Array.getElem_mem (xs:=listed) (i:=i) (by rw[I.sz];exact hlt);rw[e] at this;simpa using this
    have:=List.count_pos_iff.2 hmem;omega
  exact⟨hr,fin listed k a w φ h I hr⟩
 | succ n ih =>
  intro listed k a w φ h hn I;refine⟨fin listed k a w φ h I,fun i hi=>Dx hN hC C I r0 hi ?_⟩;intro k' a' w' φ' h' I';refine ih _ k' a' w' φ' h' ?_ I';obtain⟨o,ho,hlt,hil,_⟩:=K8 C I hi;have hls:i<listed.toList.length:=by simpa[I.sz] using hlt
  have e:listed.toList[i]=false:=by
   have hl:listed[i]?=some (listed[i]'(by rw[I.sz];exact hlt)):=Array.getElem?_eq_getElem _;unfold on at hil;rw[Array.getD_eq_getD_getElem?,hl] at hil;simpa using hil
  rw[Array.toList_setIfInBounds,List.count_set hls,e];have hmem:false ∈ listed.toList:=by rw[← e];exact List.getElem_mem hls
  have:=List.count_pos_iff.2 hmem;simp only[beq_self_eq_true,if_true];have e2:(true==false)=false:=rfl;rw[e2];simp only[Bool.false_eq_true,if_false];omega
end
theorem Lg {ms es:List Nat}:∀ (l:List St) (r:List Oper) (i:Nat),(sV ms es l r i).length≤r.length
 | [],[],_=>Nat.le_refl _
 | [],_ :: _,_=>Nat.zero_le _
 | _ :: _,[],_=>Nat.zero_le _
 | _ :: l,_ :: r,i=>Nat.succ_le_succ (Lg l r (i+1))
theorem afP (hN:jF P)(hm:P.follows .mixedOrders=true)(call:Cl)(hC:iP P call):FE P call:=by
 intro nt ops e s r hr id φ a w hA;unfold yI at hr;rw[aN,jZ,oP] at hr;obtain⟨CL,hr⟩:=hr;obtain⟨l,hl,hr⟩:=aj.1 hr;obtain⟨⟨aC,sF⟩,hst,hr⟩:=aj.1 hr;rw[gW,aN] at hr;obtain⟨CO,hr⟩:=hr;cases hr;obtain⟨hSt,hch⟩:=Uq CL;have FU:=UE CL;have hlen:(aL ops).length=ops.size:=by rw[bL];simp
 rw[hlen] at hst CO;have hw:(fun t=>writer t (aL ops) 0)=kK ops:=by rw[bL];rfl
 rw[hw] at hst ⊢;generalize hms:bH [] (aL ops)=ms at *;generalize hes:mK (aL ops) 0=es at *;rw[bL] at hl hst;have wJ:∀ e,e ∈ es ↔ ∃ o,ops[e]?=some o∧cls o.op=2:=by
  intro e;rw[← hes,UA,bL];constructor
  ·rintro⟨j,o,h1,h2,h3⟩
   have:e=j:=by omega
   subst this;exact⟨o,by simpa using h2,h3⟩
  ·rintro⟨o,h1,h2⟩
   exact⟨e,o,by omega,by simpa using h1,h2⟩
 obtain⟨hd1,hd2⟩:=K5 (P:=P) (nt:=nt) (ops:=ops) (ms:=ms) (es:=es) ops.toList l 0 (by simp) hl;have hdl:=Lg (ms:=ms) (es:=es) l ops.toList 0;generalize hds:sV ms es l ops.toList 0=ds at *;have hget:∀ (j:Nat) (d:Dp),ds[j]?=some d→d.i=j:=by
  intro j d hj;have hjl:=(List.getElem?_eq_some_iff.1 hj).1;have hjo:j<ops.toList.length:=by omega
  obtain⟨d',h1,h2⟩:=hd2 j _ (List.getElem?_eq_getElem hjo);rw[hj] at h1;cases h1;omega
 have hat:∀ (e:Nat) (d:Dp),vY ds e=some d→d ∈ ds∧d.i=e:=by
  intro e d h;unfold vY at h;rw[kJ] at h;exact⟨List.mem_of_getElem? h,hget e d h⟩
 have Lh:∀ d ∈ ds,∀ d' ∈ ds,d.i=d'.i→d=d':=by
  intro d hd d' hd' he;obtain⟨j,hj⟩:=List.getElem?_of_mem hd;obtain⟨j',hj'⟩:=List.getElem?_of_mem hd';have h1:=hget j d hj;have h2:=hget j' d' hj';have:j=j':=by omega
  subst this;rw[hj] at hj';cases hj';rfl
 have hlo:∀ d ∈ ds,d.lo≤d.hi:=by
  intro d hd;obtain⟨_,o,hok⟩:=hd1 d hd;rw[hok.lo,hok.hi];refine countB_le fun e he h=>?_;obtain⟨oe,hoe,_⟩:=(wJ e).1 he;cases ht:tb (aH ms e) d.i with
  | true=>have h3:=hSt.lt e oe hoe d.i ht;have h4:=hSt.lt d.i o hok.op e h;omega
  | false=>rfl
 have CP:∀ d ∈ ds,(∃ o,qc P nt ops ms es d o)∧∀ j,tb d.m j=true→j<ops.size:=by
  intro d hd;obtain⟨_,o,hok⟩:=hd1 d hd;refine⟨⟨o,hok⟩,fun j hj=>?_⟩;rw[hok.m] at hj;have h3:=hSt.lt d.i o hok.op j hj;have h4:=(Array.getElem?_eq_some_iff.1 hok.op).1;omega
 obtain⟨Sx,Jx,hS0,_,wK⟩:=Uy CP hat hlo es 0 _ _ hst (fun d _ _ h=>absurd h (Nat.not_lt_zero _));have hall:∀ i,i<ops.size→∃ v,aC i=some v:=by
  intro i hi;refine FL CO ?_ i ?_
  ·intro j hj
   rw[j6] at hj;rcases Nat.lt_or_ge j ops.size with h | h
   ·exact h
   ·have e1:Nat.sub (Nat.shiftLeft 1 ops.size) 1=2 ^ ops.size - 1:=by
     show 1 <<< ops.size - 1=_
     rw[Nat.shiftLeft_eq,Nat.one_mul]
    rw[e1,Nat.testBit_two_pow_sub_one] at hj;simpa using hj
  ·rw[j6]
   have e1:Nat.sub (Nat.shiftLeft 1 ops.size) 1=2 ^ ops.size - 1:=by
    show 1 <<< ops.size - 1=_
    rw[Nat.shiftLeft_eq,Nat.one_mul]
   rw[e1,Nat.testBit_two_pow_sub_one];simpa using hi
 have C:Ctx P nt ops ms es call e s.c ds aC sF Sx Jx:=by
  refine⟨hSt,FU,hch,wJ,fun d hd=>(CP d hd).1,?_,Lh,hall,wK⟩;intro i o ho;obtain⟨d,h1,h2⟩:=hd2 i o (by simpa using ho);exact⟨d,List.mem_of_getElem? h1,by omega⟩
 have h0:on (Array.replicate ops.size false)=fun _=>false:=by
  funext j
  unfold on;rw[Array.getD_eq_getD_getElem?,Array.getElem?_replicate];split<;>rfl
 have Li:∀ l:List Nat,countB (fun _=>false) l=0:=by
  intro l;induction l with
  | nil=>rfl
  | cons a l ih=>exact ih
 have afQ:(Sx 0).c=s.c+ops.size:=by rw[hS0];rfl
 refine wp_region_any hm (any_ok hN hC C hA.stt.rel ?_ ops.size _ 0 a _ φ s.h ?_ ?_)
 ·intro listed k a' w' φ' h' I hon
  have hk:k=es.length:=by
   rw[← I.cnt];refine Nat.le_antisymm yU ?_;have h1:countB (fun _=>true) es≤countB (on listed) es:=countB_le fun e he _=>by
    obtain⟨o,ho,_⟩:=(wJ e).1 he;exact hon e (Array.getElem?_eq_some_iff.1 ho).1
   have h2:∀ l:List Nat,countB (fun _=>true) l=l.length:=by
    intro l;induction l with
    | nil=>rfl
    | cons a l ih=>show Nat.succ (countB (fun _=>true) l)=l.length+1;rw[ih]
   rw[h2] at h1;exact h1
  have hlast:=wK.last;rw[Nat.zero_add,← hk] at hlast;have hJ:=FT C I fun d hd _ _=>by
   obtain⟨_,o,hok⟩:=hd1 d hd;exact hon d.i (Array.getElem?_eq_some_iff.1 hok.op).1
  obtain⟨jc,jd,_⟩:=wK.join k (Nat.zero_le _) (by omega);rw[hlast] at hJ jc jd;have oW:∀ x,live sF.h x→live h' x:=fun x ⟨o,h1,h2⟩=>⟨o,hJ x o h1 h2,h2⟩;refine⟨rfl,φ',⟨⟨I.dJ,fun t=>?_⟩,⟨I.rel.less hJ,fun x hx=>I.fr x (by rw[← jc];exact hx)⟩,?_⟩,⟨I.ext,?_,I.new,fun x hx=>I.dF x (oW x hx)⟩⟩
  ·have hv:=I.env t
   have:vZ (kK ops) aC e t=jH ops e aC listed t:=by
    unfold vZ jH kK;cases hw:writer t ops.toList 0 with
    | none=>exact tu _
    | some j =>
     obtain⟨q,p,hq,hp,_⟩:=yT hw;have hj:j=q:=by omega
     subst hj;have hp':ops[j]?=some p:=by simpa using hp
     show nO (aC j)=if on listed j=true then aC j else e t
     rw[if_pos (hon j (Array.getElem?_eq_some_iff.1 hp').1),tu]
   show V φ' (iy (vZ (kK ops) aC e t)) _
   rw[this];exact hv
  ·show L (DR φ') sF.ds a'.defers
   rw[jd];exact I.je
  ·have:=I.wI
   show s.c≤sF.c
   omega
 ·simp
 ·refine⟨by simp,?_,?_,hA.stt.rel.draws rfl,?_,?_,?_,?_,?_,hA.env.size,?_,?_,⟨Sub.refl φ,Nat.le_refl _,fun x g h1 h2=>(by rw[h1] at h2;cases h2),fun _ _ _=>rfl,⟨rfl,rfl,rfl⟩⟩,fun _ h1 h2=>absurd h1 h2,fun _ hx=>.inl hx⟩
  ·intro j hj;rw[h0] at hj;cases hj
  ·rw[h0,Li]
  ·intro x o hx _
   rw[hS0] at hx;exact hx
  ·intro d _ _ hl;rw[h0] at hl;cases hl
  ·omega
  ·intro x hx;exact hA.stt.fr x (by omega)
  ·intro j _ _;exact hA.stt.fr _ (by omega)
  ·intro t
   have hv:=hA.env.val t;have:jH ops e aC (Array.replicate ops.size false) t=e t:=by
    unfold jH;cases writer t ops.toList 0 with
    | none=>rfl
    | some j=>simp[h0]
   rw[this];exact hv
  ·rw[hS0];exact hA.je
end Xe
end Go.Proofs.YtfcpglhpolpdcaaGreatDoor
namespace Go.Proofs.YtfcpglhpolpdcaaGreatDoor
open Go.RowKit
namespace Xe
theorem Post.grown {φ:Ph}{s:S}{w w':World}(h:dK φ s w)(hb:Below w.heap.size w w'):Post φ s w φ s w':=by
 refine⟨⟨⟨fun x o hx=>(h.rel.obj x o hx).mono (Sub.refl φ) fun g hg=>hb.block g.b (h.rel.bnd x g hg),h.rel.inj,fun x g hx=>Nat.lt_of_lt_of_le (h.rel.bnd x g hx) hb.size,h.rel.l8⟩,h.fr⟩,⟨Sub.refl φ,hb.size,fun x g h0 h1=>?_,fun b hb' _=>hb.block b hb',⟨hb.os,hb.tape,hb.output⟩⟩,Nat.le_refl _,fun _ h0 h1=>(h1 h0).elim,fun _ hx=>.inl hx⟩;rw[h0] at h1;cases h1
theorem UN (c:Nat)(hc:c≤255):∀ (l:List UInt8) (i:Nat),sW c l i=if Lib.indexByte l c.toUInt8=-1 then -1 else Lib.indexByte l c.toUInt8+i
 | [],i=>rfl
 | b :: l,i=>by
  have ih:=UN c hc l (i+1);have hbc:Nat.beq b.toNat c=(b==c.toUInt8):=by
   rw[dZ,Bool.eq_iff_iff,beq_iff_eq,decide_eq_true_eq];constructor
   ·intro h
    apply UInt8.toNat_inj.1;rw[h];simp[Nat.toUInt8];omega
   ·rintro rfl
    simp[Nat.toUInt8];omega
  have hpos:∀ l:List UInt8,-1≤Lib.indexByte l c.toUInt8:=by
   intro l;induction l with
   | nil=>simp[Lib.indexByte]
   | cons b l ih =>
    unfold Lib.indexByte;split
    ·omega
    ·split
     ·omega
     ·omega
  have hp:=hpos l;have e1:sW c (b :: l) i=match Nat.beq b.toNat c with | true=>.ofNat i | false=>sW c l (Nat.succ i):=rfl
  rw[e1,hbc];unfold Lib.indexByte;cases hb:(b==c.toUInt8) with
  | true=>simp
  | false =>
   simp only[Bool.false_eq_true,if_false];rw[show sW c l (Nat.succ i)=sW c l (i+1) from rfl,ih];by_cases h1:Lib.indexByte l c.toUInt8=-1
   ·simp[h1]
   ·have hb1:(Lib.indexByte l c.toUInt8==-1)=false:=by simpa using h1
    have h2:¬ Lib.indexByte l c.toUInt8+1=-1:=by omega
    rw[if_neg h1,hb1];simp only[Bool.false_eq_true,if_false];rw[if_neg h2];push_cast
    omega
theorem setCell_eq {w:World}{b o:Nat}{v:Value}(h:w.cell? ⟨b,o,none⟩=some v):w.setCell ⟨b,o,none⟩ v=w:=by
 obtain⟨heap,tape,drawn,os,output⟩:=w;simp only[World.setCell];congr 1
 apply Array.ext_getElem?;intro k;rw[Array.getElem?_modify];split
 ·rename_i e
  have e':b=k:=e;subst e';simp only[World.cell?] at h;cases hb:heap[b]? with
  | none=>rfl
  | some ob =>
   rw[hb] at h;cases ob with
   | cells cs t fr =>
    simp only[Option.map_some,Option.some.injEq];have h':cs[o]?=some v:=h;congr 1
    simp only[Option.isSome_none,Bool.false_eq_true,if_false];apply Array.ext_getElem?;intro j;rw[Array.getElem?_setIfInBounds];split
    ·rename_i ej
     have ej':o=j:=ej;subst ej';split
     ·exact h'.symm
     ·rename_i hlt
      rw[Array.getElem?_eq_none (by omega)]
    ·rfl
   | _=>first | rfl | simp at h
 ·rfl
theorem IM (F:Nat)(w:World) :
  CallsD Tryz.prog 41 #[.pointer (some ⟨F,0,none⟩)] .returning w fun e u' w'=>e=.returned (.tuple #[])∧u'=.returning∧w'=w:=by
 refine callsD_of_wpS Tryz.func41 rfl fun c₀ cs hu=>?_;apply wpS_seq;apply wpS_region;simp[wpOpsS,go_sem,recoverD,hu,Tryz.ntmps41,Exit.thenS];apply wpS_seq;apply wpS_region;simp[wpOpsS,go_sem,Exit.thenS];refine wpS_cond (t:=false) (by simp[Act.eval,Array.replicate]) ?_;simp only[Bool.false_eq_true,if_false];refine wpS_of_wp (wp_skip ?_);cases c₀;simp_all [bodyPostS,results,Tryz.results41]
abbrev Z2:Obj:=.cells #[.int .i64 0,.int .i64 0] 46 (0,0)
theorem UO {w:World}{b:Nat}(h:w.heap[b]?=some Z2) :
  w.cell? ⟨b,0,none⟩=some (.int .i64 0)∧w.cell? ⟨b,1,none⟩=some (.int .i64 0)∧w.frozen? ⟨b,0,none⟩=false∧w.frozen? ⟨b,1,none⟩=false:=by simp[World.cell?,World.frozen?,h]
theorem afS (g:FuncId)(cap:Array Value)(X:World→Prop)(w:World)(hcf:∀ w:World,(callFunc g cap).run Tryz.prog w=.ok (.enter g cap) w)
  (hw:Calls Tryz.prog g cap (w.alloc Z2) fun e w'=>X w'∧w'.heap[w.heap.size]?=some Z2∧e=.returned (.tuple #[])) :
  Calls Tryz.prog 19 #[.func (.func g) #[] cap] w fun e w'=>e=.returned (.agg #[.int .i64 0,.int .i64 0])∧∃ wx,X wx∧wx.heap[w.heap.size]?=some Z2∧w'=(wx.setCell ⟨w.heap.size,0,none⟩ (.int .i64 0)).setCell ⟨w.heap.size,1,none⟩ (.int .i64 0):=by
 have rQ:∀ (fn:Fn) (first cap:Array Value) (w:World),(Instr.makeFunc fn first cap).run Tryz.prog w=.ok (.func fn first cap) w:=fun _ _ _ _=>rfl;go_enter_defers Tryz.func19,Tryz.ntmps19
 go_wp2_with fail
 refine hw.mono ?_;rintro e w1 ⟨hX,hF,rfl⟩;obtain⟨c0,c1,f0,f1⟩:=UO hF;have HX:Hid (X w1):=hX;have HF:Hid (w1.heap[w.heap.size]?=some Z2):=hF;clear hX hF hw;go_wp2
 refine leaves_cons (f:=41) (args:=#[.pointer (some ⟨w.heap.size,0,none⟩)]) (by simp) (by simp[go_sem]) ?_;refine (IM w.heap.size _).mono ?_;rintro e u' w'' ⟨rfl,rfl,rfl⟩;show Leaves _ _ _ _ [] .returning _
 exact⟨.agg #[.int .i64 0,.int .i64 0],by simp[results,Tryz.results19,go_sem,c0,c1],rfl,w1,HX.out,HF.out,rfl⟩
theorem FV:jF Tryz.prog:=by
 have h:(Tryz.prog.funcs.toList.all fun fn=>!(fn.name == "runtime.NumGoroutine"))=true:=by kernel_rfl
 intro f fn hf;rw[List.all_eq_true] at h;have:=h fn (by have:=Array.mem_of_getElem? hf;simpa using this);simpa using this
theorem Lj {α β:Type}{R:α→β→Prop}{x:α}{l:List β}(h:L R [x] l):∃ y,l=[y]∧R x y:=by
 cases l with
 | nil=>exact h.elim
 | cons y l =>
  cases l with
  | nil=>exact⟨y,rfl,h.1⟩
  | cons z l=>exact h.2.elim
theorem UQ {α:Type}{a:Array α}{l:List α}(h:a.toList=l):a=l.toArray:=by cases a;simp at h;simp[h]
theorem afT:KX Tryz.prog (iO 90 19 193):=by
 intro call hC f args s v s' h;unfold iO at h;rw[bV,bV,bV,dZ,dZ,dZ] at h;split at h
 ·rename_i hf
  have hf:f=90:=by simpa using hf
  subst hf;have h':=Option.some.inj h;unfold Tt at h';split at h'
  ·rename_i b
   rw[aN,ed] at h';obtain⟨hb,h'⟩:=h';cases h';refine⟨rfl,⟨_,_,Tryz.func90,rfl⟩,fun φ w args' hL hS=>?_⟩;obtain⟨y,hy,hV⟩:=Lj hL;have:=tq hV;subst this;rw[UQ hy];refine (Tryz.stringslite_Clone b w ?_).mono ?_
   ·have hb':(sL b).length≤1000000:=by simpa using hb
    have e:(sL b).length=b.size:=by cases b with | mk d=>cases d;rfl
    omega
   ·rintro e w' ⟨rfl,hb⟩
    exact⟨φ,_,rfl,V.dX rfl,Post.grown hS hb⟩
  ·cases h'
 ·split at h
  ·rename_i _ hf
   have hf:f=19:=by simpa using hf
   subst hf;have h':=Option.some.inj h;unfold Tu at h';split at h'
   ·rename_i g fs cap
    cases fs with
    | mk fl =>
    cases fl with
    | cons a l=>cases h'
    | nil =>
    obtain⟨⟨v1,s1⟩,hc,h'⟩:=aj.1 h';rw[gW] at h';obtain⟨a1,rfl,h'⟩:=Tz.1 h';cases a1 with
    | mk al =>
    cases al with
    | cons a l=>cases h'
    | nil =>
    have h2:some (Value.agg #[.int .i64 0,.int .i64 0],s1)=some (v,s'):=h';cases h2;obtain⟨hds,hbd,hcall⟩:=hC g (aL cap) s _ _ hc;refine⟨hds,⟨_,_,Tryz.func19,rfl⟩,fun φ w args' hL hS=>?_⟩;obtain⟨y,hy,hV⟩:=Lj hL;obtain⟨f2,c2,rfl,hL1,hL2⟩:∃ f2 c2,y=.func (.func g) f2 c2∧L (V0 φ) [] f2.toList∧L (V0 φ) cap.toList c2.toList:=by
     rcases hV with ((h | ⟨fn,f,c,f',c',h1,h2,h3,h4⟩) | ⟨_,_,h,_⟩) | ⟨_,_,h,_⟩
     ·exact h.elim
     ·cases h1;exact⟨f',c',h2,h3,h4⟩
     ·cases h
     ·cases h
    have hf2:f2=#[]:=by
     cases f2 with
     | mk l=>cases l with
      | nil=>rfl
      | cons _ _=>exact hL1.elim
    subst hf2;rw[UQ hy];have hG:=Post.grown hS (Below.alloc (Below.refl _ w) (Nat.le_refl _) Z2);refine (afS g c2 (fun w'=>∃ φ',Post φ s (w.alloc Z2) φ' s' w') w (FB FV hbd c2) ?_).mono ?_
    ·refine (hcall φ (w.alloc Z2) c2 (by rw[bL];exact hL2.mono fun _ _=>V.dX) hG.stt).mono ?_
     rintro e w' ⟨φ',v',rfl,hv,hP⟩;refine⟨⟨φ',hP⟩,?_,?_⟩
     ·rw[hP.ext.kept w.heap.size (by simp) ?_]
      ·exact heap_alloc_new w Z2
      ·intro x g _ hx hg he
       have:=hS.rel.bnd x g hg;omega
     ·have:v'=.tuple #[]:=by
       rcases hv with ((h | ⟨fn,f,c,f',c',h1,_⟩) | ⟨_,_,h,_⟩) | ⟨c,c',h1,h2,h3⟩
       ·exact h.elim
       ·cases h1
       ·cases h
       ·cases h1
        cases c' with
        | mk l=>cases l with
         | nil=>exact h2
         | cons _ _=>exact h3.elim
      rw[this]
    ·rintro e w' ⟨rfl,wx,⟨φ',hP⟩,hz,rfl⟩
     obtain⟨c0,c1,_,_⟩:=UO hz;rw[setCell_eq c0,setCell_eq c1];exact⟨φ',_,rfl,.inl (.inr ⟨_,_,rfl,rfl,.inl rfl,.inl rfl,trivial⟩),hG.trans hS hP⟩
   ·cases h'
  ·split at h
   ·rename_i _ _ hf
    have hf:f=193:=by simpa using hf
    subst hf;have h':=Option.some.inj h;unfold Tv at h';split at h'
    ·rename_i b c
     rw[aN,ed] at h';obtain⟨hc,h'⟩:=h';cases h';have hc:c≤255:=by simpa using hc
     refine⟨rfl,⟨_,_,Tryz.func193,rfl⟩,fun φ w args' hL hS=>?_⟩;have hargs:args'=#[.string b,.int .u8 (.ofNat c)]:=by
      cases args' with
      | mk l =>
      cases l with
      | nil=>exact hL.elim
      | cons y l =>
       obtain⟨z,hz,hzV⟩:=Lj hL.2;have h1:=tq hL.1;have h2:=nQ hzV;subst h1;subst h2;rw[hz]
     rw[hargs];refine (Tryz.strings_IndexByte b (.ofNat c) w).mono ?_;rintro e w' ⟨rfl,rfl⟩;refine⟨φ,_,rfl,V.dX ?_,Post.refl hS⟩;show _=Value.int .i64 (sW c (sL b) 0)
     rw[UN c hc];have e2:sL b=b.data.toList:=by cases b with | mk d=>cases d;rfl
     rw[e2];have e3:(Int.ofNat c).toNat.toUInt8=c.toUInt8:=rfl;rw[e3];congr 1
     split
     ·rename_i h;exact h
     ·simp
    ·cases h'
   ·cases h
end Xe
namespace Xe
noncomputable section
def sv (l:List UInt8):Value:=.string ⟨⟨l⟩⟩
def iv (n:Int):Value:=.int .i64 n
def tC:List Value:=[iv 18,sv [111,114],iv 1,iv 17,sv [97,110,100],iv 2,iv 11,sv [61,61],iv 3,iv 12,sv [33,61],iv 3,iv 13,sv [60],iv 3,iv 14,sv [60,61],iv 3,iv 15,sv [62],iv 3,iv 16,sv [62,61],iv 3,iv 6,sv [43],iv 4,iv 7,sv [45],iv 4,iv 8,sv [42],iv 5,iv 9,sv [47],iv 5,iv 10,sv [37],iv 5]
def wL:List Value:=[iv 2,sv []]
def wM:List Value:=[iv 1,sv []]
def h0:Hp:=fun x=>bB (Nat.beq x 0) (some (.cells ⟨tC⟩ 0)) (bB (Nat.beq x 1) (some (.cells ⟨wL⟩ 0)) (bB (Nat.beq x 2) (some (.cells ⟨wM⟩ 0)) none))
def s0:S:=⟨10,h0,[]⟩
def fn:Cl:=func Tryz.prog (iO 90 19 193) 60 false
end
structure qd (w:World):Prop where
 pairs:∃ e fr,w.heap[0]?=some (.cells ⟨tC⟩ e fr)
 truth:∃ e fr,w.heap[1]?=some (.cells ⟨wL⟩ e fr)
 num:∃ e fr,w.heap[2]?=some (.cells ⟨wM⟩ e fr)
theorem qd.below {w w':World}(h:qd w)(hb:Below w.heap.size w w'):qd w':=by
 obtain⟨⟨e0,f0,h0⟩,⟨e1,f1,h1⟩,⟨e2,f2,h2⟩⟩:=h;have l:∀ {b:Nat} {o:Obj},w.heap[b]?=some o→w'.heap[b]?=some o:=fun {b o} h=>(hb.block b (Array.getElem?_eq_some_iff.1 h).1).trans h;exact⟨⟨e0,f0,l h0⟩,⟨e1,f1,l h1⟩,⟨e2,f2,l h2⟩⟩
def tH:Ph:=fun x=>if x=0 then some ⟨0,39⟩ else if x=1 then some ⟨1,2⟩ else if x=2 then some ⟨2,2⟩ else none
theorem Ll {x:Nat}{o:Obj}(h:h0 x=some o):(x=0∧o=.cells ⟨tC⟩ 0)∨(x=1∧o=.cells ⟨wL⟩ 0)∨(x=2∧o=.cells ⟨wM⟩ 0):=by
 unfold h0 at h;rw[bV,bV,bV,dZ,dZ,dZ] at h;split at h
 ·rename_i e;cases h;exact .inl ⟨by simpa using e,rfl⟩
 ·split at h
  ·rename_i e;cases h;exact .inr (.inl ⟨by simpa using e,rfl⟩)
  ·split at h
   ·rename_i e;cases h;exact .inr (.inr ⟨by simpa using e,rfl⟩)
   ·cases h
theorem Lm (φ:Ph):∀ (l:List Value),(∀ v ∈ l,(∃ n,v=iv n)∨∃ b,v=sv b)→L (V1 φ) l l:=fun l h=>L.refl l fun v hv=>by
 rcases h v hv with⟨n,rfl⟩ | ⟨b,rfl⟩<;>exact .inl rfl
theorem afV {w:World}(h:qd w):dK tH s0 w:=by
 obtain⟨⟨e0,f0,q0⟩,⟨e1,f1,q1⟩,⟨e2,f2,q2⟩⟩:=h;have b0:=(Array.getElem?_eq_some_iff.1 q0).1;have b1:=(Array.getElem?_eq_some_iff.1 q1).1;have b2:=(Array.getElem?_eq_some_iff.1 q2).1;have hk:∀ l:List Value,(l=tC∨l=wL∨l=wM)→∀ v ∈ l,(∃ n,v=iv n)∨∃ b,v=sv b:=by
  intro l hl v hv;rcases hl with rfl | rfl | rfl
  ·simp only[tC,List.mem_cons,List.not_mem_nil,or_false] at hv
   rcases hv with h | h | h | h | h | h | h | h | h | h | h | h | h | h | h | h | h | h | h | h | h | h | h | h | h | h | h | h | h | h | h | h | h | h | h | h | h | h | h<;>first | exact .inl ⟨_,h⟩ | exact .inr ⟨_,h⟩
  ·simp only[wL,List.mem_cons,List.not_mem_nil,or_false] at hv
   rcases hv with h | h<;>first | exact .inl ⟨_,h⟩ | exact .inr ⟨_,h⟩
  ·simp only[wM,List.mem_cons,List.not_mem_nil,or_false] at hv
   rcases hv with h | h<;>first | exact .inl ⟨_,h⟩ | exact .inr ⟨_,h⟩
 refine⟨⟨?_,?_,?_,?_⟩,?_⟩
 ·intro x o hx
  rcases Ll hx with⟨rfl,rfl⟩ | ⟨rfl,rfl⟩ | ⟨rfl,rfl⟩
  ·exact⟨⟨0,39⟩,⟨tC⟩,e0,f0,rfl,q0,rfl,fun h=>absurd h (by omega),Nat.le_refl _,Lm _ _ (hk _ (.inl rfl))⟩
  ·exact⟨⟨1,2⟩,⟨wL⟩,e1,f1,rfl,q1,rfl,fun h=>absurd h (by omega),Nat.le_refl _,Lm _ _ (hk _ (.inr (.inl rfl)))⟩
  ·exact⟨⟨2,2⟩,⟨wM⟩,e2,f2,rfl,q2,rfl,fun h=>absurd h (by omega),Nat.le_refl _,Lm _ _ (hk _ (.inr (.inr rfl)))⟩
 ·rintro x y g g' ⟨o,hx,_⟩ ⟨o',hy,_⟩ h1 h2 e
  rcases Ll hx with⟨rfl,_⟩ | ⟨rfl,_⟩ | ⟨rfl,_⟩<;>rcases Ll hy with⟨rfl,_⟩ | ⟨rfl,_⟩ | ⟨rfl,_⟩<;>first | rfl | (cases h1;cases h2;cases e)
 ·intro x g hx
  unfold tH at hx;split at hx
  ·cases hx;exact b0
  ·split at hx
   ·cases hx;exact b1
   ·split at hx
    ·cases hx;exact b2
    ·cases hx
 ·intro x hx
  have:x=0∨x=1∨x=2:=by omega
  rcases this with rfl | rfl | rfl
  ·exact⟨39,rfl⟩
  ·exact⟨2,rfl⟩
  ·exact⟨2,rfl⟩
 ·intro x hx
  have hx':10≤x:=hx;unfold tH;rw[if_neg (by omega),if_neg (by omega),if_neg (by omega)]
end Xe
end Go.Proofs.YtfcpglhpolpdcaaGreatDoor
