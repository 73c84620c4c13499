/- The walks of params,head and heads. -/
import Derived.Test.YtolfleeidpeomaaGreatDoorM34
set_option maxRecDepth 100000
set_option maxHeartbeats 4000000
namespace Go.Proofs.YtolfleeidpeomaaGreatDoor
open Go.RowKit
namespace Sm
def fv {α:Type}(r:Except Int α):Except Int Value:=match r with | .ok _=>.ok (.tuple #[]) | .error e=>.error e
abbrev nC (n:Nat) (a:Option Addr) (c M:Nat) (i:Int):Obj:=.cells #[.slice a n c,.map (some M),.int .i64 i] 97 (0,0)
def mI (seen:List ByteArray):Ms.Row:=seen.map (fun s=>(s,.int .i64 1))
theorem BC (k:ByteArray):∀ seen:List ByteArray,Ms.val (mI seen) k=if seen.any (fun s=>decide (s=k))=true then some (.int .i64 1) else none
 | []=>rfl
 | s :: seen=>by
  have ih:=BC k seen
  unfold mI at *
  rw [List.map_cons,Ms.yJ,ih]
  by_cases h:k=s
  ·subst h;simp
  ·have h':¬ s=k:=fun e=>h e.symm
   rw [if_neg h,List.any_cons,decide_eq_false h',Bool.false_or]
theorem ab4 (seen:List ByteArray)(k:ByteArray):mI (seen++[k])=mI seen++[(k,.int .i64 1)]:=by simp [mI]
theorem at_set {k:ByteArray}{v:Value}:∀ {l:Ms.Row} {b i:Nat} {v0:Value},Ms.at' l k b=some (b+i,v0)→Ms.at' (l.set i (k,v)) k b=some (b+i,v)
 | [],b,i,v0,h=>by cases h
 | p :: l,b,i,v0,h=>by
  rw [Ms.at'] at h
  by_cases hp:k=p.1
  ·rw [if_pos hp] at h
   obtain rfl:i=0:=by simp at h;omega
   simp [Ms.at']
  ·rw [if_neg hp] at h
   obtain ⟨q,hq,_⟩:=Ms.Jf h
   obtain ⟨j,rfl⟩:∃ j,i=j+1:=⟨i - 1,by omega⟩
   rw [List.set_cons_succ,Ms.at',if_neg hp,show b+(j+1)=b+1+j by omega]
   exact at_set (by rw [h];congr 2;omega)
theorem qC {a b c:World}{M:Nat}(h:a.grownBy b none)(k:b.grownBy c (some M))(hM:a.heap.size≤M):a.grownBy c none :=
 ⟨k.os.trans h.os,k.tape.trans h.tape,k.output.trans h.output,Nat.le_trans h.size k.size,fun j hj _=>(k.block j (by have:=h.size;omega) (by simp;omega)).trans (h.block j hj (by simp))⟩
theorem zx (B:Nat)(l:List Sy.Df)(a:Option Addr)(c M:Nat)(num:Int)(ps:List Sy.Pm)(pa:Option Addr)(pc:Nat)(R:Ms.Row)(w:World)(r:Except Int Value)(hD:Hid (dS B w l a))(hB:B≤w.heap.size)(hM:Hid (Ms.In w M R))(hR:Hid (∀ s,Ms.val R s=(numOf l s).map (fun i=>.int .i64 (i:Int))))
  (hP:Hid (rM B w ps pa)) (hr:Hid (r=fv (Sm.params l ps []))) :
  Calls Tryz.prog 74 #[wT l.length a c M num,.slice pa ps.length pc] w fun e w'=>Fe num r w e w':=by
 have hmm:∀ w:World,(Instr.makeMap 64 Option.none).run Tryz.prog w=.ok (.map (some w.heap.size)) (w.alloc (.map #[] 0)):=fun _=>rfl
 have hz:∀ w',(zeroValue 3).run Tryz.prog w'=.ok (.int .i64 0) w':=fun w'=>by kernel_rfl
 obtain ⟨W0,hW0⟩:∃ W0,W0=(w.alloc (nC l.length a c M num)).alloc (.map #[] 0):=⟨_,rfl⟩
 have aY:Hid (w.grownBy W0 none):=by rw [hW0];exact bu _ _
 have AV:Hid (Ms.In W0 (w.heap.size+1) (mI [])):=by
  rw [hW0]
  have:=Ms.In.new (w.alloc (nC l.length a c M num))
  rw [World.size_alloc] at this
  exact this
 have xg:Hid (W0.heap[w.heap.size]?=some (nC l.length a c M num)):=by rw [hW0];exact (Below.heap_alloc _ _ _ (by simp)).trans (heap_alloc_new _ _)
 have HW0:Hid (W0=_):=hW0
 have D7:=hM.out.lt
 have hpl:ps.length≤maxLen:=hP.out.1
 obtain ⟨np,om⟩:∃ np,np=ps.length:=⟨_,rfl⟩
 have nz:Hid (np=ps.length):=om
 rw [← om] at hpl ⊢
 clear hW0 om
 go_enter Tryz.func74,Tryz.ntmps74
 go_wp2
 rw [← HW0.out]
 go_loopw [10] (fun q wr=>∃ (j:Nat) (seen:List ByteArray),q=.int .i64 j∧j≤np∧Hid (Ms.In wr (w.heap.size+1) (mI seen))∧Hid (W0.grownBy wr (some (w.heap.size+1)))∧Hid (r=fv (Sm.params l (ps.drop j) seen))) (fun q _=>np - (intOf q).toNat)
 case atStart=>exact ⟨0,[],rfl,Nat.zero_le _,AV,World.grownBy.refl _ _,by rw [List.drop_zero];exact hr⟩
 case round =>
  obtain ⟨j,seen,rfl,hj,HI,HG,HR⟩:=hrel
  have jQ:Hid (w.grownBy wr none):=qC aY.out HG.out (by omega)
  have BD:wr.heap[w.heap.size]?=some (nC l.length a c M num):=(HG.out.block _ (lt_of_block xg.out) (by simp)).trans xg.out
  have RJ:=lt_of_block BD
  by_cases hlt:j<np
  ·have hj1:j<ps.length:=by rw [← nz.out];exact hlt
   obtain ⟨p,hp⟩:∃ p,ps[j]?=some p:=⟨_,List.getElem?_eq_getElem hj1⟩
   have hdr:ps.drop j=p :: ps.drop (j+1):=by rw [List.drop_eq_getElem_cons hj1,(List.getElem?_eq_some_iff.1 hp).2]
   obtain ⟨pb,po,wU,hpb,p0,p1,p2,_⟩:=(hP.out.same (dK jQ.out (by simp) hB)).2 j p hp
   obtain ⟨sb,hsb⟩:∃ sb,sb=seen.any (fun s=>decide (s=p.name)):=⟨_,rfl⟩
   have ae:Hid (r=fv (if sb=true then .error 7 else if p.ty.kind=3 then andThen (Sm.want l 3 p.ty.gen) fun _=>Sm.params l (ps.drop (j+1)) (seen++[p.name]) else Sm.params l (ps.drop (j+1)) (seen++[p.name]))):=by
    unfold Hid
    rw [HR.out,hdr,Sm.params,hsb]
   have HI1:Ms.In (wr.alloc (jC p)) (w.heap.size+1) (mI seen):=HI.out.grow (bn _)
   have hL1:=(Ms.wS Tryz.underlying64 Tryz.underlying9 (k:=p.name) HI1 (hz _)).1
   rw [BC,← hsb] at hL1
   have abn:pb<wr.heap.size:=by have:=jQ.out.size;omega
   have HJ:Hid (j+1≤np):=hlt
   have JC:j+1≤9223372036854775807:=by unfold maxLen at hpl;omega
   have hjp:(j:Int)<(np:Int):=by omega
   have hilt:=HI.out.lt
   subst wU
   cases sb with
   | true =>
    have bX:Hid (r=.error 7):=ae.out
    have hv:Ms.val (mI seen) p.name=some (.int .i64 1):=by rw [BC,← hsb];rfl
    obtain ⟨ix,hix⟩:∃ ix,Ms.at' (mI seen) p.name 0=some (ix,.int .i64 1):=by
     unfold Ms.val at hv
     cases ha:Ms.at' (mI seen) p.name 0 with
     | none=>rw [ha] at hv;cases hv
     | some x=>rw [ha] at hv;obtain ⟨x1,x2⟩:=x;simp at hv;exact ⟨x1,by rw [hv]⟩
    obtain ⟨w2,hup,hI2,hg2⟩:=Ms.run_set Tryz.underlying64 Tryz.underlying9 (k:=p.name) (v:=.int .i64 2) HI1 hix
    have hv2:Ms.val ((mI seen).set ix (p.name,.int .i64 2)) p.name=some (.int .i64 2):=by
     unfold Ms.val
     have:=at_set (v:=.int .i64 2) (b:=0) (i:=ix) (v0:=.int .i64 1) (by rw [Nat.zero_add];exact hix)
     rw [this]
     rfl
    have hL2:=(Ms.wS Tryz.underlying64 Tryz.underlying9 (k:=p.name) hI2 (hz _)).1
    rw [hv2] at hL2
    simp only [if_true,Option.getD_some] at hL1 hL2
    have hb2:w2.heap[wr.heap.size]?=some (jC p):=(hg2.block _ (by simp) (by simp;omega)).trans (heap_alloc_new _ _)
    obtain ⟨t0,t1,t2⟩:=gB hb2
    obtain ⟨u0,u1,u2⟩:=gB ((hg2.block _ (by simp;omega) (by simp)).trans ((Below.heap_alloc wr (jC p) _ RJ).trans BD))
    have HG2:Hid (w.grownBy w2 none):=qC (aB jQ.out (bn _)) hg2 (by omega)
    clear hdr hp hsb HI1 hI2 hg2 hv hix hv2 hb2 BD
    go_wp2_with fail
    refine (jy l.length a c M num 7 _).mono ?_
    rintro e w9 ⟨rfl,gz⟩
    have HE:Hid (Fe num r w (.panicked [aH 7 num]) w9):=⟨aB HG2.out gz,by rw [bX.out]⟩
    clear gz
    go_wp2
    exact ⟨rfl,HE.out⟩
   | false =>
    have hv:Ms.val (mI seen) p.name=none:=by rw [BC,← hsb];rfl
    obtain ⟨w2,hup,hI2,hg2⟩:=Ms.Jg Tryz.underlying64 Tryz.underlying9 (k:=p.name) (v:=.int .i64 1) HI1 hv
    rw [← ab4] at hI2
    have hL2:=(Ms.wS Tryz.underlying64 Tryz.underlying9 (k:=p.name) hI2 (hz _)).1
    rw [BC] at hL2
    simp only [List.any_append,List.any_cons,List.any_nil,decide_true,Bool.or_true,Bool.true_or,if_true,Option.getD_some] at hL2
    simp only [Bool.false_eq_true,if_false,Option.getD_none] at hL1
    have hb2:w2.heap[wr.heap.size]?=some (jC p):=(hg2.block _ (by simp) (by simp;omega)).trans (heap_alloc_new _ _)
    obtain ⟨t0,t1,t2⟩:=gB hb2
    obtain ⟨u0,u1,u2⟩:=gB ((hg2.block _ (by simp;omega) (by simp)).trans ((Below.heap_alloc wr (jC p) _ RJ).trans BD))
    have HI2:Hid (Ms.In w2 (w.heap.size+1) (mI (seen++[p.name]))):=hI2
    have RL:Hid (W0.grownBy w2 (some (w.heap.size+1))):=aB (HG.out.andThen (bn (jC p)) (fun j e=>by cases e)) hg2
    have HG2:Hid (w.grownBy w2 none):=qC (aB jQ.out (bn _)) hg2 (by omega)
    have aeU:w.heap.size<w2.heap.size:=by have:=HG2.out.size;have:=hI2.lt;omega
    clear hdr hp hsb HI1 hI2 hg2 hv hb2 BD
    by_cases h3:p.ty.kind=3
    ·have e3:(p.ty.kind==3)=true:=by simpa using h3
     obtain ⟨rv,bf⟩:∃ rv:Except Int Value,rv=match Sm.want l 3 p.ty.gen with | .ok i=>.ok (.int .i64 (i:Int)) | .error y=>.error y:=⟨_,rfl⟩
     have dV:Hid (rv=match Sm.want l 3 p.ty.gen with | .ok i=>.ok (.int .i64 (i:Int)) | .error y=>.error y):=bf
     have Bg:Hid (r=fv (andThen (Sm.want l 3 p.ty.gen) fun _=>Sm.params l (ps.drop (j+1)) (seen++[p.name]))):=by
      have:=ae.out
      rw [if_neg (by decide),if_pos h3] at this
      exact this
     have HD2:Hid (dS B w2 l a):=hD.out.same (dK HG2.out (by simp) hB)
     have aU:Hid (Ms.In w2 M R):=hM.out.grow HG2.out
     have hB2:B≤w2.heap.size:=by omega
     clear h3 bf
     go_wp2_with fail
     refine (tY B l a c M num 3 p.ty.gen R w2 rv HD2 hB2 aU hR dV).mono ?_
     rintro e w3 ⟨hg3,fG⟩
     have aK:Hid (w.grownBy w3 none):=aB HG2.out hg3
     cases hwt:Sm.want l 3 p.ty.gen with
     | error y =>
      have bf:rv=.error y:=by rw [dV.out,hwt]
      subst bf
      obtain rfl:=fG
      have HE:Hid (Fe num r w (.panicked [aH y num]) w3):=⟨aK.out,by rw [Bg.out,hwt];rfl⟩
      clear hg3 hwt
      go_wp2
      exact ⟨rfl,HE.out⟩
     | ok i =>
      have bf:rv=.ok (.int .i64 (i:Int)):=by rw [dV.out,hwt]
      subst bf
      obtain rfl:=fG
      have iM:Hid (r=fv (Sm.params l (ps.drop (j+1)) (seen++[p.name]))):=by unfold Hid;rw [Bg.out,hwt];rfl
      have HI3:Hid (Ms.In w3 (w.heap.size+1) (mI (seen++[p.name]))):=HI2.out.grow hg3
      have ab5:Hid (W0.grownBy w3 (some (w.heap.size+1))):=RL.out.andThen hg3 (fun j e=>by cases e)
      clear hg3 hwt
      go_wp2
      go_roundw
      case rel=>exact ⟨j+1,seen++[p.name],by go_num,HJ.out,HI3,ab5,iM⟩
      case measure=>have:=HJ.out;simp [intOf];omega
    ·have e3:(p.ty.kind==3)=false:=by simpa using h3
     have iM:Hid (r=fv (Sm.params l (ps.drop (j+1)) (seen++[p.name]))):=by
      have:=ae.out
      rw [if_neg (by decide),if_neg h3] at this
      exact this
     clear h3
     go_wp2
     go_roundw
     case rel=>exact ⟨j+1,seen++[p.name],by go_num,HJ.out,HI2,RL,iM⟩
     case measure=>have:=HJ.out;simp [intOf];omega
  ·have bX:Hid (r=.ok (.tuple #[])):=by
    have h1:=HR.out
    have h2:=nz.out
    rw [List.drop_of_length_le (by omega)] at h1
    exact h1
   have hjp:¬ (j:Int)<(np:Int):=by omega
   go_wp2
   go_end0
   exact ⟨jQ.out,by rw [bX.out]⟩
end Sm
namespace Sm
theorem ab6 (B:Nat)(l:List Sy.Df)(a:Option Addr)(c M i:Nat)(me:Sy.Df)(R:Ms.Row)(w:World)(r:Except Int Value)(hD:Hid (dS B w l a))(hB:B≤w.heap.size)(hM:Hid (Ms.In w M R))(hR:Hid (∀ s,Ms.val R s=(numOf l s).map (fun i=>.int .i64 (i:Int))))
  (hme:Hid (l[i]?=some me)) (hr:Hid (r=fv (Sm.head l me))) :
  Calls Tryz.prog 39 #[wT l.length a c M (i:Int)] w fun e w'=>Fe (i:Int) r w e w':=by
 obtain ⟨W0,hW0⟩:∃ W0,W0=w.alloc (nC l.length a c M (i:Int)):=⟨_,rfl⟩
 have aY:Hid (w.grownBy W0 none):=by rw [hW0];exact bn _
 have RN:Hid (W0.heap[w.heap.size]?=some (nC l.length a c M (i:Int))):=by rw [hW0];exact heap_alloc_new _ _
 have HD0:Hid (dS B W0 l a):=hD.out.same (dK aY.out (by simp) hB)
 have hB0:B≤W0.heap.size:=by have:=aY.out.size;omega
 have HW0:Hid (W0=_):=hW0
 clear hW0
 go_enter Tryz.func39,Tryz.ntmps39
 go_wp2_with fail
 rw [← HW0.out]
 refine (nN B l a c M i me W0 HD0 hB0 hme).mono ?_
 rintro e w1 ⟨hg1,val,rfl,pa,pc,ba,bc,rfl,hdf⟩
 obtain ⟨W2,hW2⟩:∃ W2,W2=w1.alloc (aN me pa pc ba bc):=⟨_,rfl⟩
 have HW2:Hid (W2=_):=hW2
 have HG2:Hid (w.grownBy W2 none):=by rw [hW2];exact aB (aB aY.out hg1) (bn _)
 have HD:Hid (W2.heap[w1.heap.size]?=some (aN me pa pc ba bc)):=by rw [hW2];exact heap_alloc_new _ _
 have hl1:w1.heap[w.heap.size]?=some (nC l.length a c M (i:Int)):=(hg1.block _ (lt_of_block RN.out) (by simp)).trans RN.out
 have xg:Hid (W2.heap[w.heap.size]?=some (nC l.length a c M (i:Int))):=by rw [hW2];exact (Below.heap_alloc _ _ _ (lt_of_block hl1)).trans hl1
 have RO:Hid (rM B W2 me.params pa):=hdf.2.2.2.1.same (dK (aB hg1 (by rw [hW2];exact bn _)) (by simp) hB0)
 obtain ⟨m0,m1,m2⟩:=gB hl1
 have hwl:=lt_of_block hl1
 clear hg1 hdf hW2 hl1
 by_cases h1:me.kind=1
 ·have ae:Hid (r=fv (Sm.plain me.ty)):=by unfold Hid;rw [hr.out,Sm.head,if_pos h1]
  have e1:(me.kind==1)=true:=by simpa using h1
  clear h1 hr
  obtain ⟨nD,uU⟩:∃ rv:Except Int Value,rv=match Sm.plain me.ty with | .ok _=>.ok (.tuple #[]) | .error e=>.error e:=⟨_,rfl⟩
  have qD:Hid (nD=match Sm.plain me.ty with | .ok _=>.ok (.tuple #[]) | .error e=>.error e):=uU
  clear uU
  go_wp2_with fail
  refine (yK l.length a c M (i:Int) me.ty _ nD qD).mono ?_
  rintro e w4 ⟨hg4,jr⟩
  have aX:Hid (w.grownBy w4 none):=aB (by rw [HW2.out] at HG2;exact HG2.out) hg4
  cases kg:Sm.plain me.ty with
  | error y =>
   have bf:nD=.error y:=by rw [qD.out,kg]
   subst bf
   obtain rfl:=jr
   have HE:Hid (Fe (i:Int) r w (.panicked [aH y (i:Int)]) w4):=⟨aX.out,by rw [ae.out,kg];rfl⟩
   clear hg4 kg
   go_wp2
   exact ⟨rfl,HE.out⟩
  | ok u1 =>
   have bf:nD=.ok (.tuple #[]):=by rw [qD.out,kg]
   subst bf
   obtain rfl:=jr
   have HE:Hid (Fe (i:Int) r w (.returned (.tuple #[])) w4):=⟨aX.out,by rw [ae.out,kg];rfl⟩
   clear hg4 kg
   go_wp2
   go_end0
   exact HE.out
 ·have e1:(me.kind==1)=false:=by simpa using h1
  by_cases h2:me.kind=2
  ·have ae:Hid (r=fv (andThen (Sm.params l me.params []) fun _=>Sm.plain me.ty)):=by unfold Hid;rw [hr.out,Sm.head,if_neg h1,if_pos h2]
   have e2:(me.kind==2)=true:=by simpa using h2
   clear h1 h2 hr
   obtain ⟨rp,oD⟩:∃ rp:Except Int Value,rp=fv (Sm.params l me.params []):=⟨_,rfl⟩
   have nE:Hid (rp=fv (Sm.params l me.params [])):=oD
   have HD2:Hid (dS B W2 l a):=hD.out.same (dK HG2.out (by simp) hB)
   have aU:Hid (Ms.In W2 M R):=hM.out.grow HG2.out
   have hB2:B≤W2.heap.size:=by have:=HG2.out.size;omega
   clear oD
   go_wp2_with fail
   rw [← HW2.out]
   refine (zx B l a c M (i:Int) me.params pa pc R W2 rp HD2 hB2 aU hR RO nE).mono ?_
   rintro e w3 ⟨hg3,fG⟩
   have aK:Hid (w.grownBy w3 none):=aB HG2.out hg3
   have hd3:=(hg3.block _ (lt_of_block HD.out) (by simp)).trans HD.out
   have hl3:=(hg3.block _ (lt_of_block xg.out) (by simp)).trans xg.out
   obtain ⟨n0,n1,n2,n3,n4,n5,n6,n7,n8⟩:=eF hd3
   obtain ⟨k0,k1,k2⟩:=gB hl3
   have HD3:Hid (w3.heap[w1.heap.size]?=some (aN me pa pc ba bc)):=hd3
   have J3:Hid (w3.heap[w.heap.size]?=some (nC l.length a c M (i:Int))):=hl3
   cases oF:Sm.params l me.params [] with
   | error y =>
    have bf:rp=.error y:=by rw [nE.out,oF];rfl
    subst bf
    obtain rfl:=fG
    have HE:Hid (Fe (i:Int) r w (.panicked [aH y (i:Int)]) w3):=⟨aK.out,by rw [ae.out,oF];rfl⟩
    clear hg3 oF hd3 hl3
    go_wp2
    exact ⟨rfl,HE.out⟩
   | ok up =>
    have bf:rp=.ok (.tuple #[]):=by rw [nE.out,oF];rfl
    subst bf
    obtain rfl:=fG
    have BF:Hid (r=fv (Sm.plain me.ty)):=by unfold Hid;rw [ae.out,oF];rfl
    clear hg3 oF hd3 hl3 m0 m1 m2
    obtain ⟨nD,uU⟩:∃ rv:Except Int Value,rv=match Sm.plain me.ty with | .ok _=>.ok (.tuple #[]) | .error e=>.error e:=⟨_,rfl⟩
    have qD:Hid (nD=match Sm.plain me.ty with | .ok _=>.ok (.tuple #[]) | .error e=>.error e):=uU
    clear uU
    go_wp2_with fail
    refine (yK l.length a c M (i:Int) me.ty _ nD qD).mono ?_
    rintro e w4 ⟨hg4,jr⟩
    have aX:Hid (w.grownBy w4 none):=aB aK.out hg4
    cases kg:Sm.plain me.ty with
    | error y =>
     have bf:nD=.error y:=by rw [qD.out,kg]
     subst bf
     obtain rfl:=jr
     have HE:Hid (Fe (i:Int) r w (.panicked [aH y (i:Int)]) w4):=⟨aX.out,by rw [BF.out,kg];rfl⟩
     clear hg4 kg
     go_wp2
     exact ⟨rfl,HE.out⟩
    | ok u1 =>
     have bf:nD=.ok (.tuple #[]):=by rw [qD.out,kg]
     subst bf
     obtain rfl:=jr
     have HE:Hid (Fe (i:Int) r w (.returned (.tuple #[])) w4):=⟨aX.out,by rw [BF.out,kg];rfl⟩
     clear hg4 kg
     go_wp2
     go_end0
     exact HE.out
  ·have e2:(me.kind==2)=false:=by simpa using h2
   by_cases h3:me.kind=3
   ·have ae:Hid (r=fv (andThen (Sm.params l me.params []) fun _=>andThen (Sm.plain me.takes) fun _=>Sm.plain me.ty)):=by unfold Hid;rw [hr.out,Sm.head,if_neg h1,if_neg h2,if_pos h3]
    have e3:(me.kind==3)=true:=by simpa using h3
    clear h1 h2 h3 hr
    obtain ⟨rp,oD⟩:∃ rp:Except Int Value,rp=fv (Sm.params l me.params []):=⟨_,rfl⟩
    have nE:Hid (rp=fv (Sm.params l me.params [])):=oD
    have HD2:Hid (dS B W2 l a):=hD.out.same (dK HG2.out (by simp) hB)
    have aU:Hid (Ms.In W2 M R):=hM.out.grow HG2.out
    have hB2:B≤W2.heap.size:=by have:=HG2.out.size;omega
    clear oD
    go_wp2_with fail
    rw [← HW2.out]
    refine (zx B l a c M (i:Int) me.params pa pc R W2 rp HD2 hB2 aU hR RO nE).mono ?_
    rintro e w3 ⟨hg3,fG⟩
    have aK:Hid (w.grownBy w3 none):=aB HG2.out hg3
    have hd3:=(hg3.block _ (lt_of_block HD.out) (by simp)).trans HD.out
    have hl3:=(hg3.block _ (lt_of_block xg.out) (by simp)).trans xg.out
    obtain ⟨n0,n1,n2,n3,n4,n5,n6,n7,n8⟩:=eF hd3
    obtain ⟨k0,k1,k2⟩:=gB hl3
    have HD3:Hid (w3.heap[w1.heap.size]?=some (aN me pa pc ba bc)):=hd3
    have J3:Hid (w3.heap[w.heap.size]?=some (nC l.length a c M (i:Int))):=hl3
    cases oF:Sm.params l me.params [] with
    | error y =>
     have bf:rp=.error y:=by rw [nE.out,oF];rfl
     subst bf
     obtain rfl:=fG
     have HE:Hid (Fe (i:Int) r w (.panicked [aH y (i:Int)]) w3):=⟨aK.out,by rw [ae.out,oF];rfl⟩
     clear hg3 oF hd3 hl3
     go_wp2
     exact ⟨rfl,HE.out⟩
    | ok up =>
     have bf:rp=.ok (.tuple #[]):=by rw [nE.out,oF];rfl
     subst bf
     obtain rfl:=fG
     have BF:Hid (r=fv (andThen (Sm.plain me.takes) fun _=>Sm.plain me.ty)):=by unfold Hid;rw [ae.out,oF];rfl
     clear hg3 oF hd3 hl3 m0 m1 m2
     obtain ⟨nD,uU⟩:∃ rv:Except Int Value,rv=match Sm.plain me.takes with | .ok _=>.ok (.tuple #[]) | .error e=>.error e:=⟨_,rfl⟩
     have qD:Hid (nD=match Sm.plain me.takes with | .ok _=>.ok (.tuple #[]) | .error e=>.error e):=uU
     clear uU
     go_wp2_with fail
     refine (yK l.length a c M (i:Int) me.takes _ nD qD).mono ?_
     rintro e w4 ⟨hg4,jr⟩
     have aX:Hid (w.grownBy w4 none):=aB aK.out hg4
     cases kg:Sm.plain me.takes with
     | error y =>
      have bf:nD=.error y:=by rw [qD.out,kg]
      subst bf
      obtain rfl:=jr
      have HE:Hid (Fe (i:Int) r w (.panicked [aH y (i:Int)]) w4):=⟨aX.out,by rw [BF.out,kg];rfl⟩
      clear hg4 kg
      go_wp2
      exact ⟨rfl,HE.out⟩
     | ok u1 =>
      have bf:nD=.ok (.tuple #[]):=by rw [qD.out,kg]
      subst bf
      obtain rfl:=jr
      have qw:Hid (r=fv (Sm.plain me.ty)):=by unfold Hid;rw [BF.out,kg];rfl
      obtain ⟨_,_,o2,o3,_⟩:=eF ((hg4.block _ (lt_of_block HD3.out) (by simp)).trans HD3.out)
      obtain ⟨l0,l1,l2⟩:=gB ((hg4.block _ (lt_of_block J3.out) (by simp)).trans J3.out)
      clear hg4 kg
      obtain ⟨Er,RP⟩:∃ rv:Except Int Value,rv=match Sm.plain me.ty with | .ok _=>.ok (.tuple #[]) | .error e=>.error e:=⟨_,rfl⟩
      have J4:Hid (Er=match Sm.plain me.ty with | .ok _=>.ok (.tuple #[]) | .error e=>.error e):=RP
      clear RP
      go_wp2_with fail
      refine (yK l.length a c M (i:Int) me.ty _ Er J4).mono ?_
      rintro e w5 ⟨hg5,Es⟩
      have bY:Hid (w.grownBy w5 none):=aB aX.out hg5
      cases yS:Sm.plain me.ty with
      | error y =>
       have bf:Er=.error y:=by rw [J4.out,yS]
       subst bf
       obtain rfl:=Es
       have HE:Hid (Fe (i:Int) r w (.panicked [aH y (i:Int)]) w5):=⟨bY.out,by rw [qw.out,yS];rfl⟩
       clear hg5 yS
       go_wp2
       exact ⟨rfl,HE.out⟩
      | ok u2 =>
       have bf:Er=.ok (.tuple #[]):=by rw [J4.out,yS]
       subst bf
       obtain rfl:=Es
       have HE:Hid (Fe (i:Int) r w (.returned (.tuple #[])) w5):=⟨bY.out,by rw [qw.out,yS];rfl⟩
       clear hg5 yS
       go_wp2
       go_end0
       exact HE.out
   ·have e3:(me.kind==3)=false:=by simpa using h3
    have ae:Hid (r=.ok (.tuple #[])):=by unfold Hid;rw [hr.out,Sm.head,if_neg h1,if_neg h2,if_neg h3];rfl
    clear h1 h2 h3 hr
    rw [HW2.out] at HG2
    go_wp2
    go_end0
    exact ⟨HG2.out,by rw [ae.out]⟩
end Sm
namespace Sm
def ev {α:Type}(r:Except (Int × Nat) α):Except (Int × Nat) Unit:=match r with | .ok _=>.ok () | .error x=>.error x
theorem ab7 {α:Type}(f:Sy.Df→Except Int α)(d:Sy.Df)(l:List Sy.Df)(i:Nat):ev (each f (d :: l) i)=match f d with | .error e=>.error (e,i) | .ok _=>ev (each f l (i+1)):=by
 rw [each]
 cases f d with
 | error e=>rfl
 | ok x =>
  dsimp only
  cases each f l (i+1) <;> rfl
def Ge (r:Except (Int × Nat) Unit)(w:World)(e:Ending)(w':World):Prop :=
 w.grownBy w' none∧e=match r with | .ok _=>.returned (.tuple #[]) | .error x=>.panicked [aH x.1 (x.2:Int)]
abbrev xh (l:List Sy.Df) (a:Option Addr) (c M:Nat):Value:=.agg #[.slice a l.length c,.map (some M)]
abbrev gN (n:Nat) (a:Option Addr) (c M:Nat):Obj:=.cells #[.slice a n c,.map (some M)] 66 (0,0)
theorem ab8 (B:Nat)(l:List Sy.Df)(a:Option Addr)(c M:Nat)(R:Ms.Row)(w:World)(r:Except (Int × Nat) Unit)(hD:Hid (dS B w l a))(hB:B≤w.heap.size)(hM:Hid (Ms.In w M R))(hR:Hid (∀ s,Ms.val R s=(numOf l s).map (fun i=>.int .i64 (i:Int))))
  (hr:Hid (r=ev (each (Sm.head l) l 0))) :
  Calls Tryz.prog 20 #[xh l a c M] w fun e w'=>Ge r w e w':=by
 obtain ⟨W0,hW0⟩:∃ W0,W0=w.alloc (gN l.length a c M):=⟨_,rfl⟩
 have aY:Hid (w.grownBy W0 none):=by rw [hW0];exact bn _
 have jo:Hid (W0.heap[w.heap.size]?=some (gN l.length a c M)):=by rw [hW0];exact heap_alloc_new _ _
 have HW0:Hid (W0=_):=hW0
 have jk:l.length≤maxLen:=hD.out.1
 obtain ⟨L,hL⟩:∃ L,L=l.length:=⟨_,rfl⟩
 have HL:Hid (L=l.length):=hL
 rw [← hL] at jk
 clear hW0
 rw [show xh l a c M=.agg #[.slice a L c,.map (some M)] by rw [hL]]
 rw [← hL] at jo HW0
 clear hL
 go_enter Tryz.func20,Tryz.ntmps20
 go_wp2
 rw [← HW0.out]
 go_loopw [6] (fun q wr=>∃ j:Nat,q=.int .i64 j∧j≤L∧Hid (W0.grownBy wr none)∧Hid (r=ev (each (Sm.head l) (l.drop j) j))) (fun q _=>L - (intOf q).toNat)
 case atStart=>exact ⟨0,rfl,Nat.zero_le _,World.grownBy.refl _ _,by rw [List.drop_zero];exact hr⟩
 case round =>
  obtain ⟨j,rfl,hj,HG,HR⟩:=hrel
  have jQ:Hid (w.grownBy wr none):=aB aY.out HG.out
  obtain ⟨p0,p1,_,_⟩:=bE ((HG.out.block _ (lt_of_block jo.out) (by simp)).trans jo.out)
  by_cases hlt:j<L
  ·have hj1:j<l.length:=by rw [← HL.out];exact hlt
   obtain ⟨d,hd⟩:∃ d,l[j]?=some d:=⟨_,List.getElem?_eq_getElem hj1⟩
   have hdr:l.drop j=d :: l.drop (j+1):=by rw [List.drop_eq_getElem_cons hj1,(List.getElem?_eq_some_iff.1 hd).2]
   have ae:Hid (r=match Sm.head l d with | .error e=>.error (e,j) | .ok _=>ev (each (Sm.head l) (l.drop (j+1)) (j+1))):=by
    unfold Hid
    rw [HR.out,hdr,ab7]
    cases Sm.head l d <;> rfl
   obtain ⟨rf,hrf⟩:∃ rf,rf=fv (Sm.head l d):=⟨_,rfl⟩
   have mG:Hid (rf=fv (Sm.head l d)):=hrf
   have mq:Hid (dS B wr l a):=hD.out.same (dK jQ.out (by simp) hB)
   have HMr:Hid (Ms.In wr M R):=hM.out.grow jQ.out
   have hBr:B≤wr.heap.size:=by have:=jQ.out.size;omega
   have RQ:Hid (l[j]?=some d):=hd
   have HJ:Hid (j+1≤L):=hlt
   have JC:j+1≤9223372036854775807:=by unfold maxLen at jk;omega
   have hjp:(j:Int)<(L:Int):=by omega
   clear hdr hd hrf
   go_wp2_with fail
   have hh:=ab6 B l a c M j d R wr rf mq hBr HMr hR RQ mG
   rw [← HL.out] at hh
   refine hh.mono ?_
   rintro e w1 ⟨hg1,he1⟩
   have ax:Hid (W0.grownBy w1 none):=aB HG.out hg1
   clear hh
   cases hhd:Sm.head l d with
   | error y =>
    have bf:rf=.error y:=by rw [mG.out,hhd];rfl
    subst bf
    obtain rfl:=he1
    have HE:Hid (Ge r w (.panicked [aH y (j:Int)]) w1):=⟨aB aY.out ax.out,by rw [ae.out,hhd]⟩
    clear hg1 hhd
    go_wp2
    exact ⟨rfl,HE.out⟩
   | ok u =>
    have bf:rf=.ok (.tuple #[]):=by rw [mG.out,hhd];rfl
    subst bf
    obtain rfl:=he1
    have iM:Hid (r=ev (each (Sm.head l) (l.drop (j+1)) (j+1))):=by unfold Hid;rw [ae.out,hhd]
    clear hg1 hhd
    go_wp2
    go_roundw
    case rel=>exact ⟨j+1,by go_num,HJ.out,ax,iM⟩
    case measure=>have:=HJ.out;simp [intOf];omega
  ·have bX:Hid (r=.ok ()):=by
    have h1:=HR.out
    have h2:=HL.out
    rw [List.drop_of_length_le (by omega)] at h1
    exact h1
   have hjp:¬ (j:Int)<(L:Int):=by omega
   go_wp2
   go_end0
   exact ⟨jQ.out,by rw [bX.out]⟩
def jv (l:List Sy.Df)(j:Nat):Ms.Row:=(List.range j).map (fun i=>((bJ l i).name,.int .i64 (i:Int)))
theorem RS (l:List Sy.Df)(j:Nat):jv l (j+1)=jv l j++[((bJ l j).name,.int .i64 (j:Int))]:=by simp [jv,List.range_succ]
theorem J5 {l:List Sy.Df}{s:ByteArray}{j:Nat}(h:∀ i,i<j→(bJ l i).name≠s):Ms.val (jv l j) s=none:=by
 rw [Ms.Je]
 intro p hp
 obtain ⟨i,hi,rfl⟩:=List.mem_map.1 hp
 exact h i (List.mem_range.1 hi)
theorem RU {l:List Sy.Df}{s:ByteArray}{i:Nat}(hi:(bJ l i).name=s)(hn:∀ k,k<i→(bJ l k).name≠s):∀ j,i<j→Ms.val (jv l j) s=some (.int .i64 (i:Int))
 | 0,h=>by omega
 | j+1,h=>by
  rw [RS,Ms.val_append]
  by_cases e:i=j
  ·subst e
   rw [J5 hn,Ms.yJ,hi]
   simp
  ·rw [RU hi hn j (by omega)]
   rfl
theorem RV:∀ {l:List Sy.Df} {i:Nat} {seen:List ByteArray},names l i seen=none→(∀ d ∈ l,∀ s ∈ seen,s≠d.name)∧(l.map (·.name)).Nodup
 | [],_,_,_=>⟨fun d hd=>(by cases hd),by simp⟩
 | d :: l,i,seen,h=>by
  rw [names] at h
  split at h
  ·cases h
  ·rename_i hs
   obtain ⟨h1,h2⟩:=RV h
   have hs':∀ s ∈ seen,s≠d.name:=fun s hm e=>hs (by rw [List.any_eq_true];exact ⟨s,hm,by simp [e]⟩)
   refine ⟨fun d' hd' s hm=>?_,?_⟩
   ·rcases List.mem_cons.1 hd' with rfl | hd'
    ·exact hs' s hm
    ·exact h1 d' hd' s (List.mem_append_left _ hm)
   ·rw [List.map_cons,List.nodup_cons]
    refine ⟨fun hm=>?_,h2⟩
    obtain ⟨d',hd',he⟩:=List.mem_map.1 hm
    exact h1 d' hd' d.name (by simp) he.symm
theorem aca {l:List Sy.Df}(hn:(l.map (·.name)).Nodup)(s:ByteArray):Ms.val (jv l l.length) s=(numOf l s).map (fun i=>.int .i64 (i:Int)):=by
 have uniq:∀ i k,i<l.length→k<l.length→(bJ l i).name=(bJ l k).name→i=k:=fun i k hi hk he=>by
  have h1:(l.map (·.name))[i]?=some (bJ l i).name:=by simp [bJ,List.getElem?_eq_getElem hi]
  have h2:(l.map (·.name))[k]?=some (bJ l i).name:=by rw [he];simp [bJ,List.getElem?_eq_getElem hk]
  exact (List.getElem?_inj (by simpa using hi) hn).1 (h1.trans h2.symm)
 cases hq:numOf l s with
 | none =>
  refine J5 fun i hi he=>?_
  unfold numOf at hq
  rw [List.find?_eq_none] at hq
  refine hq i (by simpa using hi) ?_
  simp [List.getElem?_eq_getElem hi]
  rw [← he]
  simp [bJ,List.getElem?_eq_getElem hi]
 | some i =>
  have hi:=D8 hq
  have he:(bJ l i).name=s:=by
   unfold numOf at hq
   have:=List.find?_some hq
   simp [List.getElem?_eq_getElem hi] at this
   simp [bJ,List.getElem?_eq_getElem hi,this]
  exact RU he (fun k hk hke=>by have:=uniq k i (by omega) hi (hke.trans he.symm);omega) l.length hi
end Sm
namespace Sm
abbrev zP:Obj:=.cells #[.slice none 0 0,.map none] 66 (0,0)
def rG (l:List Sy.Df)(j:Nat):List ByteArray:=(List.range j).map (fun i=>(bJ l i).name)
theorem acb (l:List Sy.Df)(j:Nat):rG l (j+1)=rG l j++[(bJ l j).name]:=by simp [rG,List.range_succ]
theorem RX {l:List Sy.Df}{j:Nat}{s:ByteArray}:(Ms.val (jv l j) s).isSome=(rG l j).any (fun x=>decide (x=s)):=by
 cases hv:Ms.val (jv l j) s with
 | none =>
  rw [Ms.Je] at hv
  symm
  rw [Option.isSome_none,List.any_eq_false]
  intro x hx
  obtain ⟨i,hi,rfl⟩:=List.mem_map.1 hx
  have:=hv _ (List.mem_map.2 ⟨i,hi,rfl⟩)
  simpa using this
 | some y =>
  symm
  rw [Option.isSome_some,List.any_eq_true]
  false_or_by_contra
  rename_i hc
  have:Ms.val (jv l j) s=none:=J5 fun i hi he=>hc ⟨_,List.mem_map.2 ⟨i,List.mem_range.2 hi,rfl⟩,by simpa using he⟩
  rw [hv] at this
  cases this
def Np (l:List Sy.Df)(a:Option Addr)(c:Nat)(r:Option (Int × Nat))(w:World)(e:Ending)(w':World):Prop :=
 w.grownBy w' none∧match r with
 | some x=>e=.panicked [aH x.1 (x.2:Int)]
 | none=>e=.returned (xh l a c (w.heap.size+1))∧Ms.In w' (w.heap.size+1) (jv l l.length)∧(l.map (·.name)).Nodup
theorem acd (B:Nat)(l:List Sy.Df)(a:Option Addr)(c:Nat)(w:World)(r:Option (Int × Nat))(hD:Hid (dS B w l a))(hB:B≤w.heap.size)(hr:Hid (r=Sm.prog l)) :
  Calls Tryz.prog 19 #[.slice a l.length c] w fun e w'=>Np l a c r w e w':=by
 have hmm:∀ w:World,(Instr.makeMap 64 Option.none).run Tryz.prog w=.ok (.map (some w.heap.size)) (w.alloc (.map #[] 0)):=fun _=>rfl
 have hz:∀ w',(zeroValue 3).run Tryz.prog w'=.ok (.int .i64 0) w':=fun w'=>by kernel_rfl
 have jk:l.length≤maxLen:=hD.out.1
 obtain ⟨L,hL⟩:∃ L,L=l.length:=⟨_,rfl⟩
 have HL:Hid (L=l.length):=hL
 obtain ⟨W0,hW0⟩:∃ W0,W0=((w.alloc zP).alloc (.map #[] 0)).alloc (gN L a c (w.heap.size+1)):=⟨_,rfl⟩
 have aY:Hid (w.grownBy W0 none):=by rw [hW0];exact aB (bu _ _) (bn _)
 have AV:Hid (Ms.In W0 (w.heap.size+1) (jv l 0)):=by
  rw [hW0]
  have:=Ms.In.new (w.alloc zP)
  rw [World.size_alloc] at this
  exact this.grow (bn _)
 have jo:Hid (W0.heap[w.heap.size+1+1]?=some (gN L a c (w.heap.size+1))):=by
  rw [hW0]
  have:=heap_alloc_new ((w.alloc zP).alloc (.map #[] 0)) (gN L a c (w.heap.size+1))
  rw [World.size_alloc,World.size_alloc] at this
  exact this
 have HZ0:Hid (W0.heap[w.heap.size]?=some zP):=by
  rw [hW0]
  exact (Below.heap_alloc _ _ _ (by simp;omega)).trans ((Below.heap_alloc _ _ _ (by simp)).trans (heap_alloc_new _ _))
 have JW:Hid (names l 0 []=names (l.drop 0) 0 (rG l 0)):=by unfold Hid;rw [List.drop_zero];rfl
 have HW0:Hid (W0=_):=hW0
 rw [← hL] at jk ⊢
 clear hW0 hL
 go_enter Tryz.func19,Tryz.ntmps19
 go_wp2
 rw [← HW0.out]
 go_loopw [4,14] (fun tq q wr=>∃ (j tk:Nat),tq=.int .i64 tk∧q=.int .i64 j∧j≤L∧tk≤j∧Hid (Ms.In wr (w.heap.size+1) (jv l j))∧Hid (W0.grownBy wr (some (w.heap.size+1)))∧Hid (names l 0 []=names (l.drop j) j (rG l j))∧Hid (0<tk ↔ (l.take j).any (fun d=>d.kind==4)=true)) (fun _ q _=>L - (intOf q).toNat)
 case atStart=>exact ⟨0,0,rfl,rfl,Nat.zero_le _,Nat.zero_le _,AV,World.grownBy.refl _ _,JW,by unfold Hid;simp⟩
 case round =>
  obtain ⟨j,tk,rfl,rfl,hj,htk,HI,HG,HN,HT⟩:=hrel
  have jQ:Hid (w.grownBy wr none):=qC aY.out HG.out (by omega)
  have hP:wr.heap[w.heap.size+1+1]?=some (gN L a c (w.heap.size+1)):=(HG.out.block _ (lt_of_block jo.out) (by simp)).trans jo.out
  have hZ:wr.heap[w.heap.size]?=some zP:=(HG.out.block _ (lt_of_block HZ0.out) (by simp)).trans HZ0.out
  obtain ⟨p0,p1,_,_⟩:=bE hP
  have xm:=lt_of_block hP
  by_cases hlt:j<L
  ·have hj1:j<l.length:=by rw [← HL.out];exact hlt
   obtain ⟨d,hd⟩:∃ d,l[j]?=some d:=⟨_,List.getElem?_eq_getElem hj1⟩
   have hdr:l.drop j=d :: l.drop (j+1):=by rw [List.drop_eq_getElem_cons hj1,(List.getElem?_eq_some_iff.1 hd).2]
   have ik:bJ l j=d:=by simp [bJ,hd]
   obtain ⟨b,off,pa,pc,ba,bc,ha,hb,k0,k1,k2,k3,k4,k5,k6,k7,k8,_⟩:=(hD.out.same (dK jQ.out (by simp) hB)).2 j d hd
   have J6:Hid (names l 0 []=if (rG l j).any (fun x=>decide (x=d.name))=true then some (7,j) else names (l.drop (j+1)) (j+1) (rG l (j+1))):=by
    unfold Hid
    rw [HN.out,hdr,names,acb,ik]
   have hI1:Ms.In (wr.alloc (aN d pa pc ba bc)) (w.heap.size+1) (jv l j):=HI.out.grow (bn _)
   have hL1:=(Ms.wS Tryz.underlying64 Tryz.underlying9 (k:=d.name) hI1 (hz _)).2
   rw [RX] at hL1
   obtain ⟨sb,hsb⟩:∃ sb,sb=(rG l j).any (fun x=>decide (x=d.name)):=⟨_,rfl⟩
   rw [← hsb] at hL1
   rw [← hsb] at J6
   obtain ⟨x0,hx0⟩:∃ x0,x0=(Ms.val (jv l j) d.name).getD (.int .i64 0):=⟨_,rfl⟩
   rw [← hx0] at hL1
   have hbw:b<wr.heap.size:=by have:=jQ.out.size;omega
   have HJ:Hid (j+1≤L):=hlt
   have JC:j+1≤9223372036854775807:=by unfold maxLen at jk;omega
   have hjp:(j:Int)<(L:Int):=by omega
   have hilt:=HI.out.lt
   have uV:Hid (((l.take (j+1)).any (fun d=>d.kind==4))=((l.take j).any (fun d=>d.kind==4) || d.kind==4)):=by
    unfold Hid
    rw [List.take_succ_eq_append_getElem hj1,List.any_append,(List.getElem?_eq_some_iff.1 hd).2]
    simp
   subst ha
   cases sb with
   | true =>
    have bX:Hid (r=some (7,j)):=by unfold Hid;rw [hr.out,Sm.prog,J6.out];rfl
    clear hdr hd ik hsb hI1 hx0 hP hZ
    go_wp2_with fail
    refine (zo (j:Int) 7 _).mono ?_
    rintro e w9 ⟨rfl,_,rfl⟩
    go_wp2
    refine ⟨rfl,aB jQ.out (bn _),?_⟩
    rw [bX.out]
   | false =>
    have hv:Ms.val (jv l j) d.name=none:=by
     have:=RX (l:=l) (j:=j) (s:=d.name)
     rw [← hsb] at this
     cases hq:Ms.val (jv l j) d.name with
     | none=>rfl
     | some y=>rw [hq] at this;cases this
    obtain ⟨w2,hup,hI2,hg2⟩:=Ms.Jg Tryz.underlying64 Tryz.underlying9 (k:=d.name) (v:=.int .i64 (j:Int)) hI1 hv
    have hrs:=RS l j
    rw [ik] at hrs
    rw [← hrs] at hI2
    have HI2:Hid (Ms.In w2 (w.heap.size+1) (jv l (j+1))):=hI2
    have HG2:Hid (W0.grownBy w2 (some (w.heap.size+1))):=aB (HG.out.andThen (bn (aN d pa pc ba bc)) (fun j e=>by cases e)) hg2
    have hb2:w2.heap[wr.heap.size]?=some (aN d pa pc ba bc):=(hg2.block _ (by simp) (by simp;omega)).trans (heap_alloc_new _ _)
    obtain ⟨n0,_⟩:=eF hb2
    have RY:Hid (names l 0 []=names (l.drop (j+1)) (j+1) (rG l (j+1))):=J6.out
    have aeV:tk+1≤9223372036854775807:=by omega
    clear hdr hd ik hsb hI1 hx0 hP hZ hv hI2 hg2 hb2 hrs
    by_cases h4:d.kind=4
    ·have e4:(d.kind==4)=true:=by simpa using h4
     have J7:Hid (0<tk+1 ↔ (l.take (j+1)).any (fun d=>d.kind==4)=true):=by unfold Hid;rw [uV.out,e4];simp
     clear h4
     go_wp2
     go_roundw
     case rel=>exact ⟨j+1,tk+1,by go_num,by go_num,HJ.out,by omega,HI2,HG2,RY,J7⟩
     case measure=>have:=HJ.out;simp [intOf];omega
    ·have e4:(d.kind==4)=false:=by simpa using h4
     have J7:Hid (0<tk ↔ (l.take (j+1)).any (fun d=>d.kind==4)=true):=by unfold Hid;rw [uV.out,e4,Bool.or_false];exact HT.out
     clear h4
     go_wp2
     go_roundw
     case rel=>exact ⟨j+1,tk,by go_num,by go_num,HJ.out,by omega,HI2,HG2,RY,J7⟩
     case measure=>have:=HJ.out;simp [intOf];omega
  ·have Eo:j=L:=by omega
   have hjp:¬ (j:Int)<(L:Int):=by omega
   have RZ:Hid (names l 0 []=none):=by
    have h1:=HN.out
    have h2:=HL.out
    rw [List.drop_of_length_le (by omega)] at h1
    exact h1
   have R3:Hid (0<tk ↔ l.any (fun d=>d.kind==4)=true):=by
    have h1:=HT.out
    have h2:=HL.out
    rw [List.take_of_length_le (by omega)] at h1
    exact h1
   have R4:Hid (Ms.In wr (w.heap.size+1) (jv l l.length)):=by
    have:=HI.out
    rw [Eo,HL.out] at this
    exact this
   have ae:Hid (r=if l.any (fun d=>d.kind==4) then none else some (6,l.length)):=by unfold Hid;rw [hr.out,Sm.prog,RZ.out]
   by_cases h0:tk=0
   ·have e0:((tk:Int)==0)=true:=by simp;omega
    have bX:Hid (r=some (6,L)):=by
     unfold Hid
     rw [ae.out,if_neg (fun hc=>by have:=R3.out.2 hc;omega),HL.out]
    clear h0 hP hZ Eo
    go_wp2_with fail
    refine (zo (L:Int) 6 _).mono ?_
    rintro e w9 ⟨rfl,_,rfl⟩
    go_wp2
    refine ⟨rfl,jQ.out,?_⟩
    rw [bX.out]
   ·have e0:((tk:Int)==0)=false:=by simp;omega
    have bX:Hid (r=none):=by unfold Hid;rw [ae.out,if_pos (R3.out.1 (by omega))]
    have J8:=hid (RV RZ.out).2
    obtain ⟨z0,z1,Jt,Ju⟩:=bE hZ
    have gz:wr.grownBy (j5 wr w.heap.size (.slice a L c) (.map (some (w.heap.size+1)))) (some w.heap.size):=aB (gQ _ _ 0 _) (gQ _ _ 1 _)
    have J9:(j5 wr w.heap.size (.slice a L c) (.map (some (w.heap.size+1)))).heap[w.heap.size]?=some (gN L a c (w.heap.size+1)):=iN (iN hZ 0 _) 1 _
    obtain ⟨W9,dw⟩:∃ W9,W9=(wr.setCell ⟨w.heap.size,0,none⟩ (.slice a L c)).setCell ⟨w.heap.size,1,none⟩ (.map (some (w.heap.size+1))):=⟨_,rfl⟩
    have di:Hid (W9=_):=dw
    rw [show j5 wr w.heap.size (.slice a L c) (.map (some (w.heap.size+1)))=W9 from dw.symm] at gz J9
    have GN:=hid J9
    have HE:Hid (Np l a c r w (.returned (.agg #[.slice a L c,.map (some (w.heap.size+1))])) W9):=by
     refine ⟨qC jQ.out gz (Nat.le_refl _),?_⟩
     rw [bX.out]
     refine ⟨by rw [HL.out],R4.out.keep (gz.block _ R4.out.lt (by simp)),J8.out⟩
    clear h0 hP hZ Eo gz J9 dw
    go_wp2
    rw [← di.out]
    have q9:=GN.out
    refine bodyPost_ret (v:=.agg #[.slice a L c,.map (some (w.heap.size+1))]) (by simp [results,Tryz.results19,go_sem,World.cell?,q9]) rfl ?_
    exact HE.out
end Sm
end Go.Proofs.YtolfleeidpeomaaGreatDoor
