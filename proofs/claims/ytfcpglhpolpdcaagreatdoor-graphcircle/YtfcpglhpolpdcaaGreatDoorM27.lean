/- The walk of Comes,whatever is told. -/
import Derived.Test.YtfcpglhpolpdcaaGreatDoorM24
import Derived.Test.YtfcpglhpolpdcaaGreatDoorM26
import Derived.Deep.QuietTactic
import Derived.BigQuiet
import Derived.Test.YtfcpglhpolpdcaaGreatDoorM22
import Derived.Maps.RangeWalk
set_option maxRecDepth 100000
set_option maxHeartbeats 6000000
namespace Go.Proofs.YtfcpglhpolpdcaaGreatDoor
open Go.RowKit
theorem aaM (m:Vf.Md)(ab au:Option Addr)(cb cu B n M:Nat)(g:FuncId)(af:Array Value)(I:List Lk→World→Prop)(w:World)(hmd:Hid (aZ B w m ab au))(hB:B≤w.heap.size)(hR:Hid (Rt m))(hn:n<m.units.length)(Il:B≤M)(hM:M<w.heap.size)
  (hcf:∀ (vs:Array Value) (w:World),(callFunc g vs).run Tryz.prog w=.ok (.enter g vs) w) (hT:Hid (H6 g af w.heap.size M I)) (hI:Hid (I [] w)) :
  Calls Tryz.prog 29 #[fC m ab au cb cu,.int .i64 (n:Int),.func (.func g) #[] af] w fun e w'=>e=.returned (.tuple #[])∧w.grownBy w' (some M)∧∃ ts,I ts w'∧∀ q,q ∈ ts ↔ (q.1=26∨q.1=27)∧Vf.comes m n q=true:=by
 have hmm:∀ w:World,(Instr.makeMap 145 Option.none).run Tryz.prog w=.ok (.map (some w.heap.size)) (w.alloc (.map #[] 0)):=fun _=>rfl;have hmu:m.units.length≤30:=hR.out.units;obtain⟨t0,t1,t2,_⟩:=Ag w (xD m ab au cb cu) (.cells #[.int .i64 (n:Int)] 3 (0,0)) (.map #[] 0);have hM0:=je.new ((w.alloc (xD m ab au cb cu)).alloc (.cells #[.int .i64 (n:Int)] 3 (0,0)));rw[World.size_alloc,World.size_alloc] at hM0;obtain⟨w1,hup,hM1,hg1⟩:=Pd hM0 n 1;have k1:∀ q,q<w.heap.size+1+1→w1.heap[q]?=(((w.alloc (xD m ab au cb cu)).alloc (.cells #[.int .i64 (n:Int)] 3 (0,0))).alloc (.map #[] 0)).heap[q]?:=fun q hq=>hg1.block q (by simp;omega) (by simp;omega);have HST:Hid (jG m ab au cb cu n M w I 0 0 (.slice (some ⟨w.heap.size+1,0,none⟩) 1 1) [n] [] (fun a=>if a=(n:Int) then 1 else 0) w1) :=
  ⟨Vf.fK.start hn,.inr ⟨w.heap.size+1,0,1,[.int .i64 (n:Int)],rfl,by omega,(k1 _ (by omega)).trans t2,by simp,by simp,fun i x hx=>by
   cases i with
   | zero=>simp at hx;subst hx;rfl
   | succ i=>simp at hx⟩,hM1,hT.out.keep _ _ _ hI.out (fun q hq=>(k1 q (by omega)).trans (t0.block q hq (by simp))),(k1 _ (by omega)).trans t1,uE (uF (fG _ _) t0) hg1 (.inl (by omega))⟩
 clear t0 t1 t2 hM0 hM1 hg1 k1;go_enter Tryz.func29,Tryz.ntmps29
 go_wp2
 go_loopw [6,8] (fun v i wr=>∃ (k:Nat) (R:List Nat) (ts:List Lk) (f:Int→Int),i=.int .i64 k∧jG m ab au cb cu n M w I k 0 v R ts f wr) (fun _ i _=>31 - (intOf i).toNat)
 case atStart=>exact⟨0,[n],[],_,rfl,HST.out⟩
 case round =>
  obtain⟨k,R,ts,f,rfl,hA⟩:=hrel;clear HST hup;have HA:=hide hA;obtain⟨a,c,rfl⟩:=hA.row.form;have hrl:=hA.wk.len;have aha:R.length≤30:=by omega
  clear hA;by_cases hlt:k<R.length
  ·obtain⟨x,hx⟩:∃ x,R[k]?=some x:=⟨_,List.getElem?_eq_getElem hlt⟩
   have hxu:x<m.units.length:=HA.out.wk.lt x (List.mem_of_getElem? hx);obtain⟨u,hu⟩:∃ u,m.units[x]?=some u:=⟨_,List.getElem?_eq_getElem hxu⟩;have PS:aZ B wr m ab au:=hmd.out.low (Hz HA.out.grown Il hB);obtain⟨b,off,al,cl,ac,cc,ha,hb,gL,u0,u1,u2,u3,u4,u5⟩:=PS.units x u hu;have Al:Hid (gB B w u al ac cl cc):=gL.low (fun q hq=>(Hz HA.out.grown Il hB q hq).symm);obtain⟨g',ahb,cap',hv,hgl,hc⟩:=HA.out.row.at hx;cases hv;obtain⟨x0,x1⟩:=ZH HA.out.md;have bS:Hid (Vf.unit m (x:Int)=u):=lV hu;have hc4:u.code.length≤4000:=(jS (iy (hR.out.heads x u hu).1).2.1).2.2.2.2.2;have rG:Hid (Vf.Forms m u):=(hR.out.heads x u hu).2;have HX:=hide hx;have k1:(k:Int)<(R.length:Int):=by omega
   have x2:(x:Int)<(m.units.length:Int):=by omega
   subst ha;clear hx hu PS gL;have hbw:b<wr.heap.size:=by have:=HA.out.grown.size;omega
   go_wp2_with fail
   go_quiet (fail)
   clear u0 u1 u2 u3 u4 u5 x0 x1 hc;go_wp2
   go_loopw [6,32] (fun v i wi=>∃ (j:Nat) (R2:List Nat) (iH:List Lk) (f2:Int→Int),i=.int .i64 j∧j≤u.code.length∧R2[k]?=some x∧jG m ab (some ⟨b,off,none⟩) cb cu n M w I k j v R2 iH f2 wi) (fun _ i _=>u.code.length - (intOf i).toNat)
   case atStart=>exact⟨0,R,ts,f,rfl,Nat.zero_le _,HX.out,⟨HA.out.wk,HA.out.row,HA.out.met,hT.out.keep _ _ _ HA.out.tell (fun _ _=>rfl),HA.out.md,⟨HA.out.grown.os,HA.out.grown.tape,HA.out.grown.output,HA.out.grown.size,HA.out.grown.block⟩⟩⟩
   case round =>
    clear HA HX;obtain⟨j,R2,iH,f2,rfl,hj,hx2,hA2⟩:=hrel;have HA2:=hide hA2;have dw:=hide hx2;obtain⟨a2,c2,rfl⟩:=hA2.row.form;have hrl2:R2.length≤30:=by have:=hA2.wk.len;omega
    have hgz:=hA2.grown.size;have OH:k<30:=by have:=(List.getElem?_eq_some_iff.1 hx2).1;omega
    have hts:iH.length≤130000:=by have:=hA2.wk.few;omega
    clear hA2 hx2;by_cases hjl:j<u.code.length
    ·obtain⟨y,hy⟩:∃ y,u.code[j]?=some y:=⟨_,List.getElem?_eq_getElem hjl⟩
     have HY:Hid ((Vf.unit m (x:Int)).code[j]?=some y):=by rw[bS.out];exact hy
     obtain⟨_,_,_,bc,oc,hac,hbc,i0,i1,i2⟩:=(Al.out.low (Hz HA2.out.grown Il hB)).code j y hy;have xJ:Hid (Vf.bC m u y=0):=rG.out y (List.mem_of_getElem? hy);have H2:Hid (wr.grownBy (wr.alloc (ai y.op y.a y.n)) none):=aR (World.grownBy.refl _ _) _;have HI2:Hid (I iH (wr.alloc (ai y.op y.a y.n))):=hT.out.keep _ _ _ HA2.out.tell (fun q hq=>Below.heap_alloc _ _ _ (by omega));have mf:Hid (je (wr.alloc (ai y.op y.a y.n)) (w.heap.size+1+1) f2):=HA2.out.met.keep (Below.heap_alloc _ _ _ HA2.out.met.lt);have hj1:(j:Int)<(u.code.length:Int):=by omega
     subst hac;clear hy;by_cases bJ:Vf.qA y
     ·have HO:=hide bJ
      rcases bJ with h | h
      ·have e26:(y.op==26)=true:=by simpa using h
       clear h;go_wp2_with fail
       refine (hT.out.call iH y.op y.a _ HI2.out hts).mono ?_;rintro e w3 ⟨rfl,rV,hg3⟩;have HN:Hid (jG m ab (some ⟨b,off,none⟩) cb cu n M w I k (j+1) (.slice a2 R2.length c2) R2 (iH++[(y.op,y.a)]) f2 w3) :=
        HA2.out.step (H2.out) hg3 (.inl rfl) hM (HA2.out.wk.OV dw.out HY.out HO.out) (mf.out.keep (hg3.block _ (mf.out.lt) (by simp;omega))) rV
       clear rV hg3;go_wp2
       go_roundw
       case rel=>exact⟨j+1,R2,_,f2,by go_num,hjl,dw.out,HN.out⟩
       case measure=>simp[intOf];omega
      ·have e26:(y.op==26)=false:=by simp;omega
       have e27:(y.op==27)=true:=by simpa using h
       clear h;go_wp2_with fail
       refine (hT.out.call iH y.op y.a _ HI2.out hts).mono ?_;rintro e w3 ⟨rfl,rV,hg3⟩;have HN:Hid (jG m ab (some ⟨b,off,none⟩) cb cu n M w I k (j+1) (.slice a2 R2.length c2) R2 (iH++[(y.op,y.a)]) f2 w3) :=
        HA2.out.step (H2.out) hg3 (.inl rfl) hM (HA2.out.wk.OV dw.out HY.out HO.out) (mf.out.keep (hg3.block _ (mf.out.lt) (by simp;omega))) rV
       clear rV hg3;go_wp2
       go_roundw
       case rel=>exact⟨j+1,R2,_,f2,by go_num,hjl,dw.out,HN.out⟩
       case measure=>simp[intOf];omega
     ·have e26:(y.op==26)=false:=by unfold Vf.qA at bJ;simp;omega
      have e27:(y.op==27)=false:=by unfold Vf.qA at bJ;simp;omega
      by_cases h23:Vf.oZ y
      ·have HO:=hide h23
       obtain⟨ka,hka,oI⟩:∃ ka:Nat,y.a=ka∧ka<m.units.length:=by
        obtain⟨kd,_,hi⟩:=Vf.OO xJ.out h23;obtain⟨z,h3,_,h4⟩:=kD hi;exact⟨y.a.toNat,by omega,(List.getElem?_eq_some_iff.1 h3).1⟩
       have xL:=hide hka;have hl2:=Pb mf.out ka;obtain⟨w3,hup,mO,hg3⟩:=Pd mf.out ka (f2 ka+1);have hl3:=Pb mO ka;simp only[if_true] at hl3;have hf0:=HA2.out.wk.met ka;obtain⟨n0,hn0⟩:∃ n0,n0=f2 ka:=⟨_,rfl⟩;have rW:=hide hn0;rw[← hn0] at hl2 hup mO hl3 hf0;have f0:0≤n0:=hf0.1;have f1:n0≤200000:=by have:=hf0.2.1;omega
       have hi3:w3.heap[wr.heap.size]?=some (ai y.op y.a y.n):=(hg3.block _ (by simp) (by have:=HA2.out.met.lt;simp;omega)).trans (heap_alloc_new _ _);obtain⟨s0,s1,s2⟩:=tC hi3;rw[← xL.out] at hl2 hup;rw[xL.out] at s1;have ahc:wr.heap.size<w3.heap.size:=lt_of_block hi3;clear hka hf0 bJ hi3 hn0;rcases h23 with h | h
       ·have e23:(y.op==23)=true:=by simpa using h
        clear h;by_cases hin:ka ∈ R2
        ·have uM:Hid (jG m ab (some ⟨b,off,none⟩) cb cu n M w I k (j+1) (.slice a2 R2.length c2) R2 iH (fun q=>if q=(ka:Int) then n0+1 else f2 q) w3) :=
          HA2.out.step H2.out hg3 (.inr rfl) hM (by rw[rW.out];exact HA2.out.wk.old dw.out HY.out HO.out xL.out hin) mO (hT.out.keep _ _ _ HI2.out (fun q hq=>hg3.block q (by have:=HA2.out.grown.size;simp;omega) (by simp;omega)))
         have e1:(n0+1==1)=false:=by have:=((HA2.out.wk.met ka).2.2).2 hin;have h0:=rW.out;simp;omega
         clear mO hg3 hin;go_wp2
         go_roundw
         case rel=>exact⟨j+1,R2,iH,_,by go_num,hjl,dw.out,uM.out⟩
         case measure=>simp[intOf];omega
        ·have e1:(n0+1==1)=true:=by have:=HA2.out.wk.met ka;have h0:¬ 1≤f2 ka:=fun h=>hin (this.2.2.1 h);have h1:=rW.out;simp;omega
         have xh:=hide hin;have rT:=hide mO;have eT:=hide hg3;have Am:Hid (QR w3 w.heap.size (.slice a2 R2.length c2) R2):=(HA2.out.row.alloc _).keep fun q hq=>hg3.block q ((HA2.out.row.alloc _).lt q hq).2 (by simp only[ne_eq,Option.some.injEq];intro e;obtain⟨o,ho,hno⟩:=(mf.out).obj;exact (HA2.out.row.alloc _).ty ho hno (e ▸ hq));have hz3:=hg3.size;clear mO hg3 hin;go_wp2_with (at_builtin;refine Hm rfl _ _ rfl w.heap.size _ R2 ka rfl (Am.out.alloc _) ⟨w3.heap.size,0,none⟩ rfl (Dc _ _ _) (by omega) (by have:=HA2.out.grown.size;simp at hz3 ⊢;omega) ?_;intro v' w4 hq4 hg4;have Im:=hide hq4;have jR:=hide hg4;clear hq4 hg4)
         have uM:Hid (jG m ab (some ⟨b,off,none⟩) cb cu n M w I k (j+1) v' (R2++[ka]) iH (fun q=>if q=(ka:Int) then n0+1 else f2 q) w4) :=
          HA2.out.more hT.out (uF (aX (Hy H2.out) eT.out) (aR (World.grownBy.refl _ _) _)) jR.out (Am.out.alloc _) (by rw[rW.out];exact HA2.out.wk.new dw.out HY.out HO.out xL.out oI xh.out) (rT.out.keep (Below.heap_alloc _ _ _ rT.out.lt)) Im.out
         have ui:Hid ((R2++[ka])[k]?=some x):=by unfold Hid;rw[List.getElem?_append_left (List.getElem?_eq_some_iff.1 dw.out).1];exact dw.out
         go_roundw
         case rel=>exact⟨j+1,R2++[ka],iH,_,by go_num,hjl,ui.out,uM.out⟩
         case measure=>simp[intOf];omega
       ·have e23:(y.op==23)=false:=by simp;omega
        have e29:(y.op==29)=true:=by simpa using h
        clear h;by_cases hin:ka ∈ R2
        ·have uM:Hid (jG m ab (some ⟨b,off,none⟩) cb cu n M w I k (j+1) (.slice a2 R2.length c2) R2 iH (fun q=>if q=(ka:Int) then n0+1 else f2 q) w3) :=
          HA2.out.step H2.out hg3 (.inr rfl) hM (by rw[rW.out];exact HA2.out.wk.old dw.out HY.out HO.out xL.out hin) mO (hT.out.keep _ _ _ HI2.out (fun q hq=>hg3.block q (by have:=HA2.out.grown.size;simp;omega) (by simp;omega)))
         have e1:(n0+1==1)=false:=by have:=((HA2.out.wk.met ka).2.2).2 hin;have h0:=rW.out;simp;omega
         clear mO hg3 hin;go_wp2
         go_roundw
         case rel=>exact⟨j+1,R2,iH,_,by go_num,hjl,dw.out,uM.out⟩
         case measure=>simp[intOf];omega
        ·have e1:(n0+1==1)=true:=by have:=HA2.out.wk.met ka;have h0:¬ 1≤f2 ka:=fun h=>hin (this.2.2.1 h);have h1:=rW.out;simp;omega
         have xh:=hide hin;have rT:=hide mO;have eT:=hide hg3;have Am:Hid (QR w3 w.heap.size (.slice a2 R2.length c2) R2):=(HA2.out.row.alloc _).keep fun q hq=>hg3.block q ((HA2.out.row.alloc _).lt q hq).2 (by simp only[ne_eq,Option.some.injEq];intro e;obtain⟨o,ho,hno⟩:=(mf.out).obj;exact (HA2.out.row.alloc _).ty ho hno (e ▸ hq));have hz3:=hg3.size;clear mO hg3 hin;go_wp2_with (at_builtin;refine Hm rfl _ _ rfl w.heap.size _ R2 ka rfl (Am.out.alloc _) ⟨w3.heap.size,0,none⟩ rfl (Dc _ _ _) (by omega) (by have:=HA2.out.grown.size;simp at hz3 ⊢;omega) ?_;intro v' w4 hq4 hg4;have Im:=hide hq4;have jR:=hide hg4;clear hq4 hg4)
         have uM:Hid (jG m ab (some ⟨b,off,none⟩) cb cu n M w I k (j+1) v' (R2++[ka]) iH (fun q=>if q=(ka:Int) then n0+1 else f2 q) w4) :=
          HA2.out.more hT.out (uF (aX (Hy H2.out) eT.out) (aR (World.grownBy.refl _ _) _)) jR.out (Am.out.alloc _) (by rw[rW.out];exact HA2.out.wk.new dw.out HY.out HO.out xL.out oI xh.out) (rT.out.keep (Below.heap_alloc _ _ _ rT.out.lt)) Im.out
         have ui:Hid ((R2++[ka])[k]?=some x):=by unfold Hid;rw[List.getElem?_append_left (List.getElem?_eq_some_iff.1 dw.out).1];exact dw.out
         go_roundw
         case rel=>exact⟨j+1,R2++[ka],iH,_,by go_num,hjl,ui.out,uM.out⟩
         case measure=>simp[intOf];omega
      ·have HN:Hid (jG m ab (some ⟨b,off,none⟩) cb cu n M w I k (j+1) (.slice a2 R2.length c2) R2 iH f2 (wr.alloc (ai y.op y.a y.n))) :=
        HA2.out.step H2.out (World.grownBy.refl _ (some M)) (.inl rfl) hM (HA2.out.wk.quiet dw.out HY.out bJ h23) mf.out HI2.out
       have e23:(y.op==23)=false:=by unfold Vf.oZ at h23;simp;omega
       have e29:(y.op==29)=false:=by unfold Vf.oZ at h23;simp;omega
       clear bJ h23;go_wp2
       go_roundw
       case rel=>exact⟨j+1,R2,iH,f2,by go_num,hjl,dw.out,HN.out⟩
       case measure=>simp[intOf];omega
    ·have HN:Hid (jG m ab (some ⟨b,off,none⟩) cb cu n M w I (k+1) 0 (.slice a2 R2.length c2) R2 iH f2 wr) :=
      HA2.out.step (World.grownBy.refl _ none) (World.grownBy.refl _ (some M)) (.inl rfl) hM (HA2.out.wk.next dw.out (by rw[bS.out];omega) (by omega)) HA2.out.met HA2.out.tell
     have hj1:¬ (j:Int)<(u.code.length:Int):=by omega
     go_wp2
     go_roundw
     case rel=>exact⟨k+1,R2,iH,f2,by go_num,HN.out⟩
     case measure=>simp[intOf];omega
  ·have HE:Hid (∀ q,q ∈ ts ↔ (q.1=26∨q.1=27)∧Vf.comes m n q=true):=fun q=>HA.out.wk.all hR.out (by omega) q
   go_wp2
   go_end0
   exact⟨rfl,HA.out.grown,ts,HA.out.tell,HE.out⟩
theorem PT {l:LL}{e:MapEntry}(h:e ∈ bL l 0):∃ i p,l[i]?=some p∧e={ key:=dQ p.1,val:=.int .i64 p.2,born:=i }:=by
 obtain⟨i,hi⟩:=List.getElem?_of_mem h;rw[Dh] at hi;obtain⟨p,hp,rfl⟩:=Option.map_eq_some_iff.1 hi;exact⟨i,p,hp,by simp⟩
theorem aaN (l:LL):((bL l 0).map (·.born)).Nodup:=by
 have:∀ (l:LL) (i:Nat),(bL l i).map (·.born)=List.range' i l.length:=by
  intro l;induction l with
  | nil=>intro i;rfl
  | cons p r ih=>intro i;simp only[bL,List.map_cons,ih,List.length_cons,List.range'_succ]
 rw[this];exact List.nodup_range'
abbrev uN (M:Nat) (G:LL) (seen:Array Nat):Obj:=.mapIter (some M) G.length seen G.length
theorem aaO {w:World}{I M:Nat}{G:LL}{seen:Array Nat}(hI:w.heap[I]?=some (uN M G seen))(hM:dZ w M G)(ty:TypeId) :
  ((∀ i,i<G.length→i ∈ seen.toList)∧(Instr.next (.pointer (some ⟨I,0,none⟩)) false ty).run Tryz.prog w=.ok (.tuple #[.bool false]) w) ∨
  ∃ i p w1,G[i]?=some p∧i ∉ seen.toList∧(Instr.next (.pointer (some ⟨I,0,none⟩)) false ty).run Tryz.prog w=.ok (.tuple #[.bool true,dQ p.1,.int .i64 p.2]) w1∧w1.heap[I]?=some (uN M G (seen.push i))∧w.grownBy w1 (some I)∧w1.heap.size=w.heap.size∧(Instr.entry (.pointer (some ⟨I,0,none⟩))).run Tryz.prog w1=.ok (.tuple #[dQ p.1,.int .i64 p.2]) w1:=by
 have hMI:M≠I:=fun e=>by
  subst e;have:=hM;unfold dZ at this;rw[hI] at this;cases this
 rcases run_next_at (P:=Tryz.prog) w ty I M G.length G.length seen (bL G 0).toArray G.length hI hM (fun x hx=>by
  obtain⟨i,p,hp,rfl⟩:=PT (by simpa using hx);exact (List.getElem?_eq_some_iff.1 hp).1) (Nat.le_refl _) with⟨h0,hr⟩ | ⟨e,he,w1,hw1,hr⟩
 ·refine .inl ⟨fun i hi=>?_,hr⟩
  by_cases hs:i ∈ seen.toList
  ·exact hs
  ·exfalso
   have hx:(bL G 0)[i]?=some { key:=dQ G[i].1,val:=.int .i64 G[i].2,born:=0+i }:=by
    rw[Dh,List.getElem?_eq_getElem hi];rfl
   have hmem:({ key:=dQ G[i].1,val:=.int .i64 G[i].2,born:=0+i }:MapEntry) ∈ leftOf (bL G 0).toArray seen:=by
    unfold leftOf;rw[Array.mem_filter];refine⟨by simpa using List.mem_of_getElem? hx,?_⟩;simp only[Nat.zero_add];simpa using hs
   have:=Array.size_pos_of_mem hmem;omega
 ·have he':e ∈ leftOf (bL G 0).toArray seen:=by simpa using he
  unfold leftOf at he';rw[Array.mem_filter] at he';obtain⟨h1,h2⟩:=he';have h1':e ∈ bL G 0:=by simpa using h1
  obtain⟨i,p,hp,rfl⟩:=PT h1';have hI1:w1.heap[I]?=some (uN M G seen):=by rcases hw1 with rfl | rfl<;>exact hI
  have hM1:dZ w1 M G:=by rcases hw1 with rfl | rfl<;>exact hM
  have hsz:w1.heap.size=w.heap.size:=by rcases hw1 with rfl | rfl<;>rfl
  have hg1:w.grownBy w1 (some I):=by
   rcases hw1 with rfl | rfl
   ·exact fG _ _
   ·exact iV (fG _ _)
  obtain⟨m1,m2⟩:=MapKept.heap_set (o':=uN M G (seen.push i)) hI1;refine .inr ⟨i,p,_,hp,by simpa using h2,hr,m1,?_,?_,?_⟩
  ·exact aX hg1 ⟨rfl,rfl,rfl,by simp[Go.ChangeMaps.setBlock],fun k _ hne=>m2 k (fun e=>hne (by rw[e]))⟩
  ·simp[Go.ChangeMaps.setBlock,hsz]
  ·refine run_entry_at (P:=Tryz.prog) _ I M G.length seen (bL G 0).toArray G.length { key:=dQ p.1,val:=.int .i64 p.2,born:=i } m1 ?_ (by simpa using h1') (by simpa using aaN G)
   exact (m2 M hMI).trans hM1
def uO (G:LL)(seen:List Nat):Nat:=(List.range G.length).countP (fun i=>decide (i ∉ seen))
theorem aaQ {G:LL}{seen:List Nat}{i:Nat}(hi:i<G.length)(hs:i ∉ seen):uO G (seen++[i])+1≤uO G seen:=by
 refine Vf.He (fun x hx=>?_) (List.mem_range.2 hi) (by simpa using hs) (by simp);simp at hx ⊢;exact hx.1
def Io (G:LL)(f:Lk→Int)(W0:World)(T M I gk:Nat)(W:World):Prop :=
 ∃ seen:Array Nat,W.heap[I]?=some (uN M G seen)∧dZ W M G∧dI W T (fun q=>f q+told G seen.toList q)∧(∀ i ∈ seen.toList,i<G.length)∧uO G seen.toList≤gk∧W0.grownBy W (some T)
def tz (m:Vf.Md)(q:Lk)(k:Nat):Int:=if q.1=26∨q.1=27 then (Vf.tc m q k:Int) else 0
structure aaR (m:Vf.Md) (W0:World) (T k:Nat) (W:World):Prop where
 le:k≤m.units.length
 tk:dI W T (fun q=>tz m q k)
 grown:W0.grownBy W (some T)
theorem dI.bump {w:World}{T:Nat}{f:Lk→Int}(h:dI w T f)(k:Lk):∃ w1 w2 n,(Instr.lookup 203 (.map (some T)) (dQ k) false).run Tryz.prog w=.ok (.int .i64 (f k)) w∧(Instr.mapEntry 203 (.map (some T)) (dQ k)).run Tryz.prog w=.ok (.tuple #[.int .i64 (f k),goInt n]) w1∧(Instr.lookup 203 (.map (some T)) (dQ k) false).run Tryz.prog w1=.ok (.int .i64 (f k)) w1 ∧
  (Instr.entryStore 203 (.map (some T)) (.int .i64 n) (.int .i64 (f k+1))).run Tryz.prog w1=.ok () w2∧dI w2 T (fun q=>f q+if q=k then 1 else 0)∧w.grownBy w1 (some T)∧w.grownBy w2 (some T):=by
 obtain⟨l,h1,h2,h3⟩:=h;obtain⟨w1,w2,b1,b2,b3,b4,b5,b6⟩:=Ze h1 k;have b0:=G9 h1 k;rw[h3] at b0 b1 b2 b3;refine⟨w1,w2,_,b0,b1,b2,b3,⟨_,b4,h2.bump k,fun q=>?_⟩,b5,b6⟩;show Vf.cnt q (Vf.bump k l)=f q+if q=k then 1 else 0
 rw[Vf.rO];by_cases e:q=k
 ·subst e
  rw[if_pos rfl,if_pos rfl,h3]
 ·rw[if_neg e,if_neg e,h3]
  omega
theorem aaS {w:World}{M:Nat}{G:LL}(h:dZ w M G):(Instr.range 203 (.map (some M))).run Tryz.prog w=.ok (.pointer (some ⟨w.heap.size,0,none⟩)) (w.alloc (uN M G #[])):=by
 have hg:(getObj M).run Tryz.prog w=.ok (.map (bL G 0).toArray G.length) w:=MapKept.run_getObj_map h;have hu:=run_underlying (P:=Tryz.prog) (w:=w) Tryz.underlying203;simp[Instr.range,hu,hg]
theorem dI.look {w:World}{T:Nat}{f:Lk→Int}(h:dI w T f)(k:Lk):(Instr.lookup 203 (.map (some T)) (dQ k) false).run Tryz.prog w=.ok (.int .i64 (f k)) w:=by
 obtain⟨l,h1,h2,h3⟩:=h;have b0:=G9 h1 k;rw[h3] at b0;exact b0
theorem Ao {w:World}{T:Nat}{f g:Lk→Int}(h:dI w T f)(e:∀ q,f q=g q):dI w T g:=by
 obtain⟨l,h1,h2,h3⟩:=h;exact⟨l,h1,h2,fun q=>(h3 q).trans (e q)⟩
theorem PU (m:Vf.Md)(q:Lk)(k:Nat):0≤tz m q k∧tz m q k≤k:=by
 have:=Vf.Zi m q k;unfold tz;split<;>omega
theorem dI.wl {w:World}{T:Nat}{f:Lk→Int}(h:dI w T f):∃ l,dZ w T l∧Vf.Wl l∧∀ q,Vf.cnt q l=f q:=h
abbrev Dx (M:Nat):Obj:=.cells #[.map (some M)] 203 (0,0)
def Mine (P M:Nat)(ts:List Lk)(w:World):Prop:=w.heap[P]?=some (Dx M)∧dI w M (fun q=>(ts.count q:Int))
theorem aaT (P M:Nat)(ts:List Lk)(op a:Int)(w:World)(hI:Hid (Mine P M ts w))(hl:ts.length≤130000) :
  Calls Tryz.prog 98 #[.int .i64 op,.int .i64 a,.pointer (some ⟨P,0,none⟩)] w fun e w'=>e=.returned (.tuple #[])∧Mine P M (ts++[(op,a)]) w'∧w.grownBy w' (some M):=by
 obtain⟨hP,hT⟩:=hI.out;have hT1:dI w.drew M (fun q=>(ts.count q:Int)):=hT;obtain⟨w3,w4,nn,b0,b1,b2,b3,b4,b5,b6⟩:=hT1.bump (op,a);have c0:w.cell? ⟨P,0,none⟩=some (.map (some M)):=by simp[World.cell?,hP]
 have PV:P≠M:=by
  rintro rfl;obtain⟨l,h1,_⟩:=hT;unfold dZ at h1;rw[h1] at hP;cases hP
 have HE:Hid (Mine P M (ts++[(op,a)]) w4):=⟨((iL b6).block _ (lt_of_block hP) (by simpa using PV)).trans hP,Ao b4 (fun q=>by
  show (ts.count q:Int)+(if q=(op,a) then 1 else 0)=((ts++[(op,a)]).count q:Int)
  rw[List.count_append,List.count_singleton];by_cases e:q=(op,a)
  ·rw[if_pos e,e];simp
  ·rw[if_neg e,if_neg (by simpa using fun h=>e h.symm)];simp)⟩
 have HG:Hid (w.grownBy w4 (some M)):=iL b6;obtain⟨n0,hn0⟩:∃ n0:Int,n0=(ts.count (op,a):Int):=⟨_,rfl⟩;have hn2:n0≤130000:=by have:=List.count_le_length (a:=(op,a)) (l:=ts);omega
 have hn1:0≤n0:=by omega
 rw[← hn0] at b0 b1 b2 b3;have ew:IntKind.i64.wrap (n0+1)=n0+1:=by simp[IntKind.wrap,IntKind.bits,IntKind.signed];omega
 clear hP hT hT1 b4 b5 b6 PV hn0;go_enter Tryz.func98,Tryz.ntmps98
 go_wp2_with fail
 go_region
 all_goals
  go_wp2
  go_end0
  exact⟨rfl,HE.out,HG.out⟩
theorem aaU (m:Vf.Md)(ab au:Option Addr)(cb cu B:Nat)(w:World)(hmd:Hid (aZ B w m ab au))(hB:B≤w.heap.size)(hR:Hid (Rt m))(hnb:m.boxes.length≤30)(er num:Int)(hr:Hid ((er,num)=((Vf.xC m).1,((Vf.xC m).2:Int)))) :
  Calls Tryz.prog 57 #[fC m ab au cb cu] w fun e w'=>e=.returned (di er 0 num)∧w.grownBy w' none:=by
 have hmm:∀ w:World,(Instr.makeMap 203 Option.none).run Tryz.prog w=.ok (.map (some w.heap.size)) (w.alloc (.map #[] 0)):=fun _=>rfl;have hmu:m.units.length≤30:=hR.out.units;obtain⟨W0,hW0⟩:∃ W0:World,((w.alloc (gX m ab au cb cu)).alloc cO).alloc (.map #[] 0)=W0:=⟨_,rfl⟩;obtain⟨t0,t1,t2,t3⟩:=Ag w (gX m ab au cb cu) cO (.map #[] 0);rw[hW0] at t0 t1 t2 t3;have HT0:=hide t0;have HT1:=hide t1;have HT2:=hide t2;have HT3:Hid (dI W0 (w.heap.size+1+1) (fun q=>tz m q 0)):=⟨[],t3,Vf.Wl.nil,fun q=>by show Vf.cnt q []=tz m q 0;unfold tz;split<;>rfl⟩;have HW0:=hide hW0;have ahd:w.heap.size+1+1<W0.heap.size:=lt_of_block t3;clear t0 t1 t2 t3 hW0;go_enter Tryz.func57,Tryz.ntmps57
 go_wp2
 go_loopw [14] (fun v wr=>∃ k:Nat,v=.int .i64 k∧aaR m W0 (w.heap.size+1+1) k wr) (fun v _=>m.units.length - (intOf v).toNat)
 case atStart=>exact⟨0,rfl,Nat.zero_le _,by rw[HW0.out];exact HT3.out,by rw[HW0.out];exact fG _ _⟩
 case round =>
  obtain⟨k,rfl,hA⟩:=hrel;have HA:=hide hA;have hk:=hA.le;have hgz:=hA.grown.size;have hmb:wr.heap[w.heap.size]?=some (gX m ab au cb cu):=(HA.out.grown.block _ (lt_of_block HT1.out) (by simp;omega)).trans HT1.out;have Aj:=hide hmb;have Ah:Hid (wr.heap[w.heap.size+1]?=some cO):=(HA.out.grown.block _ (lt_of_block HT2.out) (by simp)).trans HT2.out;have oV:Hid (aZ B wr m ab au):=hmd.out.low (fun j hj=>(HA.out.grown.block j (by omega) (by simp;omega)).trans (bW HT0.out (by omega)));have PW:Hid (w.heap.size+1+1<wr.heap.size):=HA.out.tk.lt;have Ap:=PW.out;have hwz:w.heap.size<wr.heap.size:=by omega
  have ahe:w.heap.size+1<wr.heap.size:=by omega
  obtain⟨x0,x1⟩:=uI hmb;clear hA hmb;by_cases hlt:k<m.units.length
  ·obtain⟨u,hu⟩:∃ u,m.units[k]?=some u:=⟨_,List.getElem?_eq_getElem hlt⟩
   obtain⟨b,off,al,cl,ac,cc,ha,hb,gL,u0,u1,u2,u3,u4,u5⟩:=oV.out.units k u hu;have hk1:(k:Int)<(m.units.length:Int):=by omega
   have HIS:Hid (Vf.is m 4 (k:Int)=(u.kind==4)):=Oh hu;have l6:=hide ha;have hbw:b<wr.heap.size:=by omega
   rw[ha] at x1;clear hu gL ha;rw[l6.out];by_cases h4:u.kind=4
   ·have e4:(u.kind != 4)=false:=by simp[h4]
    have aaV:Hid (Vf.is m 4 (k:Int)=true):=by rw[HIS.out,h4];rfl
    obtain⟨W1,hW1⟩:∃ W1:World,((wr.alloc (aW u al ac cl cc)).alloc (.map #[] 0)).alloc (Dx (wr.heap.size+1))=W1:=⟨_,rfl⟩;obtain⟨hT1,_,hM1,hP1⟩:=Ag wr (aW u al ac cl cc) (.map #[] 0) (Dx (wr.heap.size+1));rw[hW1] at hT1 hM1 hP1;have oK:Hid (aZ B W1 m ab (some ⟨b,off,none⟩)):=by rw[← l6.out];exact oV.out.low (gm hT1 (by omega))
    have Aq:=hide hT1;have HI1:Hid (Mine (wr.heap.size+1+1) (wr.heap.size+1) [] W1):=⟨hP1,[],hM1,Vf.Wl.nil,fun q=>rfl⟩;have HW1:=hide hW1;have aaW:wr.heap.size+1+1<W1.heap.size:=lt_of_block hP1;have PX:(((wr.alloc (aW u al ac cl cc)).alloc (.map #[] 0)).alloc (Dx (wr.heap.size+1))).heap[w.heap.size]?=some (gX m ab (some ⟨b,off,none⟩) cb cu):=by rw[HW1.out,← l6.out];exact (bW Aq.out hwz).trans Aj.out
    obtain⟨y0,y1⟩:=uI PX;have qG:Hid (H6 98 #[.pointer (some ⟨wr.heap.size+1+1,0,none⟩)] W1.heap.size (wr.heap.size+1) (Mine (wr.heap.size+1+1) (wr.heap.size+1))) :=
     ⟨fun ts w w' h k=>⟨(k _ aaW).trans h.1,h.2.keep (k _ (by omega))⟩,fun ts op a w h hl=>aaT _ _ ts op a w h hl⟩
    clear h4 hW1 hT1 hM1 hP1 PX;go_wp2_with fail
    rw[HW1.out];refine (aaM m ab (some ⟨b,off,none⟩) cb cu B k (wr.heap.size+1) 98 #[.pointer (some ⟨wr.heap.size+1+1,0,none⟩)] _ _ oK (by omega) hR hlt (by omega) (by omega) (fun vs w'=>by first | rfl | kernel_rfl | simp[go_sem]) qG HI1).mono ?_;rintro e w2 ⟨rfl,hg2,ts,⟨hP2,G,hL2,PY,hcn⟩,hts⟩;have PZ:=hide PY;have hrg:=aaS hL2;have c2:w2.cell? ⟨wr.heap.size+1+1,0,none⟩=some (.map (some (wr.heap.size+1))):=by simp[World.cell?,hP2]
    have P6:W0.grownBy w2 (some (w.heap.size+1+1)):=uE (uF HA.out.grown Aq.out) hg2 (.inl (by omega));have Ip:dI w2 (w.heap.size+1+1) (fun q=>tz m q k):=(HA.out.tk.keep (bW Aq.out Ap)).keep (hg2.block _ (by have:=Aq.out.size;omega) (by simp;omega));have uP:Hid (Io G (fun q=>tz m q k) W0 (w.heap.size+1+1) (wr.heap.size+1) w2.heap.size (uO G []) (w2.alloc (uN (wr.heap.size+1) G #[]))) :=
     ⟨#[],heap_alloc_new _ _,hL2.alloc _,Ao (Ip.keep (Below.heap_alloc _ _ _ Ip.lt)) (fun q=>by simp[told]),fun i hi=>(by cases hi),Nat.le_refl _,uF P6 (aR (World.grownBy.refl _ _) _)⟩
    have ahf:=Aq.out.size;have hz2:=hg2.size;have hz3:W1.heap.size=wr.heap.size+1+1+1:=by rw[← HW1.out];simp
    have Iq:Hid (∀ q,tz m q (k+1)=tz m q k+if (decide (1≤Vf.cnt q G))=true then 1 else 0):=fun q=>by
     have e:(decide (1≤Vf.cnt q G))=true ↔ (q.1=26∨q.1=27)∧Vf.comes m k q=true:=by
      have hc':Vf.cnt q G=(ts.count q:Int):=hcn q;rw[← hts q,hc',decide_eq_true_iff,← List.count_pos_iff];omega
     unfold tz;by_cases hq:q.1=26∨q.1=27
     ·have e3:decide (1≤Vf.cnt q G)=Vf.comes m k q:=by rw[Bool.eq_iff_iff,e];exact⟨fun h=>h.2,fun h=>⟨hq,h⟩⟩
      rw[if_pos hq,if_pos hq,Vf.OM,aaV.out,e3];cases Vf.comes m k q<;>simp
     ·rw[if_neg hq,if_neg hq,if_neg (fun h=>hq (e.1 h).1)]
      rfl
    clear hL2 hg2 P6 Ip PY hcn hts hP2 y0 y1 u0 u1 u2 u3 u4 u5 x0 x1;generalize hIe:w2.heap.size=I at *;generalize hNe:wr.heap.size=N at *;have hIN:N+1<I:=by omega
    have iF:Hid (w.heap.size+1+1<N):=Ap;clear hIe hNe;go_wp2_with fail
    go_loopg [] (uO G []) (fun gk wr'=>Io G (fun q=>tz m q k) W0 (w.heap.size+1+1) (N+1) I gk wr')
    case atStart=>exact uP.out
    case round =>
     obtain⟨seen,hI,hM,hT,hsl,hleft,hgW⟩:=hrel;clear uP hrg;rcases aaO hI hM 0 with⟨hall,hnx⟩ | ⟨i,p,w1,hp,hi,hnx,hI1,hg1,hz1,hen⟩
     ·have HTN:Hid (dI wr (w.heap.size+1+1) (fun q=>tz m q (k+1))):=Ao hT (fun q=>by rw[Zl PZ.out hall hsl,Iq.out])
      have HGN:=hide hgW;clear hI hM hT hsl hleft hgW hall;go_wp2
      go_roundw
      case rel=>exact⟨k+1,by go_num,hlt,HTN.out,HGN.out⟩
      case measure=>simp[intOf];omega
     ·have hilt:i<G.length:=(List.getElem?_eq_some_iff.1 hp).1
      have hTI:w.heap.size+1+1≠I:=by omega
      have hT1:dI w1 (w.heap.size+1+1) (fun q=>tz m q k+told G seen.toList q):=hT.keep (hg1.block _ hT.lt (by simp;omega));have hM1:dZ w1 (N+1) G:=hM.keep (hg1.block _ hM.lt (by simp;omega));obtain⟨W5,fA⟩:∃ W5:World,w1.alloc (H5 p.1)=W5:=⟨_,rfl⟩;have P8:dI W5.drew (w.heap.size+1+1) (fun q=>tz m q k+told G seen.toList q):=by rw[← fA];exact hT1.keep (Below.heap_alloc _ _ _ hT1.lt)
      obtain⟨w3,w4,nn,b0,b1,b2,b3,b4,b5,b6⟩:=P8.bump p.1;have hk5:W5.heap[w1.heap.size]?=some (H5 p.1):=by rw[← fA];exact heap_alloc_new _ _
      obtain⟨q0,q1⟩:=ZG hk5;obtain⟨n0,hn0⟩:∃ n0:Int,n0=tz m p.1 k+told G seen.toList p.1:=⟨_,rfl⟩;have hn1:0≤n0:=by have:=PU m p.1 k;rw[hn0];unfold told;split<;>omega
      have hn2:n0≤31:=by have:=PU m p.1 k;rw[hn0];unfold told;split<;>omega
      have ew:IntKind.i64.wrap (n0+1)=n0+1:=by simp[IntKind.wrap,IntKind.bits,IntKind.signed];omega
      rw[← hn0] at b0 b1 b2 b3;have hg5:w1.grownBy w4 (some (w.heap.size+1+1)):=by
       have h5:w1.grownBy W5 none:=by rw[← fA];exact aR (World.grownBy.refl _ _) _
       exact aX (Hy h5) (iL b6)
      have uQ:Hid (Io G (fun q=>tz m q k) W0 (w.heap.size+1+1) (N+1) I (uO G (seen.toList++[i])) w4):=by
       refine⟨seen.push i,(hg5.block _ (lt_of_block hI1) (by simp;omega)).trans hI1,hM1.keep (hg5.block _ hM1.lt (by simp;omega)),Ao b4 (fun q=>?_),fun x hx=>?_,by rw[Array.toList_push];exact Nat.le_refl _,uE (uE hgW hg1 (.inl (by omega))) hg5 (.inr rfl)⟩
       ·rw[Array.toList_push,Zk PZ.out hp hi q]
        show (tz m q k+told G seen.toList q)+(if q=p.1 then 1 else 0)=tz m q k+(told G seen.toList q+if q=p.1 then 1 else 0)
        omega
       ·rw[Array.toList_push] at hx
        rcases List.mem_append.1 hx with h | h
        ·exact hsl x h
        ·simp at h;omega
      have HLS:=hide (aaQ hilt hi);have MZ:=hide hleft;have jC:=hide fA;clear hI hM hT hsl hleft hgW hI1 hg1 hz1 hT1 hM1 P8 hk5 hn0 b4 b5 b6 fA hg5 hp hi;go_wp2_with fail
      rw[jC.out];go_region
      all_goals
       go_wp2
       go_roundg (uO G (seen.toList++[i]))
       case measure=>have h1:=HLS.out;have h2:=MZ.out;omega
       case rel=>exact uQ.out
   ·have e4:(u.kind != 4)=true:=by simpa using h4
    have Iq:Hid (∀ q,tz m q (k+1)=tz m q k):=fun q=>by unfold tz;rw[Vf.OM,HIS.out];simp[h4]
    clear h4;go_wp2
    go_roundw
    case rel=>exact⟨k+1,by go_num,hlt,Ao (HA.out.tk.keep (Below.heap_alloc _ _ _ PW.out)) (fun q=>by rw[Iq.out]),uF HA.out.grown (aR (World.grownBy.refl _ _) _)⟩
    case measure=>simp[intOf];omega
  ·obtain rfl:k=m.units.length:=by omega
   have gG:=hide HA.out.tk;have Ar:=hide HA.out.grown;obtain⟨⟨z0,z1,z2⟩,y0,y1,y2⟩:=ed Ah.out;have HG:Hid (w.grownBy wr none):=⟨Ar.out.os.trans HT0.out.os,Ar.out.tape.trans HT0.out.tape,Ar.out.output.trans HT0.out.output,Nat.le_trans HT0.out.size Ar.out.size,fun j hj _=>(Ar.out.block j (by have:=HT0.out.size;omega) (by simp;omega)).trans (HT0.out.block j hj (by simp))⟩;clear HA;go_wp2
   go_loopw [45] (fun v wr'=>∃ n:Nat,v=.int .i64 n∧n≤m.boxes.length∧wr'=wr∧Hid ((er,num)=((Vf.cz (Vf.lF m) ((List.range m.boxes.length).drop n) n).1,((Vf.cz (Vf.lF m) ((List.range m.boxes.length).drop n) n).2:Int)))) (fun v _=>m.boxes.length - (intOf v).toNat)
   case atStart=>exact⟨0,rfl,Nat.zero_le _,rfl,hr.out⟩
   case round =>
    obtain⟨n,rfl,hnl,Ir,HF⟩:=hrel;subst Ir;by_cases hn:n<m.boxes.length
    ·have hx:(List.range m.boxes.length)[n]?=some n:=by rw[List.getElem?_range hn]
     have bQ:Hid ((er,num)=if Vf.lF m n=0 then ((Vf.cz (Vf.lF m) ((List.range m.boxes.length).drop (n+1)) (n+1)).1,((Vf.cz (Vf.lF m) ((List.range m.boxes.length).drop (n+1)) (n+1)).2:Int)) else (Vf.lF m n,(n:Int))):=by
      unfold Hid;rw[HF.out,Ih _ hx];split<;>rfl
     have l26:_=Result.ok (Value.int .i64 (Vf.tc m (26,(n:Int)) m.units.length:Int)) _:=gG.out.look (26,(n:Int));have l27:_=Result.ok (Value.int .i64 (Vf.tc m (27,(n:Int)) m.units.length:Int)) _:=gG.out.look (27,(n:Int));obtain⟨a26,Iu⟩:∃ a:Nat,a=Vf.tc m (26,(n:Int)) m.units.length:=⟨_,rfl⟩;obtain⟨a27,Iw⟩:∃ a:Nat,a=Vf.tc m (27,(n:Int)) m.units.length:=⟨_,rfl⟩;rw[← Iu] at l26;rw[← Iw] at l27;have uR:Hid (Vf.lF m n=if 1<a26∨1<a27 then 8 else 0):=by unfold Hid;unfold Vf.lF;rw[Iu,Iw]
     clear hx Iu Iw HF;by_cases bJ:1<a26
     ·have d1:decide (1<a26)=true:=by simpa using bJ
      have HE:Hid (er=8∧num=(n:Int)):=by
       have h1:=bQ.out;have ho:Vf.lF m n=8:=by rw[uR.out,if_pos (Or.inl bJ)]
       rw[ho,if_neg (by decide)] at h1;cases h1;exact⟨rfl,rfl⟩
      go_wp2
      refine bodyPost_ret (v:=di 8 0 (n:Int)) (by simp[results,Tryz.results57,go_sem,z0,z1,z2]) rfl ?_;rw[HE.out.1,HE.out.2];exact⟨rfl,aP (aP (aP HG.out (by omega) _ _) (by omega) _ _) (by omega) _ _⟩
     ·have d1:decide (1<a26)=false:=by simpa using bJ
      by_cases h27:1<a27
      ·have d2:decide (1<a27)=true:=by simpa using h27
       have HE:Hid (er=8∧num=(n:Int)):=by
        have h1:=bQ.out;have ho:Vf.lF m n=8:=by rw[uR.out,if_pos (Or.inr h27)]
        rw[ho,if_neg (by decide)] at h1;cases h1;exact⟨rfl,rfl⟩
       go_wp2
       refine bodyPost_ret (v:=di 8 0 (n:Int)) (by simp[results,Tryz.results57,go_sem,z0,z1,z2]) rfl ?_;rw[HE.out.1,HE.out.2];exact⟨rfl,aP (aP (aP HG.out (by omega) _ _) (by omega) _ _) (by omega) _ _⟩
      ·have d2:decide (1<a27)=false:=by simpa using h27
       have HE:Hid ((er,num)=((Vf.cz (Vf.lF m) ((List.range m.boxes.length).drop (n+1)) (n+1)).1,((Vf.cz (Vf.lF m) ((List.range m.boxes.length).drop (n+1)) (n+1)).2:Int))):=by
        have h1:=bQ.out;have ho:Vf.lF m n=0:=by rw[uR.out,if_neg (by rintro (h | h);exact bJ h;exact h27 h)]
        rw[ho,if_pos rfl] at h1;exact h1
       go_wp2
       go_roundw
       case rel=>exact⟨n+1,by go_num,hn,trivial,HE⟩
       case measure=>simp[intOf];omega
    ·have HE:Hid (er=0∧num=0):=by
      have h1:=HF.out;rw[List.drop_eq_nil_of_le (by simp;omega)] at h1;cases h1;exact⟨rfl,rfl⟩
     go_wp2
     refine bodyPost_ret (v:=di 0 0 0) (by simp[results,Tryz.results57,go_sem,z0,z1,z2]) rfl ?_;rw[HE.out.1,HE.out.2];exact⟨rfl,aP (aP (aP HG.out (by omega) _ _) (by omega) _ _) (by omega) _ _⟩
namespace Vf
def qH (m:Md):Int:=if 30<m.boxes.length∨30<m.units.length then 5 else 0
def jf (b:Bx):Int:=if plain b.ty=false then 9 else if b.cap<1∨20<b.cap then 3 else 0
def xM (m:Md):Int × Nat:=cz jf m.boxes 0
def Au (m:Md):Int:=if m.units.any (fun u=>u.kind==4) then 0 else 6
end Vf
theorem aa3 (m:Vf.Md)(ab au:Option Addr)(cb cu:Nat)(w:World)(er:Int)(hr:Hid (er=Vf.qH m)) :
  Calls Tryz.prog 52 #[fC m ab au cb cu] w fun e w'=>e=.returned (di er 0 0)∧w.grownBy w' none:=by
 go_enter Tryz.func52,Tryz.ntmps52
 go_wp2
 all_goals
  first
  | (refine bodyPost_ret (v:=di 5 0 0) (by simp[results,Tryz.results52,go_sem]) rfl ?_;have HE:er=5:=(by rw[hr.out,Vf.qH,if_pos (by omega)]);rw[HE];exact⟨rfl,fD _ _ _⟩)
  | (refine bodyPost_ret (v:=di 0 0 0) (by simp[results,Tryz.results52,go_sem]) rfl ?_;have HE:er=0:=(by rw[hr.out,Vf.qH,if_neg (by omega)]);rw[HE];exact⟨rfl,fD _ _ _⟩)
structure aa4 (m:Vf.Md) (W0:World) (er num:Int) (k:Nat) (W:World):Prop where
 le:k≤m.boxes.length
 grown:W0.grownBy W none
 rest:(er,num)=((Vf.cz Vf.jf (m.boxes.drop k) k).1,((Vf.cz Vf.jf (m.boxes.drop k) k).2:Int))
theorem aa5 (m:Vf.Md)(ab au:Option Addr)(cb cu B:Nat)(w:World)(hmd:Hid (aZ B w m ab au))(hB:B≤w.heap.size)(er num:Int)(hr:Hid ((er,num)=((Vf.xM m).1,((Vf.xM m).2:Int)))) :
  Calls Tryz.prog 53 #[fC m ab au cb cu] w fun e w'=>e=.returned (di er 0 num)∧w.grownBy w' none:=by
 have dC:=hmd.out.few.1;obtain⟨W0,hW0⟩:∃ W0:World,(w.alloc (gX m ab au cb cu)).alloc cO=W0:=⟨_,rfl⟩;have HT:Hid (w.grownBy W0 none):=by rw[← hW0];exact fD _ _ _
 have rX:Hid (W0.heap[w.heap.size+1]?=some cO):=by rw[← hW0];exact xK _ _ _
 have HW0:=hide hW0;clear hW0;go_enter Tryz.func53,Tryz.ntmps53
 go_wp2
 go_loopw [9] (fun v wr=>∃ k:Nat,v=.int .i64 k∧aa4 m W0 er num k wr) (fun v _=>m.boxes.length - (intOf v).toNat)
 case atStart=>exact⟨0,rfl,Nat.zero_le _,by rw[← HW0.out];exact World.grownBy.refl _ _,hr.out⟩
 case round =>
  obtain⟨k,rfl,hA⟩:=hrel;have HA:=hide hA;have hk:=hA.le;have HG:Hid (w.grownBy wr none):=bX HT.out HA.out.grown;have hwz:wr.heap[w.heap.size+1]?=some cO:=(bW HA.out.grown (lt_of_block rX.out)).trans rX.out;obtain⟨⟨z0,z1,z2⟩,y0,y1,y2⟩:=ed hwz;have hzl:=lt_of_block hwz;have jI:=hide hwz;clear hA hwz;by_cases hlt:k<m.boxes.length
  ·obtain⟨x,hx⟩:∃ x,m.boxes[k]?=some x:=⟨_,List.getElem?_eq_getElem hlt⟩
   obtain⟨i1,i2,b,off,ha,hb,b0,b1⟩:=(hmd.out.low (gm HG.out hB)).boxes k x hx;have HN:Hid ((er,num)=if Vf.jf x=0 then ((Vf.cz Vf.jf (m.boxes.drop (k+1)) (k+1)).1,((Vf.cz Vf.jf (m.boxes.drop (k+1)) (k+1)).2:Int)) else (Vf.jf x,(k:Int))):=by
    unfold Hid;rw[HA.out.rest,Ih _ hx];split<;>rfl
   have HAB:=hide ha;obtain⟨p,hp⟩:∃ p,p=Vf.plain x.ty:=⟨_,rfl⟩;have HP:=hide hp;have uR:Hid (Vf.jf x=if p=false then 9 else if x.cap<1∨20<x.cap then 3 else 0):=by unfold Hid;unfold Vf.jf;rw[hp]
   have hk1:(k:Int)<(m.boxes.length:Int):=by omega
   clear hx ha hp;rw[HAB.out];go_wp2_with fail
   refine (lh x.ty _ p HP).mono ?_;rintro e w2 ⟨rfl,hw2⟩;subst hw2;cases p with
   | false =>
    have HE:Hid (er=9∧num=(k:Int)):=by
     have h1:=HN.out;have ho:Vf.jf x=9:=uR.out;rw[ho,if_neg (by decide)] at h1;cases h1;exact⟨rfl,rfl⟩
    go_wp2
    have hX:=mY jI.out (.int .i64 9) (.int .i64 0) (.int .i64 (k:Int));obtain⟨⟨g0,g1,g2⟩,_⟩:=ed ((Below.heap_alloc _ (.cells #[.int .i64 x.ty,.int .i64 x.cap] 103) _ (lt_of_block hX)).trans hX);refine bodyPost_ret (v:=di 9 0 (k:Int)) (by simp[results,Tryz.results53,go_sem,g0,g1,g2]) rfl ?_;rw[HE.out.1,HE.out.2];exact⟨rfl,aR (aP (aP (aP HG.out (by omega) _ _) (by omega) _ _) (by omega) _ _) _⟩
   | true =>
    by_cases hc:x.cap<1∨20<x.cap
    ·have HE:Hid (er=3∧num=(k:Int)):=by
      have h1:=HN.out;have ho:Vf.jf x=3:=by rw[uR.out,if_neg (by decide),if_pos hc]
      rw[ho,if_neg (by decide)] at h1;cases h1;exact⟨rfl,rfl⟩
     rcases hc with hc | hc
     ·have d1:decide (x.cap<1)=true:=by simpa using hc
      go_wp2
      have hX:=mY jI.out (.int .i64 3) (.int .i64 0) (.int .i64 (k:Int));obtain⟨⟨g0,g1,g2⟩,_⟩:=ed ((Below.heap_alloc _ (.cells #[.int .i64 x.ty,.int .i64 x.cap] 103) _ (lt_of_block hX)).trans hX);refine bodyPost_ret (v:=di 3 0 (k:Int)) (by simp[results,Tryz.results53,go_sem,g0,g1,g2]) rfl ?_;rw[HE.out.1,HE.out.2];exact⟨rfl,aR (aP (aP (aP HG.out (by omega) _ _) (by omega) _ _) (by omega) _ _) _⟩
     ·have d1:decide (x.cap<1)=false:=by simp;omega
      have d2:decide (20<x.cap)=true:=by simpa using hc
      go_wp2
      have hX:=mY jI.out (.int .i64 3) (.int .i64 0) (.int .i64 (k:Int));obtain⟨⟨g0,g1,g2⟩,_⟩:=ed ((Below.heap_alloc _ (.cells #[.int .i64 x.ty,.int .i64 x.cap] 103) _ (lt_of_block hX)).trans hX);refine bodyPost_ret (v:=di 3 0 (k:Int)) (by simp[results,Tryz.results53,go_sem,g0,g1,g2]) rfl ?_;rw[HE.out.1,HE.out.2];exact⟨rfl,aR (aP (aP (aP HG.out (by omega) _ _) (by omega) _ _) (by omega) _ _) _⟩
    ·have d1:decide (x.cap<1)=false:=by simp;omega
     have d2:decide (20<x.cap)=false:=by simp;omega
     have HE:Hid ((er,num)=((Vf.cz Vf.jf (m.boxes.drop (k+1)) (k+1)).1,((Vf.cz Vf.jf (m.boxes.drop (k+1)) (k+1)).2:Int))):=by
      have h1:=HN.out;have ho:Vf.jf x=0:=by rw[uR.out,if_neg (by decide),if_neg hc]
      rw[ho,if_pos rfl] at h1;exact h1
     clear hc;go_wp2
     go_roundw
     case rel=>exact⟨k+1,by go_num,hlt,aR HA.out.grown _,HE.out⟩
     case measure=>simp[intOf];omega
  ·have HE:Hid (er=0∧num=0):=by
    have h1:=HA.out.rest;rw[List.drop_eq_nil_of_le (by omega)] at h1;cases h1;exact⟨rfl,rfl⟩
   go_wp2
   refine bodyPost_ret (v:=di 0 0 0) (by simp[results,Tryz.results53,go_sem,z0,z1,z2]) rfl ?_;rw[HE.out.1,HE.out.2];exact⟨rfl,aP (aP (aP HG.out (by omega) _ _) (by omega) _ _) (by omega) _ _⟩
structure xN (m:Vf.Md) (W0:World) (er:Int) (k:Nat) (W:World):Prop where
 le:k≤m.units.length
 grown:W0.grownBy W none
 rest:er=if (m.units.drop k).any (fun u=>u.kind==4) then 0 else 6
theorem Av (m:Vf.Md)(ab au:Option Addr)(cb cu B:Nat)(w:World)(hmd:Hid (aZ B w m ab au))(hB:B≤w.heap.size)(er:Int)(hr:Hid (er=Vf.Au m)) :
  Calls Tryz.prog 55 #[fC m ab au cb cu] w fun e w'=>e=.returned (di er 0 0)∧w.grownBy w' none:=by
 have dC:=hmd.out.few.2;obtain⟨W0,hW0⟩:∃ W0:World,(w.alloc (gX m ab au cb cu)).alloc cO=W0:=⟨_,rfl⟩;have HT:Hid (w.grownBy W0 none):=by rw[← hW0];exact fD _ _ _
 have rX:Hid (W0.heap[w.heap.size+1]?=some cO):=by rw[← hW0];exact xK _ _ _
 have HW0:=hide hW0;clear hW0;go_enter Tryz.func55,Tryz.ntmps55
 go_wp2
 go_loopw [9] (fun v wr=>∃ k:Nat,v=.int .i64 k∧xN m W0 er k wr) (fun v _=>m.units.length - (intOf v).toNat)
 case atStart=>exact⟨0,rfl,Nat.zero_le _,by rw[← HW0.out];exact World.grownBy.refl _ _,hr.out⟩
 case round =>
  obtain⟨k,rfl,hA⟩:=hrel;have HA:=hide hA;have hk:=hA.le;have HG:Hid (w.grownBy wr none):=bX HT.out HA.out.grown;have hwz:wr.heap[w.heap.size+1]?=some cO:=(bW HA.out.grown (lt_of_block rX.out)).trans rX.out;obtain⟨⟨z0,z1,z2⟩,y0,y1,y2⟩:=ed hwz;have hzl:=lt_of_block hwz;have jI:=hide hwz;clear hA hwz;by_cases hlt:k<m.units.length
  ·obtain⟨u,hu⟩:∃ u,m.units[k]?=some u:=⟨_,List.getElem?_eq_getElem hlt⟩
   obtain⟨b,off,al,cl,ac,cc,ha,hb,gL,u0,u1,u2,u3,u4,u5⟩:=(hmd.out.low (gm HG.out hB)).units k u hu;have HN:Hid (er=if (u.kind==4 || (m.units.drop (k+1)).any (fun u=>u.kind==4)) then 0 else 6):=by
    unfold Hid;obtain⟨hk',hte⟩:=List.getElem?_eq_some_iff.1 hu;rw[HA.out.rest,List.drop_eq_getElem_cons hk',hte,List.any_cons]
   have l6:=hide ha;have hk1:(k:Int)<(m.units.length:Int):=by omega
   clear hu ha gL;rw[l6.out];cases e4:(u.kind==4) with
   | true =>
    have HE:Hid (er=0):=by rw[HN.out,e4];rfl
    go_wp2
    have hX:=mY jI.out (.int .i64 0) (.int .i64 0) (.int .i64 0);obtain⟨⟨g0,g1,g2⟩,_⟩:=ed ((Below.heap_alloc _ (aW u al ac cl cc) _ (lt_of_block hX)).trans hX);refine bodyPost_ret (v:=di 0 0 0) (by simp[results,Tryz.results55,go_sem,g0,g1,g2]) rfl ?_;rw[HE.out];exact⟨rfl,aR (aP (aP (aP HG.out (by omega) _ _) (by omega) _ _) (by omega) _ _) _⟩
   | false =>
    have HE:Hid (er=if (m.units.drop (k+1)).any (fun u=>u.kind==4) then 0 else 6):=by rw[HN.out,e4];rfl
    go_wp2
    go_roundw
    case rel=>exact⟨k+1,by go_num,hlt,aR HA.out.grown _,HE.out⟩
    case measure=>simp[intOf];omega
  ·have HE:Hid (er=6):=by unfold Hid;rw[HA.out.rest,List.drop_eq_nil_of_le (by omega)];rfl
   go_wp2
   refine bodyPost_ret (v:=di 6 0 0) (by simp[results,Tryz.results55,go_sem,z0,z1,z2]) rfl ?_;rw[HE.out];exact⟨rfl,aP (aP (aP HG.out (by omega) _ _) (by omega) _ _) (by omega) _ _⟩
end Go.Proofs.YtfcpglhpolpdcaaGreatDoor
