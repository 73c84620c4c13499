/- The walk of Comes,whatever is told. -/
import Derived.Test.YtfcpglhpolpdcaaGreatDoorM24
import Derived.Test.YtfcpglhpolpdcaaGreatDoorM26
import Derived.Deep.QuietTactic
import Derived.BigQuiet
import Derived.Test.YtfcpglhpolpdcaaGreatDoorM22
import Derived.Maps.RangeWalk
set_option maxRecDepth 100000
set_option maxHeartbeats 6000000
namespace Go.Proofs.YtfcpglhpolpdcaaGreatDoor
open Go.RowKit
theorem Qi (m:Vf.Md)(ab au:Option Addr)(cb cu B n M:Nat)(g:FuncId)(af:Array Value)(I:List Lk→World→Prop)(w:World)(hmd:Hid (aW B w m ab au))(hB:B≤w.heap.size)(hR:Hid (Rt m))(hn:n<m.units.length)(IU:B≤M)(hM:M<w.heap.size)
  (hcf:∀ (vs:Array Value) (w:World),(callFunc g vs).run Tryz.prog w=.ok (.enter g vs) w) (hT:Hid (DV g af w.heap.size M I)) (hI:Hid (I [] w)) :
  Calls Tryz.prog 29 #[eU m ab au cb cu,.int .i64 (n:Int),.func (.func g) #[] af] w fun e w'=>e=.returned (.tuple #[])∧w.grownBy w' (some M)∧∃ ts,I ts w'∧∀ q,q ∈ ts ↔ (q.1=26∨q.1=27)∧Vf.comes m n q=true:=by
 have hmm:∀ w:World,(Instr.makeMap 145 Option.none).run Tryz.prog w=.ok (.map (some w.heap.size)) (w.alloc (.map #[] 0)):=fun _=>rfl;have hmu:m.units.length≤30:=hR.out.units;obtain⟨t0,t1,t2,_⟩:=AA w (xN m ab au cb cu) (.cells #[.int .i64 (n:Int)] 3 (0,0)) (.map #[] 0);have hM0:=jv.new ((w.alloc (xN m ab au cb cu)).alloc (.cells #[.int .i64 (n:Int)] 3 (0,0)));rw[World.size_alloc,World.size_alloc] at hM0;obtain⟨w1,hup,hM1,hg1⟩:=PE hM0 n 1;have k1:∀ q,q<w.heap.size+1+1→w1.heap[q]?=(((w.alloc (xN m ab au cb cu)).alloc (.cells #[.int .i64 (n:Int)] 3 (0,0))).alloc (.map #[] 0)).heap[q]?:=fun q hq=>hg1.block q (by simp;omega) (by simp;omega);have HST:Hid (jR m ab au cb cu n M w I 0 0 (.slice (some ⟨w.heap.size+1,0,none⟩) 1 1) [n] [] (fun a=>if a=(n:Int) then 1 else 0) w1) :=
  ⟨Vf.fQ.start hn,.inr ⟨w.heap.size+1,0,1,[.int .i64 (n:Int)],rfl,by omega,(k1 _ (by omega)).trans t2,by simp,by simp,fun i x hx=>by
   cases i with
   | zero=>simp at hx;subst hx;rfl
   | succ i=>simp at hx⟩,hM1,hT.out.keep _ _ _ hI.out (fun q hq=>(k1 q (by omega)).trans (t0.block q hq (by simp))),(k1 _ (by omega)).trans t1,uL (uM (fK _ _) t0) hg1 (.inl (by omega))⟩
 clear t0 t1 t2 hM0 hM1 hg1 k1;go_enter Tryz.func29,Tryz.ntmps29
 go_wp2
 go_loopw [6,8] (fun v i wr=>∃ (k:Nat) (R:List Nat) (ts:List Lk) (f:Int→Int),i=.int .i64 k∧jR m ab au cb cu n M w I k 0 v R ts f wr) (fun _ i _=>31 - (intOf i).toNat)
 case atStart=>exact⟨0,[n],[],_,rfl,HST.out⟩
 case round =>
  obtain⟨k,R,ts,f,rfl,hA⟩:=hrel;clear HST hup;have HA:=hide hA;obtain⟨a,c,rfl⟩:=hA.row.form;have hrl:=hA.wk.len;have ahL:R.length≤30:=by omega
  clear hA;by_cases hlt:k<R.length
  ·obtain⟨x,hx⟩:∃ x,R[k]?=some x:=⟨_,List.getElem?_eq_getElem hlt⟩
   have hxu:x<m.units.length:=HA.out.wk.lt x (List.mem_of_getElem? hx);obtain⟨u,hu⟩:∃ u,m.units[x]?=some u:=⟨_,List.getElem?_eq_getElem hxu⟩;have Qj:aW B wr m ab au:=hmd.out.low (Iy HA.out.grown IU hB);obtain⟨b,off,al,cl,ac,cc,ha,hb,gq,u0,u1,u2,u3,u4,u5⟩:=Qj.units x u hu;have AL:Hid (gI B w u al ac cl cc):=gq.low (fun q hq=>(Iy HA.out.grown IU hB q hq).symm);obtain⟨g',ahM,cap',hv,hgl,hc⟩:=HA.out.row.at hx;cases hv;obtain⟨x0,x1⟩:=aac HA.out.md;have bT:Hid (Vf.unit m (x:Int)=u):=mf hu;have hc4:u.code.length≤4000:=(ko (iF (hR.out.heads x u hu).1).2.1).2.2.2.2.2;have rR:Hid (Vf.Forms m u):=(hR.out.heads x u hu).2;have HX:=hide hx;have k1:(k:Int)<(R.length:Int):=by omega
   have x2:(x:Int)<(m.units.length:Int):=by omega
   subst ha;clear hx hu Qj gq;have hbw:b<wr.heap.size:=by have:=HA.out.grown.size;omega
   go_wp2_with fail
   go_quiet (fail)
   clear u0 u1 u2 u3 u4 u5 x0 x1 hc;go_wp2
   go_loopw [6,32] (fun v i wi=>∃ (j:Nat) (R2:List Nat) (iM:List Lk) (f2:Int→Int),i=.int .i64 j∧j≤u.code.length∧R2[k]?=some x∧jR m ab (some ⟨b,off,none⟩) cb cu n M w I k j v R2 iM f2 wi) (fun _ i _=>u.code.length - (intOf i).toNat)
   case atStart=>exact⟨0,R,ts,f,rfl,Nat.zero_le _,HX.out,⟨HA.out.wk,HA.out.row,HA.out.met,hT.out.keep _ _ _ HA.out.tell (fun _ _=>rfl),HA.out.md,⟨HA.out.grown.os,HA.out.grown.tape,HA.out.grown.output,HA.out.grown.size,HA.out.grown.block⟩⟩⟩
   case round =>
    clear HA HX;obtain⟨j,R2,iM,f2,rfl,hj,hx2,hA2⟩:=hrel;have HA2:=hide hA2;have dz:=hide hx2;obtain⟨a2,c2,rfl⟩:=hA2.row.form;have hrl2:R2.length≤30:=by have:=hA2.wk.len;omega
    have hgz:=hA2.grown.size;have O4:k<30:=by have:=(List.getElem?_eq_some_iff.1 hx2).1;omega
    have hts:iM.length≤130000:=by have:=hA2.wk.few;omega
    clear hA2 hx2;by_cases hjl:j<u.code.length
    ·obtain⟨y,hy⟩:∃ y,u.code[j]?=some y:=⟨_,List.getElem?_eq_getElem hjl⟩
     have HY:Hid ((Vf.unit m (x:Int)).code[j]?=some y):=by rw[bT.out];exact hy
     obtain⟨_,_,_,bc,oc,hac,hbc,i0,i1,i2⟩:=(AL.out.low (Iy HA2.out.grown IU hB)).code j y hy;have xS:Hid (Vf.bE m u y=0):=rR.out y (List.mem_of_getElem? hy);have H2:Hid (wr.grownBy (wr.alloc (ai y.op y.a y.n)) none):=aR (World.grownBy.refl _ _) _;have HI2:Hid (I iM (wr.alloc (ai y.op y.a y.n))):=hT.out.keep _ _ _ HA2.out.tell (fun q hq=>Below.heap_alloc _ _ _ (by omega));have iW:Hid (jv (wr.alloc (ai y.op y.a y.n)) (w.heap.size+1+1) f2):=HA2.out.met.keep (Below.heap_alloc _ _ _ HA2.out.met.lt);have hj1:(j:Int)<(u.code.length:Int):=by omega
     subst hac;clear hy;by_cases bR:Vf.qJ y
     ·have HO:=hide bR
      rcases bR with h | h
      ·have e26:(y.op==26)=true:=by simpa using h
       clear h;go_wp2_with fail
       refine (hT.out.call iM y.op y.a _ HI2.out hts).mono ?_;rintro e w3 ⟨rfl,si,hg3⟩;have HN:Hid (jR m ab (some ⟨b,off,none⟩) cb cu n M w I k (j+1) (.slice a2 R2.length c2) R2 (iM++[(y.op,y.a)]) f2 w3) :=
        HA2.out.step (H2.out) hg3 (.inl rfl) hM (HA2.out.wk.Pg dz.out HY.out HO.out) (iW.out.keep (hg3.block _ (iW.out.lt) (by simp;omega))) si
       clear si hg3;go_wp2
       go_roundw
       case rel=>exact⟨j+1,R2,_,f2,by go_num,hjl,dz.out,HN.out⟩
       case measure=>simp[intOf];omega
      ·have e26:(y.op==26)=false:=by simp;omega
       have e27:(y.op==27)=true:=by simpa using h
       clear h;go_wp2_with fail
       refine (hT.out.call iM y.op y.a _ HI2.out hts).mono ?_;rintro e w3 ⟨rfl,si,hg3⟩;have HN:Hid (jR m ab (some ⟨b,off,none⟩) cb cu n M w I k (j+1) (.slice a2 R2.length c2) R2 (iM++[(y.op,y.a)]) f2 w3) :=
        HA2.out.step (H2.out) hg3 (.inl rfl) hM (HA2.out.wk.Pg dz.out HY.out HO.out) (iW.out.keep (hg3.block _ (iW.out.lt) (by simp;omega))) si
       clear si hg3;go_wp2
       go_roundw
       case rel=>exact⟨j+1,R2,_,f2,by go_num,hjl,dz.out,HN.out⟩
       case measure=>simp[intOf];omega
     ·have e26:(y.op==26)=false:=by unfold Vf.qJ at bR;simp;omega
      have e27:(y.op==27)=false:=by unfold Vf.qJ at bR;simp;omega
      by_cases h23:Vf.pF y
      ·have HO:=hide h23
       obtain⟨ka,hka,oZ⟩:∃ ka:Nat,y.a=ka∧ka<m.units.length:=by
        obtain⟨kd,_,hi⟩:=Vf.O9 xS.out h23;obtain⟨z,h3,_,h4⟩:=kN hi;exact⟨y.a.toNat,by omega,(List.getElem?_eq_some_iff.1 h3).1⟩
       have xW:=hide hka;have hl2:=PD iW.out ka;obtain⟨w3,hup,mX,hg3⟩:=PE iW.out ka (f2 ka+1);have hl3:=PD mX ka;simp only[if_true] at hl3;have hf0:=HA2.out.wk.met ka;obtain⟨n0,hn0⟩:∃ n0,n0=f2 ka:=⟨_,rfl⟩;have sj:=hide hn0;rw[← hn0] at hl2 hup mX hl3 hf0;have f0:0≤n0:=hf0.1;have f1:n0≤200000:=by have:=hf0.2.1;omega
       have hi3:w3.heap[wr.heap.size]?=some (ai y.op y.a y.n):=(hg3.block _ (by simp) (by have:=HA2.out.met.lt;simp;omega)).trans (heap_alloc_new _ _);obtain⟨s0,s1,s2⟩:=tV hi3;rw[← xW.out] at hl2 hup;rw[xW.out] at s1;have ahN:wr.heap.size<w3.heap.size:=lt_of_block hi3;clear hka hf0 bR hi3 hn0;rcases h23 with h | h
       ·have e23:(y.op==23)=true:=by simpa using h
        clear h;by_cases hin:ka ∈ R2
        ·have uS:Hid (jR m ab (some ⟨b,off,none⟩) cb cu n M w I k (j+1) (.slice a2 R2.length c2) R2 iM (fun q=>if q=(ka:Int) then n0+1 else f2 q) w3) :=
          HA2.out.step H2.out hg3 (.inr rfl) hM (by rw[sj.out];exact HA2.out.wk.old dz.out HY.out HO.out xW.out hin) mX (hT.out.keep _ _ _ HI2.out (fun q hq=>hg3.block q (by have:=HA2.out.grown.size;simp;omega) (by simp;omega)))
         have e1:(n0+1==1)=false:=by have:=((HA2.out.wk.met ka).2.2).2 hin;have h0:=sj.out;simp;omega
         clear mX hg3 hin;go_wp2
         go_roundw
         case rel=>exact⟨j+1,R2,iM,_,by go_num,hjl,dz.out,uS.out⟩
         case measure=>simp[intOf];omega
        ·have e1:(n0+1==1)=true:=by have:=HA2.out.wk.met ka;have h0:¬ 1≤f2 ka:=fun h=>hin (this.2.2.1 h);have h1:=sj.out;simp;omega
         have xz:=hide hin;have pG:=hide mX;have fe:=hide hg3;have AO:Hid (QR w3 w.heap.size (.slice a2 R2.length c2) R2):=(HA2.out.row.alloc _).keep fun q hq=>hg3.block q ((HA2.out.row.alloc _).lt q hq).2 (by simp only[ne_eq,Option.some.injEq];intro e;obtain⟨o,ho,hno⟩:=(iW.out).obj;exact (HA2.out.row.alloc _).ty ho hno (e ▸ hq));have hz3:=hg3.size;clear mX hg3 hin;go_wp2_with (at_builtin;refine Il rfl _ _ rfl w.heap.size _ R2 ka rfl (AO.out.alloc _) ⟨w3.heap.size,0,none⟩ rfl (DC _ _ _) (by omega) (by have:=HA2.out.grown.size;simp at hz3 ⊢;omega) ?_;intro v' w4 hq4 hg4;have IV:=hide hq4;have gK:=hide hg4;clear hq4 hg4)
         have uS:Hid (jR m ab (some ⟨b,off,none⟩) cb cu n M w I k (j+1) v' (R2++[ka]) iM (fun q=>if q=(ka:Int) then n0+1 else f2 q) w4) :=
          HA2.out.more hT.out (uM (aY (Iw H2.out) fe.out) (aR (World.grownBy.refl _ _) _)) gK.out (AO.out.alloc _) (by rw[sj.out];exact HA2.out.wk.new dz.out HY.out HO.out xW.out oZ xz.out) (pG.out.keep (Below.heap_alloc _ _ _ pG.out.lt)) IV.out
         have uy:Hid ((R2++[ka])[k]?=some x):=by unfold Hid;rw[List.getElem?_append_left (List.getElem?_eq_some_iff.1 dz.out).1];exact dz.out
         go_roundw
         case rel=>exact⟨j+1,R2++[ka],iM,_,by go_num,hjl,uy.out,uS.out⟩
         case measure=>simp[intOf];omega
       ·have e23:(y.op==23)=false:=by simp;omega
        have e29:(y.op==29)=true:=by simpa using h
        clear h;by_cases hin:ka ∈ R2
        ·have uS:Hid (jR m ab (some ⟨b,off,none⟩) cb cu n M w I k (j+1) (.slice a2 R2.length c2) R2 iM (fun q=>if q=(ka:Int) then n0+1 else f2 q) w3) :=
          HA2.out.step H2.out hg3 (.inr rfl) hM (by rw[sj.out];exact HA2.out.wk.old dz.out HY.out HO.out xW.out hin) mX (hT.out.keep _ _ _ HI2.out (fun q hq=>hg3.block q (by have:=HA2.out.grown.size;simp;omega) (by simp;omega)))
         have e1:(n0+1==1)=false:=by have:=((HA2.out.wk.met ka).2.2).2 hin;have h0:=sj.out;simp;omega
         clear mX hg3 hin;go_wp2
         go_roundw
         case rel=>exact⟨j+1,R2,iM,_,by go_num,hjl,dz.out,uS.out⟩
         case measure=>simp[intOf];omega
        ·have e1:(n0+1==1)=true:=by have:=HA2.out.wk.met ka;have h0:¬ 1≤f2 ka:=fun h=>hin (this.2.2.1 h);have h1:=sj.out;simp;omega
         have xz:=hide hin;have pG:=hide mX;have fe:=hide hg3;have AO:Hid (QR w3 w.heap.size (.slice a2 R2.length c2) R2):=(HA2.out.row.alloc _).keep fun q hq=>hg3.block q ((HA2.out.row.alloc _).lt q hq).2 (by simp only[ne_eq,Option.some.injEq];intro e;obtain⟨o,ho,hno⟩:=(iW.out).obj;exact (HA2.out.row.alloc _).ty ho hno (e ▸ hq));have hz3:=hg3.size;clear mX hg3 hin;go_wp2_with (at_builtin;refine Il rfl _ _ rfl w.heap.size _ R2 ka rfl (AO.out.alloc _) ⟨w3.heap.size,0,none⟩ rfl (DC _ _ _) (by omega) (by have:=HA2.out.grown.size;simp at hz3 ⊢;omega) ?_;intro v' w4 hq4 hg4;have IV:=hide hq4;have gK:=hide hg4;clear hq4 hg4)
         have uS:Hid (jR m ab (some ⟨b,off,none⟩) cb cu n M w I k (j+1) v' (R2++[ka]) iM (fun q=>if q=(ka:Int) then n0+1 else f2 q) w4) :=
          HA2.out.more hT.out (uM (aY (Iw H2.out) fe.out) (aR (World.grownBy.refl _ _) _)) gK.out (AO.out.alloc _) (by rw[sj.out];exact HA2.out.wk.new dz.out HY.out HO.out xW.out oZ xz.out) (pG.out.keep (Below.heap_alloc _ _ _ pG.out.lt)) IV.out
         have uy:Hid ((R2++[ka])[k]?=some x):=by unfold Hid;rw[List.getElem?_append_left (List.getElem?_eq_some_iff.1 dz.out).1];exact dz.out
         go_roundw
         case rel=>exact⟨j+1,R2++[ka],iM,_,by go_num,hjl,uy.out,uS.out⟩
         case measure=>simp[intOf];omega
      ·have HN:Hid (jR m ab (some ⟨b,off,none⟩) cb cu n M w I k (j+1) (.slice a2 R2.length c2) R2 iM f2 (wr.alloc (ai y.op y.a y.n))) :=
        HA2.out.step H2.out (World.grownBy.refl _ (some M)) (.inl rfl) hM (HA2.out.wk.quiet dz.out HY.out bR h23) iW.out HI2.out
       have e23:(y.op==23)=false:=by unfold Vf.pF at h23;simp;omega
       have e29:(y.op==29)=false:=by unfold Vf.pF at h23;simp;omega
       clear bR h23;go_wp2
       go_roundw
       case rel=>exact⟨j+1,R2,iM,f2,by go_num,hjl,dz.out,HN.out⟩
       case measure=>simp[intOf];omega
    ·have HN:Hid (jR m ab (some ⟨b,off,none⟩) cb cu n M w I (k+1) 0 (.slice a2 R2.length c2) R2 iM f2 wr) :=
      HA2.out.step (World.grownBy.refl _ none) (World.grownBy.refl _ (some M)) (.inl rfl) hM (HA2.out.wk.next dz.out (by rw[bT.out];omega) (by omega)) HA2.out.met HA2.out.tell
     have hj1:¬ (j:Int)<(u.code.length:Int):=by omega
     go_wp2
     go_roundw
     case rel=>exact⟨k+1,R2,iM,f2,by go_num,HN.out⟩
     case measure=>simp[intOf];omega
  ·have HE:Hid (∀ q,q ∈ ts ↔ (q.1=26∨q.1=27)∧Vf.comes m n q=true):=fun q=>HA.out.wk.all hR.out (by omega) q
   go_wp2
   go_end0
   exact⟨rfl,HA.out.grown,ts,HA.out.tell,HE.out⟩
theorem Qk {l:LL}{e:MapEntry}(h:e ∈ bM l 0):∃ i p,l[i]?=some p∧e={ key:=dW p.1,val:=.int .i64 p.2,born:=i }:=by
 obtain⟨i,hi⟩:=List.getElem?_of_mem h;rw[DI] at hi;obtain⟨p,hp,rfl⟩:=Option.map_eq_some_iff.1 hi;exact⟨i,p,hp,by simp⟩
theorem abb (l:LL):((bM l 0).map (·.born)).Nodup:=by
 have:∀ (l:LL) (i:Nat),(bM l i).map (·.born)=List.range' i l.length:=by
  intro l;induction l with
  | nil=>intro i;rfl
  | cons p r ih=>intro i;simp only[bM,List.map_cons,ih,List.length_cons,List.range'_succ]
 rw[this];exact List.nodup_range'
abbrev uT (M:Nat) (G:LL) (seen:Array Nat):Obj:=.mapIter (some M) G.length seen G.length
theorem abd {w:World}{I M:Nat}{G:LL}{seen:Array Nat}(hI:w.heap[I]?=some (uT M G seen))(hM:eF w M G)(ty:TypeId) :
  ((∀ i,i<G.length→i ∈ seen.toList)∧(Instr.next (.pointer (some ⟨I,0,none⟩)) false ty).run Tryz.prog w=.ok (.tuple #[.bool false]) w) ∨
  ∃ i p w1,G[i]?=some p∧i ∉ seen.toList∧(Instr.next (.pointer (some ⟨I,0,none⟩)) false ty).run Tryz.prog w=.ok (.tuple #[.bool true,dW p.1,.int .i64 p.2]) w1∧w1.heap[I]?=some (uT M G (seen.push i))∧w.grownBy w1 (some I)∧w1.heap.size=w.heap.size∧(Instr.entry (.pointer (some ⟨I,0,none⟩))).run Tryz.prog w1=.ok (.tuple #[dW p.1,.int .i64 p.2]) w1:=by
 have hMI:M≠I:=fun e=>by
  subst e;have:=hM;unfold eF at this;rw[hI] at this;cases this
 rcases run_next_at (P:=Tryz.prog) w ty I M G.length G.length seen (bM G 0).toArray G.length hI hM (fun x hx=>by
  obtain⟨i,p,hp,rfl⟩:=Qk (by simpa using hx);exact (List.getElem?_eq_some_iff.1 hp).1) (Nat.le_refl _) with⟨h0,hr⟩ | ⟨e,he,w1,hw1,hr⟩
 ·refine .inl ⟨fun i hi=>?_,hr⟩
  by_cases hs:i ∈ seen.toList
  ·exact hs
  ·exfalso
   have hx:(bM G 0)[i]?=some { key:=dW G[i].1,val:=.int .i64 G[i].2,born:=0+i }:=by
    rw[DI,List.getElem?_eq_getElem hi];rfl
   have hmem:({ key:=dW G[i].1,val:=.int .i64 G[i].2,born:=0+i }:MapEntry) ∈ leftOf (bM G 0).toArray seen:=by
    unfold leftOf;rw[Array.mem_filter];refine⟨by simpa using List.mem_of_getElem? hx,?_⟩;simp only[Nat.zero_add];simpa using hs
   have:=Array.size_pos_of_mem hmem;omega
 ·have he':e ∈ leftOf (bM G 0).toArray seen:=by simpa using he
  unfold leftOf at he';rw[Array.mem_filter] at he';obtain⟨h1,h2⟩:=he';have h1':e ∈ bM G 0:=by simpa using h1
  obtain⟨i,p,hp,rfl⟩:=Qk h1';have hI1:w1.heap[I]?=some (uT M G seen):=by rcases hw1 with rfl | rfl<;>exact hI
  have hM1:eF w1 M G:=by rcases hw1 with rfl | rfl<;>exact hM
  have hsz:w1.heap.size=w.heap.size:=by rcases hw1 with rfl | rfl<;>rfl
  have hg1:w.grownBy w1 (some I):=by
   rcases hw1 with rfl | rfl
   ·exact fK _ _
   ·exact ji (fK _ _)
  obtain⟨m1,m2⟩:=MapKept.heap_set (o':=uT M G (seen.push i)) hI1;refine .inr ⟨i,p,_,hp,by simpa using h2,hr,m1,?_,?_,?_⟩
  ·exact aY hg1 ⟨rfl,rfl,rfl,by simp[Go.ChangeMaps.setBlock],fun k _ hne=>m2 k (fun e=>hne (by rw[e]))⟩
  ·simp[Go.ChangeMaps.setBlock,hsz]
  ·refine run_entry_at (P:=Tryz.prog) _ I M G.length seen (bM G 0).toArray G.length { key:=dW p.1,val:=.int .i64 p.2,born:=i } m1 ?_ (by simpa using h1') (by simpa using abb G)
   exact (m2 M hMI).trans hM1
def uU (G:LL)(seen:List Nat):Nat:=(List.range G.length).countP (fun i=>decide (i ∉ seen))
theorem abf {G:LL}{seen:List Nat}{i:Nat}(hi:i<G.length)(hs:i ∉ seen):uU G (seen++[i])+1≤uU G seen:=by
 refine Vf.Ih (fun x hx=>?_) (List.mem_range.2 hi) (by simpa using hs) (by simp);simp at hx ⊢;exact hx.1
def IW (G:LL)(f:Lk→Int)(W0:World)(T M I gk:Nat)(W:World):Prop :=
 ∃ seen:Array Nat,W.heap[I]?=some (uT M G seen)∧eF W M G∧dN W T (fun q=>f q+told G seen.toList q)∧(∀ i ∈ seen.toList,i<G.length)∧uU G seen.toList≤gk∧W0.grownBy W (some T)
def tz (m:Vf.Md)(q:Lk)(k:Nat):Int:=if q.1=26∨q.1=27 then (Vf.tc m q k:Int) else 0
structure abg (m:Vf.Md) (W0:World) (T k:Nat) (W:World):Prop where
 le:k≤m.units.length
 tk:dN W T (fun q=>tz m q k)
 grown:W0.grownBy W (some T)
theorem dN.bump {w:World}{T:Nat}{f:Lk→Int}(h:dN w T f)(k:Lk):∃ w1 w2 n,(Instr.lookup 203 (.map (some T)) (dW k) false).run Tryz.prog w=.ok (.int .i64 (f k)) w∧(Instr.mapEntry 203 (.map (some T)) (dW k)).run Tryz.prog w=.ok (.tuple #[.int .i64 (f k),goInt n]) w1∧(Instr.lookup 203 (.map (some T)) (dW k) false).run Tryz.prog w1=.ok (.int .i64 (f k)) w1 ∧
  (Instr.entryStore 203 (.map (some T)) (.int .i64 n) (.int .i64 (f k+1))).run Tryz.prog w1=.ok () w2∧dN w2 T (fun q=>f q+if q=k then 1 else 0)∧w.grownBy w1 (some T)∧w.grownBy w2 (some T):=by
 obtain⟨l,h1,h2,h3⟩:=h;obtain⟨w1,w2,b1,b2,b3,b4,b5,b6⟩:=ZH h1 k;have b0:=Ie h1 k;rw[h3] at b0 b1 b2 b3;refine⟨w1,w2,_,b0,b1,b2,b3,⟨_,b4,h2.bump k,fun q=>?_⟩,b5,b6⟩;show Vf.cnt q (Vf.bump k l)=f q+if q=k then 1 else 0
 rw[Vf.rW];by_cases e:q=k
 ·subst e
  rw[if_pos rfl,if_pos rfl,h3]
 ·rw[if_neg e,if_neg e,h3]
  omega
theorem abh {w:World}{M:Nat}{G:LL}(h:eF w M G):(Instr.range 203 (.map (some M))).run Tryz.prog w=.ok (.pointer (some ⟨w.heap.size,0,none⟩)) (w.alloc (uT M G #[])):=by
 have hg:(getObj M).run Tryz.prog w=.ok (.map (bM G 0).toArray G.length) w:=MapKept.run_getObj_map h;have hu:=run_underlying (P:=Tryz.prog) (w:=w) Tryz.underlying203;simp[Instr.range,hu,hg]
theorem dN.look {w:World}{T:Nat}{f:Lk→Int}(h:dN w T f)(k:Lk):(Instr.lookup 203 (.map (some T)) (dW k) false).run Tryz.prog w=.ok (.int .i64 (f k)) w:=by
 obtain⟨l,h1,h2,h3⟩:=h;have b0:=Ie h1 k;rw[h3] at b0;exact b0
theorem AP {w:World}{T:Nat}{f g:Lk→Int}(h:dN w T f)(e:∀ q,f q=g q):dN w T g:=by
 obtain⟨l,h1,h2,h3⟩:=h;exact⟨l,h1,h2,fun q=>(h3 q).trans (e q)⟩
theorem Ql (m:Vf.Md)(q:Lk)(k:Nat):0≤tz m q k∧tz m q k≤k:=by
 have:=Vf.ZL m q k;unfold tz;split<;>omega
theorem dN.wl {w:World}{T:Nat}{f:Lk→Int}(h:dN w T f):∃ l,eF w T l∧Vf.Wl l∧∀ q,Vf.cnt q l=f q:=h
abbrev D6 (M:Nat):Obj:=.cells #[.map (some M)] 203 (0,0)
def Mine (P M:Nat)(ts:List Lk)(w:World):Prop:=w.heap[P]?=some (D6 M)∧dN w M (fun q=>(ts.count q:Int))
theorem abj (P M:Nat)(ts:List Lk)(op a:Int)(w:World)(hI:Hid (Mine P M ts w))(hl:ts.length≤130000) :
  Calls Tryz.prog 98 #[.int .i64 op,.int .i64 a,.pointer (some ⟨P,0,none⟩)] w fun e w'=>e=.returned (.tuple #[])∧Mine P M (ts++[(op,a)]) w'∧w.grownBy w' (some M):=by
 obtain⟨hP,hT⟩:=hI.out;have hT1:dN w.drew M (fun q=>(ts.count q:Int)):=hT;obtain⟨w3,w4,nn,b0,b1,b2,b3,b4,b5,b6⟩:=hT1.bump (op,a);have c0:w.cell? ⟨P,0,none⟩=some (.map (some M)):=by simp[World.cell?,hP]
 have Qm:P≠M:=by
  rintro rfl;obtain⟨l,h1,_⟩:=hT;unfold eF at h1;rw[h1] at hP;cases hP
 have HE:Hid (Mine P M (ts++[(op,a)]) w4):=⟨((iQ b6).block _ (lt_of_block hP) (by simpa using Qm)).trans hP,AP b4 (fun q=>by
  show (ts.count q:Int)+(if q=(op,a) then 1 else 0)=((ts++[(op,a)]).count q:Int)
  rw[List.count_append,List.count_singleton];by_cases e:q=(op,a)
  ·rw[if_pos e,e];simp
  ·rw[if_neg e,if_neg (by simpa using fun h=>e h.symm)];simp)⟩
 have HG:Hid (w.grownBy w4 (some M)):=iQ b6;obtain⟨n0,hn0⟩:∃ n0:Int,n0=(ts.count (op,a):Int):=⟨_,rfl⟩;have hn2:n0≤130000:=by have:=List.count_le_length (a:=(op,a)) (l:=ts);omega
 have hn1:0≤n0:=by omega
 rw[← hn0] at b0 b1 b2 b3;have ew:IntKind.i64.wrap (n0+1)=n0+1:=by simp[IntKind.wrap,IntKind.bits,IntKind.signed];omega
 clear hP hT hT1 b4 b5 b6 Qm hn0;go_enter Tryz.func98,Tryz.ntmps98
 go_wp2_with fail
 go_region
 all_goals
  go_wp2
  go_end0
  exact⟨rfl,HE.out,HG.out⟩
theorem abk (m:Vf.Md)(ab au:Option Addr)(cb cu B:Nat)(w:World)(hmd:Hid (aW B w m ab au))(hB:B≤w.heap.size)(hR:Hid (Rt m))(hnb:m.boxes.length≤30)(er num:Int)(hr:Hid ((er,num)=((Vf.xM m).1,((Vf.xM m).2:Int)))) :
  Calls Tryz.prog 57 #[eU m ab au cb cu] w fun e w'=>e=.returned (dw er 0 num)∧w.grownBy w' none:=by
 have hmm:∀ w:World,(Instr.makeMap 203 Option.none).run Tryz.prog w=.ok (.map (some w.heap.size)) (w.alloc (.map #[] 0)):=fun _=>rfl;have hmu:m.units.length≤30:=hR.out.units;obtain⟨W0,hW0⟩:∃ W0:World,((w.alloc (ig m ab au cb cu)).alloc dh).alloc (.map #[] 0)=W0:=⟨_,rfl⟩;obtain⟨t0,t1,t2,t3⟩:=AA w (ig m ab au cb cu) dh (.map #[] 0);rw[hW0] at t0 t1 t2 t3;have HT0:=hide t0;have HT1:=hide t1;have HT2:=hide t2;have HT3:Hid (dN W0 (w.heap.size+1+1) (fun q=>tz m q 0)):=⟨[],t3,Vf.Wl.nil,fun q=>by show Vf.cnt q []=tz m q 0;unfold tz;split<;>rfl⟩;have HW0:=hide hW0;have ahO:w.heap.size+1+1<W0.heap.size:=lt_of_block t3;clear t0 t1 t2 t3 hW0;go_enter Tryz.func57,Tryz.ntmps57
 go_wp2
 go_loopw [14] (fun v wr=>∃ k:Nat,v=.int .i64 k∧abg m W0 (w.heap.size+1+1) k wr) (fun v _=>m.units.length - (intOf v).toNat)
 case atStart=>exact⟨0,rfl,Nat.zero_le _,by rw[HW0.out];exact HT3.out,by rw[HW0.out];exact fK _ _⟩
 case round =>
  obtain⟨k,rfl,hA⟩:=hrel;have HA:=hide hA;have hk:=hA.le;have hgz:=hA.grown.size;have hmb:wr.heap[w.heap.size]?=some (ig m ab au cb cu):=(HA.out.grown.block _ (lt_of_block HT1.out) (by simp;omega)).trans HT1.out;have AJ:=hide hmb;have AB:Hid (wr.heap[w.heap.size+1]?=some dh):=(HA.out.grown.block _ (lt_of_block HT2.out) (by simp)).trans HT2.out;have lN:Hid (aW B wr m ab au):=hmd.out.low (fun j hj=>(HA.out.grown.block j (by omega) (by simp;omega)).trans (bY HT0.out (by omega)));have Qn:Hid (w.heap.size+1+1<wr.heap.size):=HA.out.tk.lt;have xX:=Qn.out;have hwz:w.heap.size<wr.heap.size:=by omega
  have ahP:w.heap.size+1<wr.heap.size:=by omega
  obtain⟨x0,x1⟩:=nG hmb;clear hA hmb;by_cases hlt:k<m.units.length
  ·obtain⟨u,hu⟩:∃ u,m.units[k]?=some u:=⟨_,List.getElem?_eq_getElem hlt⟩
   obtain⟨b,off,al,cl,ac,cc,ha,hb,gq,u0,u1,u2,u3,u4,u5⟩:=lN.out.units k u hu;have hk1:(k:Int)<(m.units.length:Int):=by omega
   have HIS:Hid (Vf.is m 4 (k:Int)=(u.kind==4)):=OE hu;have mr:=hide ha;have hbw:b<wr.heap.size:=by omega
   rw[ha] at x1;clear hu gq ha;rw[mr.out];by_cases h4:u.kind=4
   ·have e4:(u.kind != 4)=false:=by simp[h4]
    have abl:Hid (Vf.is m 4 (k:Int)=true):=by rw[HIS.out,h4];rfl
    obtain⟨W1,hW1⟩:∃ W1:World,((wr.alloc (aX u al ac cl cc)).alloc (.map #[] 0)).alloc (D6 (wr.heap.size+1))=W1:=⟨_,rfl⟩;obtain⟨hT1,_,hM1,hP1⟩:=AA wr (aX u al ac cl cc) (.map #[] 0) (D6 (wr.heap.size+1));rw[hW1] at hT1 hM1 hP1;have kP:Hid (aW B W1 m ab (some ⟨b,off,none⟩)):=by rw[← mr.out];exact lN.out.low (gD hT1 (by omega))
    have AQ:=hide hT1;have HI1:Hid (Mine (wr.heap.size+1+1) (wr.heap.size+1) [] W1):=⟨hP1,[],hM1,Vf.Wl.nil,fun q=>rfl⟩;have HW1:=hide hW1;have abm:wr.heap.size+1+1<W1.heap.size:=lt_of_block hP1;have Qo:(((wr.alloc (aX u al ac cl cc)).alloc (.map #[] 0)).alloc (D6 (wr.heap.size+1))).heap[w.heap.size]?=some (ig m ab (some ⟨b,off,none⟩) cb cu):=by rw[HW1.out,← mr.out];exact (bY AQ.out hwz).trans AJ.out
    obtain⟨y0,y1⟩:=nG Qo;have nI:Hid (DV 98 #[.pointer (some ⟨wr.heap.size+1+1,0,none⟩)] W1.heap.size (wr.heap.size+1) (Mine (wr.heap.size+1+1) (wr.heap.size+1))) :=
     ⟨fun ts w w' h k=>⟨(k _ abm).trans h.1,h.2.keep (k _ (by omega))⟩,fun ts op a w h hl=>abj _ _ ts op a w h hl⟩
    clear h4 hW1 hT1 hM1 hP1 Qo;go_wp2_with fail
    rw[HW1.out];refine (Qi m ab (some ⟨b,off,none⟩) cb cu B k (wr.heap.size+1) 98 #[.pointer (some ⟨wr.heap.size+1+1,0,none⟩)] _ _ kP (by omega) hR hlt (by omega) (by omega) (fun vs w'=>by first | rfl | kernel_rfl | simp[go_sem]) nI HI1).mono ?_;rintro e w2 ⟨rfl,hg2,ts,⟨hP2,G,hL2,Qp,hcn⟩,hts⟩;have Qq:=hide Qp;have hrg:=abh hL2;have c2:w2.cell? ⟨wr.heap.size+1+1,0,none⟩=some (.map (some (wr.heap.size+1))):=by simp[World.cell?,hP2]
    have Qr:W0.grownBy w2 (some (w.heap.size+1+1)):=uL (uM HA.out.grown AQ.out) hg2 (.inl (by omega));have IX:dN w2 (w.heap.size+1+1) (fun q=>tz m q k):=(HA.out.tk.keep (bY AQ.out xX)).keep (hg2.block _ (by have:=AQ.out.size;omega) (by simp;omega));have uV:Hid (IW G (fun q=>tz m q k) W0 (w.heap.size+1+1) (wr.heap.size+1) w2.heap.size (uU G []) (w2.alloc (uT (wr.heap.size+1) G #[]))) :=
     ⟨#[],heap_alloc_new _ _,hL2.alloc _,AP (IX.keep (Below.heap_alloc _ _ _ IX.lt)) (fun q=>by simp[told]),fun i hi=>(by cases hi),Nat.le_refl _,uM Qr (aR (World.grownBy.refl _ _) _)⟩
    have ahQ:=AQ.out.size;have hz2:=hg2.size;have hz3:W1.heap.size=wr.heap.size+1+1+1:=by rw[← HW1.out];simp
    have IY:Hid (∀ q,tz m q (k+1)=tz m q k+if (decide (1≤Vf.cnt q G))=true then 1 else 0):=fun q=>by
     have e:(decide (1≤Vf.cnt q G))=true ↔ (q.1=26∨q.1=27)∧Vf.comes m k q=true:=by
      have hc':Vf.cnt q G=(ts.count q:Int):=hcn q;rw[← hts q,hc',decide_eq_true_iff,← List.count_pos_iff];omega
     unfold tz;by_cases hq:q.1=26∨q.1=27
     ·have e3:decide (1≤Vf.cnt q G)=Vf.comes m k q:=by rw[Bool.eq_iff_iff,e];exact⟨fun h=>h.2,fun h=>⟨hq,h⟩⟩
      rw[if_pos hq,if_pos hq,Vf.O8,abl.out,e3];cases Vf.comes m k q<;>simp
     ·rw[if_neg hq,if_neg hq,if_neg (fun h=>hq (e.1 h).1)]
      rfl
    clear hL2 hg2 Qr IX Qp hcn hts hP2 y0 y1 u0 u1 u2 u3 u4 u5 x0 x1;generalize hIe:w2.heap.size=I at *;generalize hNe:wr.heap.size=N at *;have hIN:N+1<I:=by omega
    have iJ:Hid (w.heap.size+1+1<N):=xX;clear hIe hNe;go_wp2_with fail
    go_loopg [] (uU G []) (fun gk wr'=>IW G (fun q=>tz m q k) W0 (w.heap.size+1+1) (N+1) I gk wr')
    case atStart=>exact uV.out
    case round =>
     obtain⟨seen,hI,hM,hT,hsl,hleft,hgW⟩:=hrel;clear uV hrg;rcases abd hI hM 0 with⟨hall,hnx⟩ | ⟨i,p,w1,hp,hi,hnx,hI1,hg1,hz1,hen⟩
     ·have HTN:Hid (dN wr (w.heap.size+1+1) (fun q=>tz m q (k+1))):=AP hT (fun q=>by rw[ZO Qq.out hall hsl,IY.out])
      have HGN:=hide hgW;clear hI hM hT hsl hleft hgW hall;go_wp2
      go_roundw
      case rel=>exact⟨k+1,by go_num,hlt,HTN.out,HGN.out⟩
      case measure=>simp[intOf];omega
     ·have hilt:i<G.length:=(List.getElem?_eq_some_iff.1 hp).1
      have hTI:w.heap.size+1+1≠I:=by omega
      have hT1:dN w1 (w.heap.size+1+1) (fun q=>tz m q k+told G seen.toList q):=hT.keep (hg1.block _ hT.lt (by simp;omega));have hM1:eF w1 (N+1) G:=hM.keep (hg1.block _ hM.lt (by simp;omega));obtain⟨W5,dH⟩:∃ W5:World,w1.alloc (Iz p.1)=W5:=⟨_,rfl⟩;have Qs:dN W5.drew (w.heap.size+1+1) (fun q=>tz m q k+told G seen.toList q):=by rw[← dH];exact hT1.keep (Below.heap_alloc _ _ _ hT1.lt)
      obtain⟨w3,w4,nn,b0,b1,b2,b3,b4,b5,b6⟩:=Qs.bump p.1;have hk5:W5.heap[w1.heap.size]?=some (Iz p.1):=by rw[← dH];exact heap_alloc_new _ _
      obtain⟨q0,q1⟩:=aab hk5;obtain⟨n0,hn0⟩:∃ n0:Int,n0=tz m p.1 k+told G seen.toList p.1:=⟨_,rfl⟩;have hn1:0≤n0:=by have:=Ql m p.1 k;rw[hn0];unfold told;split<;>omega
      have hn2:n0≤31:=by have:=Ql m p.1 k;rw[hn0];unfold told;split<;>omega
      have ew:IntKind.i64.wrap (n0+1)=n0+1:=by simp[IntKind.wrap,IntKind.bits,IntKind.signed];omega
      rw[← hn0] at b0 b1 b2 b3;have hg5:w1.grownBy w4 (some (w.heap.size+1+1)):=by
       have h5:w1.grownBy W5 none:=by rw[← dH];exact aR (World.grownBy.refl _ _) _
       exact aY (Iw h5) (iQ b6)
      have uW:Hid (IW G (fun q=>tz m q k) W0 (w.heap.size+1+1) (N+1) I (uU G (seen.toList++[i])) w4):=by
       refine⟨seen.push i,(hg5.block _ (lt_of_block hI1) (by simp;omega)).trans hI1,hM1.keep (hg5.block _ hM1.lt (by simp;omega)),AP b4 (fun q=>?_),fun x hx=>?_,by rw[Array.toList_push];exact Nat.le_refl _,uL (uL hgW hg1 (.inl (by omega))) hg5 (.inr rfl)⟩
       ·rw[Array.toList_push,ZN Qq.out hp hi q]
        show (tz m q k+told G seen.toList q)+(if q=p.1 then 1 else 0)=tz m q k+(told G seen.toList q+if q=p.1 then 1 else 0)
        omega
       ·rw[Array.toList_push] at hx
        rcases List.mem_append.1 hx with h | h
        ·exact hsl x h
        ·simp at h;omega
      have HLS:=hide (abf hilt hi);have Nn:=hide hleft;have iK:=hide dH;clear hI hM hT hsl hleft hgW hI1 hg1 hz1 hT1 hM1 Qs hk5 hn0 b4 b5 b6 dH hg5 hp hi;go_wp2_with fail
      rw[iK.out];go_region
      all_goals
       go_wp2
       go_roundg (uU G (seen.toList++[i]))
       case measure=>have h1:=HLS.out;have h2:=Nn.out;omega
       case rel=>exact uW.out
   ·have e4:(u.kind != 4)=true:=by simpa using h4
    have IY:Hid (∀ q,tz m q (k+1)=tz m q k):=fun q=>by unfold tz;rw[Vf.O8,HIS.out];simp[h4]
    clear h4;go_wp2
    go_roundw
    case rel=>exact⟨k+1,by go_num,hlt,AP (HA.out.tk.keep (Below.heap_alloc _ _ _ Qn.out)) (fun q=>by rw[IY.out]),uM HA.out.grown (aR (World.grownBy.refl _ _) _)⟩
    case measure=>simp[intOf];omega
  ·obtain rfl:k=m.units.length:=by omega
   have gM:=hide HA.out.tk;have AU:=hide HA.out.grown;obtain⟨⟨z0,z1,z2⟩,y0,y1,y2⟩:=eG AB.out;have HG:Hid (w.grownBy wr none):=⟨AU.out.os.trans HT0.out.os,AU.out.tape.trans HT0.out.tape,AU.out.output.trans HT0.out.output,Nat.le_trans HT0.out.size AU.out.size,fun j hj _=>(AU.out.block j (by have:=HT0.out.size;omega) (by simp;omega)).trans (HT0.out.block j hj (by simp))⟩;clear HA;go_wp2
   go_loopw [45] (fun v wr'=>∃ n:Nat,v=.int .i64 n∧n≤m.boxes.length∧wr'=wr∧Hid ((er,num)=((Vf.cK (Vf.lU m) ((List.range m.boxes.length).drop n) n).1,((Vf.cK (Vf.lU m) ((List.range m.boxes.length).drop n) n).2:Int)))) (fun v _=>m.boxes.length - (intOf v).toNat)
   case atStart=>exact⟨0,rfl,Nat.zero_le _,rfl,hr.out⟩
   case round =>
    obtain⟨n,rfl,hnl,IZ,HF⟩:=hrel;subst IZ;by_cases hn:n<m.boxes.length
    ·have hx:(List.range m.boxes.length)[n]?=some n:=by rw[List.getElem?_range hn]
     have bQ:Hid ((er,num)=if Vf.lU m n=0 then ((Vf.cK (Vf.lU m) ((List.range m.boxes.length).drop (n+1)) (n+1)).1,((Vf.cK (Vf.lU m) ((List.range m.boxes.length).drop (n+1)) (n+1)).2:Int)) else (Vf.lU m n,(n:Int))):=by
      unfold Hid;rw[HF.out,IL _ hx];split<;>rfl
     have l26:_=Result.ok (Value.int .i64 (Vf.tc m (26,(n:Int)) m.units.length:Int)) _:=gM.out.look (26,(n:Int));have l27:_=Result.ok (Value.int .i64 (Vf.tc m (27,(n:Int)) m.units.length:Int)) _:=gM.out.look (27,(n:Int));obtain⟨a26,I1⟩:∃ a:Nat,a=Vf.tc m (26,(n:Int)) m.units.length:=⟨_,rfl⟩;obtain⟨a27,I4⟩:∃ a:Nat,a=Vf.tc m (27,(n:Int)) m.units.length:=⟨_,rfl⟩;rw[← I1] at l26;rw[← I4] at l27;have uX:Hid (Vf.lU m n=if 1<a26∨1<a27 then 8 else 0):=by unfold Hid;unfold Vf.lU;rw[I1,I4]
     clear hx I1 I4 HF;by_cases bR:1<a26
     ·have d1:decide (1<a26)=true:=by simpa using bR
      have HE:Hid (er=8∧num=(n:Int)):=by
       have h1:=bQ.out;have ho:Vf.lU m n=8:=by rw[uX.out,if_pos (Or.inl bR)]
       rw[ho,if_neg (by decide)] at h1;cases h1;exact⟨rfl,rfl⟩
      go_wp2
      refine bodyPost_ret (v:=dw 8 0 (n:Int)) (by simp[results,Tryz.results57,go_sem,z0,z1,z2]) rfl ?_;rw[HE.out.1,HE.out.2];exact⟨rfl,aP (aP (aP HG.out (by omega) _ _) (by omega) _ _) (by omega) _ _⟩
     ·have d1:decide (1<a26)=false:=by simpa using bR
      by_cases h27:1<a27
      ·have d2:decide (1<a27)=true:=by simpa using h27
       have HE:Hid (er=8∧num=(n:Int)):=by
        have h1:=bQ.out;have ho:Vf.lU m n=8:=by rw[uX.out,if_pos (Or.inr h27)]
        rw[ho,if_neg (by decide)] at h1;cases h1;exact⟨rfl,rfl⟩
       go_wp2
       refine bodyPost_ret (v:=dw 8 0 (n:Int)) (by simp[results,Tryz.results57,go_sem,z0,z1,z2]) rfl ?_;rw[HE.out.1,HE.out.2];exact⟨rfl,aP (aP (aP HG.out (by omega) _ _) (by omega) _ _) (by omega) _ _⟩
      ·have d2:decide (1<a27)=false:=by simpa using h27
       have HE:Hid ((er,num)=((Vf.cK (Vf.lU m) ((List.range m.boxes.length).drop (n+1)) (n+1)).1,((Vf.cK (Vf.lU m) ((List.range m.boxes.length).drop (n+1)) (n+1)).2:Int))):=by
        have h1:=bQ.out;have ho:Vf.lU m n=0:=by rw[uX.out,if_neg (by rintro (h | h);exact bR h;exact h27 h)]
        rw[ho,if_pos rfl] at h1;exact h1
       go_wp2
       go_roundw
       case rel=>exact⟨n+1,by go_num,hn,trivial,HE⟩
       case measure=>simp[intOf];omega
    ·have HE:Hid (er=0∧num=0):=by
      have h1:=HF.out;rw[List.drop_eq_nil_of_le (by simp;omega)] at h1;cases h1;exact⟨rfl,rfl⟩
     go_wp2
     refine bodyPost_ret (v:=dw 0 0 0) (by simp[results,Tryz.results57,go_sem,z0,z1,z2]) rfl ?_;rw[HE.out.1,HE.out.2];exact⟨rfl,aP (aP (aP HG.out (by omega) _ _) (by omega) _ _) (by omega) _ _⟩
namespace Vf
def qO (m:Md):Int:=if 30<m.boxes.length∨30<m.units.length then 5 else 0
def jw (b:Bx):Int:=if plain b.ty=false then 9 else if b.cap<1∨20<b.cap then 3 else 0
def xY (m:Md):Int × Nat:=cK jw m.boxes 0
def AV (m:Md):Int:=if m.units.any (fun u=>u.kind==4) then 0 else 6
end Vf
theorem abu (m:Vf.Md)(ab au:Option Addr)(cb cu:Nat)(w:World)(er:Int)(hr:Hid (er=Vf.qO m)) :
  Calls Tryz.prog 52 #[eU m ab au cb cu] w fun e w'=>e=.returned (dw er 0 0)∧w.grownBy w' none:=by
 go_enter Tryz.func52,Tryz.ntmps52
 go_wp2
 all_goals
  first
  | (refine bodyPost_ret (v:=dw 5 0 0) (by simp[results,Tryz.results52,go_sem]) rfl ?_;have HE:er=5:=(by rw[hr.out,Vf.qO,if_pos (by omega)]);rw[HE];exact⟨rfl,fI _ _ _⟩)
  | (refine bodyPost_ret (v:=dw 0 0 0) (by simp[results,Tryz.results52,go_sem]) rfl ?_;have HE:er=0:=(by rw[hr.out,Vf.qO,if_neg (by omega)]);rw[HE];exact⟨rfl,fI _ _ _⟩)
structure abv (m:Vf.Md) (W0:World) (er num:Int) (k:Nat) (W:World):Prop where
 le:k≤m.boxes.length
 grown:W0.grownBy W none
 rest:(er,num)=((Vf.cK Vf.jw (m.boxes.drop k) k).1,((Vf.cK Vf.jw (m.boxes.drop k) k).2:Int))
theorem abw (m:Vf.Md)(ab au:Option Addr)(cb cu B:Nat)(w:World)(hmd:Hid (aW B w m ab au))(hB:B≤w.heap.size)(er num:Int)(hr:Hid ((er,num)=((Vf.xY m).1,((Vf.xY m).2:Int)))) :
  Calls Tryz.prog 53 #[eU m ab au cb cu] w fun e w'=>e=.returned (dw er 0 num)∧w.grownBy w' none:=by
 have dx:=hmd.out.few.1;obtain⟨W0,hW0⟩:∃ W0:World,(w.alloc (ig m ab au cb cu)).alloc dh=W0:=⟨_,rfl⟩;have HT:Hid (w.grownBy W0 none):=by rw[← hW0];exact fI _ _ _
 have su:Hid (W0.heap[w.heap.size+1]?=some dh):=by rw[← hW0];exact xU _ _ _
 have HW0:=hide hW0;clear hW0;go_enter Tryz.func53,Tryz.ntmps53
 go_wp2
 go_loopw [9] (fun v wr=>∃ k:Nat,v=.int .i64 k∧abv m W0 er num k wr) (fun v _=>m.boxes.length - (intOf v).toNat)
 case atStart=>exact⟨0,rfl,Nat.zero_le _,by rw[← HW0.out];exact World.grownBy.refl _ _,hr.out⟩
 case round =>
  obtain⟨k,rfl,hA⟩:=hrel;have HA:=hide hA;have hk:=hA.le;have HG:Hid (w.grownBy wr none):=bZ HT.out HA.out.grown;have hwz:wr.heap[w.heap.size+1]?=some dh:=(bY HA.out.grown (lt_of_block su.out)).trans su.out;obtain⟨⟨z0,z1,z2⟩,y0,y1,y2⟩:=eG hwz;have hzl:=lt_of_block hwz;have jT:=hide hwz;clear hA hwz;by_cases hlt:k<m.boxes.length
  ·obtain⟨x,hx⟩:∃ x,m.boxes[k]?=some x:=⟨_,List.getElem?_eq_getElem hlt⟩
   obtain⟨i1,i2,b,off,ha,hb,b0,b1⟩:=(hmd.out.low (gD HG.out hB)).boxes k x hx;have HN:Hid ((er,num)=if Vf.jw x=0 then ((Vf.cK Vf.jw (m.boxes.drop (k+1)) (k+1)).1,((Vf.cK Vf.jw (m.boxes.drop (k+1)) (k+1)).2:Int)) else (Vf.jw x,(k:Int))):=by
    unfold Hid;rw[HA.out.rest,IL _ hx];split<;>rfl
   have HAB:=hide ha;obtain⟨p,hp⟩:∃ p,p=Vf.plain x.ty:=⟨_,rfl⟩;have HP:=hide hp;have uX:Hid (Vf.jw x=if p=false then 9 else if x.cap<1∨20<x.cap then 3 else 0):=by unfold Hid;unfold Vf.jw;rw[hp]
   have hk1:(k:Int)<(m.boxes.length:Int):=by omega
   clear hx ha hp;rw[HAB.out];go_wp2_with fail
   refine (lK x.ty _ p HP).mono ?_;rintro e w2 ⟨rfl,hw2⟩;subst hw2;cases p with
   | false =>
    have HE:Hid (er=9∧num=(k:Int)):=by
     have h1:=HN.out;have ho:Vf.jw x=9:=uX.out;rw[ho,if_neg (by decide)] at h1;cases h1;exact⟨rfl,rfl⟩
    go_wp2
    have hX:=nH jT.out (.int .i64 9) (.int .i64 0) (.int .i64 (k:Int));obtain⟨⟨g0,g1,g2⟩,_⟩:=eG ((Below.heap_alloc _ (.cells #[.int .i64 x.ty,.int .i64 x.cap] 103) _ (lt_of_block hX)).trans hX);refine bodyPost_ret (v:=dw 9 0 (k:Int)) (by simp[results,Tryz.results53,go_sem,g0,g1,g2]) rfl ?_;rw[HE.out.1,HE.out.2];exact⟨rfl,aR (aP (aP (aP HG.out (by omega) _ _) (by omega) _ _) (by omega) _ _) _⟩
   | true =>
    by_cases hc:x.cap<1∨20<x.cap
    ·have HE:Hid (er=3∧num=(k:Int)):=by
      have h1:=HN.out;have ho:Vf.jw x=3:=by rw[uX.out,if_neg (by decide),if_pos hc]
      rw[ho,if_neg (by decide)] at h1;cases h1;exact⟨rfl,rfl⟩
     rcases hc with hc | hc
     ·have d1:decide (x.cap<1)=true:=by simpa using hc
      go_wp2
      have hX:=nH jT.out (.int .i64 3) (.int .i64 0) (.int .i64 (k:Int));obtain⟨⟨g0,g1,g2⟩,_⟩:=eG ((Below.heap_alloc _ (.cells #[.int .i64 x.ty,.int .i64 x.cap] 103) _ (lt_of_block hX)).trans hX);refine bodyPost_ret (v:=dw 3 0 (k:Int)) (by simp[results,Tryz.results53,go_sem,g0,g1,g2]) rfl ?_;rw[HE.out.1,HE.out.2];exact⟨rfl,aR (aP (aP (aP HG.out (by omega) _ _) (by omega) _ _) (by omega) _ _) _⟩
     ·have d1:decide (x.cap<1)=false:=by simp;omega
      have d2:decide (20<x.cap)=true:=by simpa using hc
      go_wp2
      have hX:=nH jT.out (.int .i64 3) (.int .i64 0) (.int .i64 (k:Int));obtain⟨⟨g0,g1,g2⟩,_⟩:=eG ((Below.heap_alloc _ (.cells #[.int .i64 x.ty,.int .i64 x.cap] 103) _ (lt_of_block hX)).trans hX);refine bodyPost_ret (v:=dw 3 0 (k:Int)) (by simp[results,Tryz.results53,go_sem,g0,g1,g2]) rfl ?_;rw[HE.out.1,HE.out.2];exact⟨rfl,aR (aP (aP (aP HG.out (by omega) _ _) (by omega) _ _) (by omega) _ _) _⟩
    ·have d1:decide (x.cap<1)=false:=by simp;omega
     have d2:decide (20<x.cap)=false:=by simp;omega
     have HE:Hid ((er,num)=((Vf.cK Vf.jw (m.boxes.drop (k+1)) (k+1)).1,((Vf.cK Vf.jw (m.boxes.drop (k+1)) (k+1)).2:Int))):=by
      have h1:=HN.out;have ho:Vf.jw x=0:=by rw[uX.out,if_neg (by decide),if_neg hc]
      rw[ho,if_pos rfl] at h1;exact h1
     clear hc;go_wp2
     go_roundw
     case rel=>exact⟨k+1,by go_num,hlt,aR HA.out.grown _,HE.out⟩
     case measure=>simp[intOf];omega
  ·have HE:Hid (er=0∧num=0):=by
    have h1:=HA.out.rest;rw[List.drop_eq_nil_of_le (by omega)] at h1;cases h1;exact⟨rfl,rfl⟩
   go_wp2
   refine bodyPost_ret (v:=dw 0 0 0) (by simp[results,Tryz.results53,go_sem,z0,z1,z2]) rfl ?_;rw[HE.out.1,HE.out.2];exact⟨rfl,aP (aP (aP HG.out (by omega) _ _) (by omega) _ _) (by omega) _ _⟩
structure xZ (m:Vf.Md) (W0:World) (er:Int) (k:Nat) (W:World):Prop where
 le:k≤m.units.length
 grown:W0.grownBy W none
 rest:er=if (m.units.drop k).any (fun u=>u.kind==4) then 0 else 6
theorem AX (m:Vf.Md)(ab au:Option Addr)(cb cu B:Nat)(w:World)(hmd:Hid (aW B w m ab au))(hB:B≤w.heap.size)(er:Int)(hr:Hid (er=Vf.AV m)) :
  Calls Tryz.prog 55 #[eU m ab au cb cu] w fun e w'=>e=.returned (dw er 0 0)∧w.grownBy w' none:=by
 have dx:=hmd.out.few.2;obtain⟨W0,hW0⟩:∃ W0:World,(w.alloc (ig m ab au cb cu)).alloc dh=W0:=⟨_,rfl⟩;have HT:Hid (w.grownBy W0 none):=by rw[← hW0];exact fI _ _ _
 have su:Hid (W0.heap[w.heap.size+1]?=some dh):=by rw[← hW0];exact xU _ _ _
 have HW0:=hide hW0;clear hW0;go_enter Tryz.func55,Tryz.ntmps55
 go_wp2
 go_loopw [9] (fun v wr=>∃ k:Nat,v=.int .i64 k∧xZ m W0 er k wr) (fun v _=>m.units.length - (intOf v).toNat)
 case atStart=>exact⟨0,rfl,Nat.zero_le _,by rw[← HW0.out];exact World.grownBy.refl _ _,hr.out⟩
 case round =>
  obtain⟨k,rfl,hA⟩:=hrel;have HA:=hide hA;have hk:=hA.le;have HG:Hid (w.grownBy wr none):=bZ HT.out HA.out.grown;have hwz:wr.heap[w.heap.size+1]?=some dh:=(bY HA.out.grown (lt_of_block su.out)).trans su.out;obtain⟨⟨z0,z1,z2⟩,y0,y1,y2⟩:=eG hwz;have hzl:=lt_of_block hwz;have jT:=hide hwz;clear hA hwz;by_cases hlt:k<m.units.length
  ·obtain⟨u,hu⟩:∃ u,m.units[k]?=some u:=⟨_,List.getElem?_eq_getElem hlt⟩
   obtain⟨b,off,al,cl,ac,cc,ha,hb,gq,u0,u1,u2,u3,u4,u5⟩:=(hmd.out.low (gD HG.out hB)).units k u hu;have HN:Hid (er=if (u.kind==4 || (m.units.drop (k+1)).any (fun u=>u.kind==4)) then 0 else 6):=by
    unfold Hid;obtain⟨hk',hte⟩:=List.getElem?_eq_some_iff.1 hu;rw[HA.out.rest,List.drop_eq_getElem_cons hk',hte,List.any_cons]
   have mr:=hide ha;have hk1:(k:Int)<(m.units.length:Int):=by omega
   clear hu ha gq;rw[mr.out];cases e4:(u.kind==4) with
   | true =>
    have HE:Hid (er=0):=by rw[HN.out,e4];rfl
    go_wp2
    have hX:=nH jT.out (.int .i64 0) (.int .i64 0) (.int .i64 0);obtain⟨⟨g0,g1,g2⟩,_⟩:=eG ((Below.heap_alloc _ (aX u al ac cl cc) _ (lt_of_block hX)).trans hX);refine bodyPost_ret (v:=dw 0 0 0) (by simp[results,Tryz.results55,go_sem,g0,g1,g2]) rfl ?_;rw[HE.out];exact⟨rfl,aR (aP (aP (aP HG.out (by omega) _ _) (by omega) _ _) (by omega) _ _) _⟩
   | false =>
    have HE:Hid (er=if (m.units.drop (k+1)).any (fun u=>u.kind==4) then 0 else 6):=by rw[HN.out,e4];rfl
    go_wp2
    go_roundw
    case rel=>exact⟨k+1,by go_num,hlt,aR HA.out.grown _,HE.out⟩
    case measure=>simp[intOf];omega
  ·have HE:Hid (er=6):=by unfold Hid;rw[HA.out.rest,List.drop_eq_nil_of_le (by omega)];rfl
   go_wp2
   refine bodyPost_ret (v:=dw 6 0 0) (by simp[results,Tryz.results55,go_sem,z0,z1,z2]) rfl ?_;rw[HE.out];exact⟨rfl,aP (aP (aP HG.out (by omega) _ _) (by omega) _ _) (by omega) _ _⟩
end Go.Proofs.YtfcpglhpolpdcaaGreatDoor
