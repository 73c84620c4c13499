/- The walk of Comes,whatever is told. -/
import Derived.Test.YtifnmgfaohdkpaaGreatDoorM24
import Derived.Test.YtifnmgfaohdkpaaGreatDoorM26
import Derived.Deep.QuietTactic
import Derived.BigQuiet
import Derived.Test.YtifnmgfaohdkpaaGreatDoorM22
import Derived.Maps.RangeWalk
set_option maxRecDepth 100000
set_option maxHeartbeats 6000000
namespace Go.Proofs.YtifnmgfaohdkpaaGreatDoor
open Go.RowKit
theorem Y1 (m:Vf.Md)(ab au:Option Addr)(cb cu B n M:Nat)(g:FuncId)(af:Array Value)(I:List Lk→World→Prop)(w:World)(hmd:Hid (aY B w m ab au))(hB:B≤w.heap.size)(hR:Hid (Rt m))(hn:n < m.units.length)(GU:B≤M)(hM:M < w.heap.size)
  (hcf:∀ (vs:Array Value) (w:World),(callFunc g vs).run Tryz.prog w=.ok (.enter g vs) w) (hT:Hid (Gz g af w.heap.size M I)) (hI:Hid (I [] w)) :
  Calls Tryz.prog 75 #[eH m ab au cb cu,.int .i64 (n:Int),.func (.func g) #[] af] w fun e w'=>e=.returned (.tuple #[])∧w.grownBy w' (some M)∧∃ ts,I ts w'∧∀ q,q ∈ ts ↔ (q.1=26∨q.1=27)∧Vf.comes m n q=true:=by
 have hmm:∀ w:World,(Instr.makeMap 223 Option.none).run Tryz.prog w=.ok (.map (some w.heap.size)) (w.alloc (.map #[] 0)):=fun _=>rfl
 have hmu:m.units.length≤30:=hR.out.units
 obtain ⟨t0,t1,t2,_⟩:=zM w (wY m ab au cb cu) (.cells #[.int .i64 (n:Int)] 3 (0,0)) (.map #[] 0)
 have hM0:=iY.new ((w.alloc (wY m ab au cb cu)).alloc (.cells #[.int .i64 (n:Int)] 3 (0,0)))
 rw [World.size_alloc,World.size_alloc] at hM0
 obtain ⟨w1,hup,hM1,hg1⟩:=NN hM0 n 1
 have k1:∀ q,q < w.heap.size+1+1→w1.heap[q]?=(((w.alloc (wY m ab au cb cu)).alloc (.cells #[.int .i64 (n:Int)] 3 (0,0))).alloc (.map #[] 0)).heap[q]?:=fun q hq=>hg1.block q (by simp;omega) (by simp;omega)
 have HST:Hid (jH m ab au cb cu n M w I 0 0 (.slice (some ⟨w.heap.size+1,0,none⟩) 1 1) [n] [] (fun a=>if a=(n:Int) then 1 else 0) w1) :=
  ⟨Vf.fA.start hn,.inr ⟨w.heap.size+1,0,1,[.int .i64 (n:Int)],rfl,by omega,(k1 _ (by omega)).trans t2,by simp,by simp,fun i x hx=>by
   cases i with
   | zero=>simp at hx;subst hx;rfl
   | succ i=>simp at hx⟩,hM1,hT.out.keep _ _ _ hI.out (fun q hq=>(k1 q (by omega)).trans (t0.block q hq (by simp))),(k1 _ (by omega)).trans t1,tY (tZ (eZ _ _) t0) hg1 (.inl (by omega))⟩
 clear t0 t1 t2 hM0 hM1 hg1 k1
 go_enter Tryz.func75,Tryz.ntmps75
 go_wp2
 go_loopw [6,8] (fun v i wr=>∃ (k:Nat) (R:List Nat) (ts:List Lk) (f:Int→Int),i=.int .i64 k∧jH m ab au cb cu n M w I k 0 v R ts f wr) (fun _ i _=>31 - (intOf i).toNat)
 case atStart=>exact ⟨0,[n],[],_,rfl,HST.out⟩
 case round =>
  obtain ⟨k,R,ts,f,rfl,hA⟩:=hrel
  clear HST hup
  have HA:=hide hA
  obtain ⟨a,c,rfl⟩:=hA.row.form
  have hrl:=hA.wk.len
  have aeM:R.length≤30:=by omega
  clear hA
  by_cases hlt:k < R.length
  ·obtain ⟨x,hx⟩:∃ x,R[k]?=some x:=⟨_,List.getElem?_eq_getElem hlt⟩
   have hxu:x < m.units.length:=HA.out.wk.lt x (List.mem_of_getElem? hx)
   obtain ⟨u,hu⟩:∃ u,m.units[x]?=some u:=⟨_,List.getElem?_eq_getElem hxu⟩
   have Ow:aY B wr m ab au:=hmd.out.low (Gx HA.out.grown GU hB)
   obtain ⟨b,off,al,cl,ac,cc,ha,hb,gF,u0,u1,u2,u3,u4,u5⟩:=Ow.units x u hu
   have zQ:Hid (gP B w u al ac cl cc):=gF.low (fun q hq=>(Gx HA.out.grown GU hB q hq).symm)
   obtain ⟨g',GV,cap',hv,hgl,hc⟩:=HA.out.row.at hx
   cases hv
   obtain ⟨x0,x1⟩:=XW HA.out.md
   have bS:Hid (Vf.unit m (x:Int)=u):=lJ hu
   have hc4:u.code.length≤4000:=(jP (il (hR.out.heads x u hu).1).2.1).2.2.2.2.2
   have rf:Hid (Vf.Forms m u):=(hR.out.heads x u hu).2
   have HX:=hide hx
   have k1:(k:Int) < (R.length:Int):=by omega
   have x2:(x:Int) < (m.units.length:Int):=by omega
   subst ha
   clear hx hu Ow gF
   have hbw:b < wr.heap.size:=by have:=HA.out.grown.size;omega
   go_wp2_with fail
   go_quiet (fail)
   clear u0 u1 u2 u3 u4 u5 x0 x1 hc
   go_wp2
   go_loopw [6,32] (fun v i wi=>∃ (j:Nat) (R2:List Nat) (iE:List Lk) (f2:Int→Int),i=.int .i64 j∧j≤u.code.length∧R2[k]?=some x∧jH m ab (some ⟨b,off,none⟩) cb cu n M w I k j v R2 iE f2 wi) (fun _ i _=>u.code.length - (intOf i).toNat)
   case atStart=>exact ⟨0,R,ts,f,rfl,Nat.zero_le _,HX.out,⟨HA.out.wk,HA.out.row,HA.out.met,hT.out.keep _ _ _ HA.out.tell (fun _ _=>rfl),HA.out.md,⟨HA.out.grown.os,HA.out.grown.tape,HA.out.grown.output,HA.out.grown.size,HA.out.grown.block⟩⟩⟩
   case round =>
    clear HA HX
    obtain ⟨j,R2,iE,f2,rfl,hj,hx2,hA2⟩:=hrel
    have HA2:=hide hA2
    have dZ:=hide hx2
    obtain ⟨a2,c2,rfl⟩:=hA2.row.form
    have hrl2:R2.length≤30:=by have:=hA2.wk.len;omega
    have hgz:=hA2.grown.size
    have Nk:k < 30:=by have:=(List.getElem?_eq_some_iff.1 hx2).1;omega
    have hts:iE.length≤130000:=by have:=hA2.wk.few;omega
    clear hA2 hx2
    by_cases hjl:j < u.code.length
    ·obtain ⟨y,hy⟩:∃ y,u.code[j]?=some y:=⟨_,List.getElem?_eq_getElem hjl⟩
     have HY:Hid ((Vf.unit m (x:Int)).code[j]?=some y):=by rw [bS.out];exact hy
     obtain ⟨_,_,_,bc,oc,hac,hbc,i0,i1,i2⟩:=(zQ.out.low (Gx HA2.out.grown GU hB)).code j y hy
     have xk:Hid (Vf.bC m u y=0):=rf.out y (List.mem_of_getElem? hy)
     have H2:Hid (wr.grownBy (wr.alloc (aj y.op y.a y.n)) none):=aR (World.grownBy.refl _ _) _
     have HI2:Hid (I iE (wr.alloc (aj y.op y.a y.n))):=hT.out.keep _ _ _ HA2.out.tell (fun q hq=>Below.heap_alloc _ _ _ (by omega))
     have lZ:Hid (iY (wr.alloc (aj y.op y.a y.n)) (w.heap.size+1+1) f2):=HA2.out.met.keep (Below.heap_alloc _ _ _ HA2.out.met.lt)
     have hj1:(j:Int) < (u.code.length:Int):=by omega
     subst hac
     clear hy
     by_cases bQ:Vf.qi y
     ·have HO:=hide bQ
      rcases bQ with h | h
      ·have e26:(y.op == 26)=true:=by simpa using h
       clear h
       go_wp2_with fail
       refine (hT.out.call iE y.op y.a _ HI2.out hts).mono ?_
       rintro e w3 ⟨rfl,rH,hg3⟩
       have HN:Hid (jH m ab (some ⟨b,off,none⟩) cb cu n M w I k (j+1) (.slice a2 R2.length c2) R2 (iE ++ [(y.op,y.a)]) f2 w3) :=
        HA2.out.step (H2.out) hg3 (.inl rfl) hM (HA2.out.wk.Nw dZ.out HY.out HO.out) (lZ.out.keep (hg3.block _ (lZ.out.lt) (by simp;omega))) rH
       clear rH hg3
       go_wp2
       go_roundw
       case rel=>exact ⟨j+1,R2,_,f2,by go_num,hjl,dZ.out,HN.out⟩
       case measure=>simp [intOf];omega
      ·have e26:(y.op == 26)=false:=by simp;omega
       have e27:(y.op == 27)=true:=by simpa using h
       clear h
       go_wp2_with fail
       refine (hT.out.call iE y.op y.a _ HI2.out hts).mono ?_
       rintro e w3 ⟨rfl,rH,hg3⟩
       have HN:Hid (jH m ab (some ⟨b,off,none⟩) cb cu n M w I k (j+1) (.slice a2 R2.length c2) R2 (iE ++ [(y.op,y.a)]) f2 w3) :=
        HA2.out.step (H2.out) hg3 (.inl rfl) hM (HA2.out.wk.Nw dZ.out HY.out HO.out) (lZ.out.keep (hg3.block _ (lZ.out.lt) (by simp;omega))) rH
       clear rH hg3
       go_wp2
       go_roundw
       case rel=>exact ⟨j+1,R2,_,f2,by go_num,hjl,dZ.out,HN.out⟩
       case measure=>simp [intOf];omega
     ·have e26:(y.op == 26)=false:=by unfold Vf.qi at bQ;simp;omega
      have e27:(y.op == 27)=false:=by unfold Vf.qi at bQ;simp;omega
      by_cases h23:Vf.oO y
      ·have HO:=hide h23
       obtain ⟨ka,hka,oz⟩:∃ ka:Nat,y.a=ka∧ka < m.units.length:=by
        obtain ⟨kd,_,hi⟩:=Vf.Nr xk.out h23
        obtain ⟨z,h3,_,h4⟩:=ky hi
        exact ⟨y.a.toNat,by omega,(List.getElem?_eq_some_iff.1 h3).1⟩
       have xq:=hide hka
       have hl2:=NM lZ.out ka
       obtain ⟨w3,hup,mF,hg3⟩:=NN lZ.out ka (f2 ka+1)
       have hl3:=NM mF ka
       simp only [if_true] at hl3
       have hf0:=HA2.out.wk.met ka
       obtain ⟨n0,hn0⟩:∃ n0,n0=f2 ka:=⟨_,rfl⟩
       have rJ:=hide hn0
       rw [← hn0] at hl2 hup mF hl3 hf0
       have f0:0≤n0:=hf0.1
       have f1:n0≤200000:=by have:=hf0.2.1;omega
       have hi3:w3.heap[wr.heap.size]?=some (aj y.op y.a y.n):=(hg3.block _ (by simp) (by have:=HA2.out.met.lt;simp;omega)).trans (heap_alloc_new _ _)
       obtain ⟨s0,s1,s2⟩:=sI hi3
       rw [← xq.out] at hl2 hup
       rw [xq.out] at s1
       have aeN:wr.heap.size < w3.heap.size:=lt_of_block hi3
       clear hka hf0 bQ hi3 hn0
       rcases h23 with h | h
       ·have e23:(y.op == 23)=true:=by simpa using h
        clear h
        by_cases hin:ka ∈ R2
        ·have uj:Hid (jH m ab (some ⟨b,off,none⟩) cb cu n M w I k (j+1) (.slice a2 R2.length c2) R2 iE (fun q=>if q=(ka:Int) then n0+1 else f2 q) w3) :=
          HA2.out.step H2.out hg3 (.inr rfl) hM (by rw [rJ.out];exact HA2.out.wk.old dZ.out HY.out HO.out xq.out hin) mF (hT.out.keep _ _ _ HI2.out (fun q hq=>hg3.block q (by have:=HA2.out.grown.size;simp;omega) (by simp;omega)))
         have e1:(n0+1 == 1)=false:=by have:=((HA2.out.wk.met ka).2.2).2 hin;have h0:=rJ.out;simp;omega
         clear mF hg3 hin
         go_wp2
         go_roundw
         case rel=>exact ⟨j+1,R2,iE,_,by go_num,hjl,dZ.out,uj.out⟩
         case measure=>simp [intOf];omega
        ·have e1:(n0+1 == 1)=true:=by have:=HA2.out.wk.met ka;have h0:¬ 1≤f2 ka:=fun h=>hin (this.2.2.1 h);have h1:=rJ.out;simp;omega
         have wJ:=hide hin
         have rF:=hide mF
         have fe:=hide hg3
         have zR:Hid (QR w3 w.heap.size (.slice a2 R2.length c2) R2):=(HA2.out.row.alloc _).keep fun q hq=>hg3.block q ((HA2.out.row.alloc _).lt q hq).2 (by simp only [ne_eq,Option.some.injEq];intro e;obtain ⟨o,ho,hno⟩:=(lZ.out).obj;exact (HA2.out.row.alloc _).ty ho hno (e ▸ hq))
         have hz3:=hg3.size
         clear mF hg3 hin
         go_wp2_with (at_builtin;refine Gn rfl _ _ rfl w.heap.size _ R2 ka rfl (zR.out.alloc _) ⟨w3.heap.size,0,none⟩ rfl (Cn _ _ _) (by omega) (by have:=HA2.out.grown.size;simp at hz3 ⊢;omega) ?_;intro v' w4 hq4 hg4;have GX:=hide hq4;have lI:=hide hg4;clear hq4 hg4)
         have uj:Hid (jH m ab (some ⟨b,off,none⟩) cb cu n M w I k (j+1) v' (R2 ++ [ka]) iE (fun q=>if q=(ka:Int) then n0+1 else f2 q) w4) :=
          HA2.out.more hT.out (tZ (aX (Gw H2.out) fe.out) (aR (World.grownBy.refl _ _) _)) lI.out (zR.out.alloc _) (by rw [rJ.out];exact HA2.out.wk.new dZ.out HY.out HO.out xq.out oz wJ.out) (rF.out.keep (Below.heap_alloc _ _ _ rF.out.lt)) GX.out
         have tC:Hid ((R2 ++ [ka])[k]?=some x):=by unfold Hid;rw [List.getElem?_append_left (List.getElem?_eq_some_iff.1 dZ.out).1];exact dZ.out
         go_roundw
         case rel=>exact ⟨j+1,R2 ++ [ka],iE,_,by go_num,hjl,tC.out,uj.out⟩
         case measure=>simp [intOf];omega
       ·have e23:(y.op == 23)=false:=by simp;omega
        have e29:(y.op == 29)=true:=by simpa using h
        clear h
        by_cases hin:ka ∈ R2
        ·have uj:Hid (jH m ab (some ⟨b,off,none⟩) cb cu n M w I k (j+1) (.slice a2 R2.length c2) R2 iE (fun q=>if q=(ka:Int) then n0+1 else f2 q) w3) :=
          HA2.out.step H2.out hg3 (.inr rfl) hM (by rw [rJ.out];exact HA2.out.wk.old dZ.out HY.out HO.out xq.out hin) mF (hT.out.keep _ _ _ HI2.out (fun q hq=>hg3.block q (by have:=HA2.out.grown.size;simp;omega) (by simp;omega)))
         have e1:(n0+1 == 1)=false:=by have:=((HA2.out.wk.met ka).2.2).2 hin;have h0:=rJ.out;simp;omega
         clear mF hg3 hin
         go_wp2
         go_roundw
         case rel=>exact ⟨j+1,R2,iE,_,by go_num,hjl,dZ.out,uj.out⟩
         case measure=>simp [intOf];omega
        ·have e1:(n0+1 == 1)=true:=by have:=HA2.out.wk.met ka;have h0:¬ 1≤f2 ka:=fun h=>hin (this.2.2.1 h);have h1:=rJ.out;simp;omega
         have wJ:=hide hin
         have rF:=hide mF
         have fe:=hide hg3
         have zR:Hid (QR w3 w.heap.size (.slice a2 R2.length c2) R2):=(HA2.out.row.alloc _).keep fun q hq=>hg3.block q ((HA2.out.row.alloc _).lt q hq).2 (by simp only [ne_eq,Option.some.injEq];intro e;obtain ⟨o,ho,hno⟩:=(lZ.out).obj;exact (HA2.out.row.alloc _).ty ho hno (e ▸ hq))
         have hz3:=hg3.size
         clear mF hg3 hin
         go_wp2_with (at_builtin;refine Gn rfl _ _ rfl w.heap.size _ R2 ka rfl (zR.out.alloc _) ⟨w3.heap.size,0,none⟩ rfl (Cn _ _ _) (by omega) (by have:=HA2.out.grown.size;simp at hz3 ⊢;omega) ?_;intro v' w4 hq4 hg4;have GX:=hide hq4;have lI:=hide hg4;clear hq4 hg4)
         have uj:Hid (jH m ab (some ⟨b,off,none⟩) cb cu n M w I k (j+1) v' (R2 ++ [ka]) iE (fun q=>if q=(ka:Int) then n0+1 else f2 q) w4) :=
          HA2.out.more hT.out (tZ (aX (Gw H2.out) fe.out) (aR (World.grownBy.refl _ _) _)) lI.out (zR.out.alloc _) (by rw [rJ.out];exact HA2.out.wk.new dZ.out HY.out HO.out xq.out oz wJ.out) (rF.out.keep (Below.heap_alloc _ _ _ rF.out.lt)) GX.out
         have tC:Hid ((R2 ++ [ka])[k]?=some x):=by unfold Hid;rw [List.getElem?_append_left (List.getElem?_eq_some_iff.1 dZ.out).1];exact dZ.out
         go_roundw
         case rel=>exact ⟨j+1,R2 ++ [ka],iE,_,by go_num,hjl,tC.out,uj.out⟩
         case measure=>simp [intOf];omega
      ·have HN:Hid (jH m ab (some ⟨b,off,none⟩) cb cu n M w I k (j+1) (.slice a2 R2.length c2) R2 iE f2 (wr.alloc (aj y.op y.a y.n))) :=
        HA2.out.step H2.out (World.grownBy.refl _ (some M)) (.inl rfl) hM (HA2.out.wk.quiet dZ.out HY.out bQ h23) lZ.out HI2.out
       have e23:(y.op == 23)=false:=by unfold Vf.oO at h23;simp;omega
       have e29:(y.op == 29)=false:=by unfold Vf.oO at h23;simp;omega
       clear bQ h23
       go_wp2
       go_roundw
       case rel=>exact ⟨j+1,R2,iE,f2,by go_num,hjl,dZ.out,HN.out⟩
       case measure=>simp [intOf];omega
    ·have HN:Hid (jH m ab (some ⟨b,off,none⟩) cb cu n M w I (k+1) 0 (.slice a2 R2.length c2) R2 iE f2 wr) :=
      HA2.out.step (World.grownBy.refl _ none) (World.grownBy.refl _ (some M)) (.inl rfl) hM (HA2.out.wk.next dZ.out (by rw [bS.out];omega) (by omega)) HA2.out.met HA2.out.tell
     have hj1:¬ (j:Int) < (u.code.length:Int):=by omega
     go_wp2
     go_roundw
     case rel=>exact ⟨k+1,R2,iE,f2,by go_num,HN.out⟩
     case measure=>simp [intOf];omega
  ·have HE:Hid (∀ q,q ∈ ts ↔ (q.1=26∨q.1=27)∧Vf.comes m n q=true):=fun q=>HA.out.wk.all hR.out (by omega) q
   go_wp2
   go_end0
   exact ⟨rfl,HA.out.grown,ts,HA.out.tell,HE.out⟩
theorem Ox {l:LL}{e:MapEntry}(h:e ∈ bJ l 0):∃ i p,l[i]?=some p∧e={ key:=dL p.1,val:=.int .i64 p.2,born:=i }:=by
 obtain ⟨i,hi⟩:=List.getElem?_of_mem h
 rw [Cs] at hi
 obtain ⟨p,hp,rfl⟩:=Option.map_eq_some_iff.1 hi
 exact ⟨i,p,hp,by simp⟩
theorem Y2 (l:LL):((bJ l 0).map (·.born)).Nodup:=by
 have:∀ (l:LL) (i:Nat),(bJ l i).map (·.born)=List.range' i l.length:=by
  intro l
  induction l with
  | nil=>intro i;rfl
  | cons p r ih=>intro i;simp only [bJ,List.map_cons,ih,List.length_cons,List.range'_succ]
 rw [this]
 exact List.nodup_range'
abbrev uk (M:Nat) (G:LL) (seen:Array Nat):Obj:=.mapIter (some M) G.length seen G.length
theorem Y3 {w:World}{I M:Nat}{G:LL}{seen:Array Nat}(hI:w.heap[I]?=some (uk M G seen))(hM:dP w M G)(ty:TypeId) :
  ((∀ i,i < G.length→i ∈ seen.toList)∧(Instr.next (.pointer (some ⟨I,0,none⟩)) false ty).run Tryz.prog w=.ok (.tuple #[.bool false]) w) ∨
  ∃ i p w1,G[i]?=some p∧i ∉ seen.toList∧(Instr.next (.pointer (some ⟨I,0,none⟩)) false ty).run Tryz.prog w=.ok (.tuple #[.bool true,dL p.1,.int .i64 p.2]) w1∧w1.heap[I]?=some (uk M G (seen.push i))∧w.grownBy w1 (some I)∧w1.heap.size=w.heap.size∧(Instr.entry (.pointer (some ⟨I,0,none⟩))).run Tryz.prog w1=.ok (.tuple #[dL p.1,.int .i64 p.2]) w1:=by
 have Y4:M≠I:=fun e=>by
  subst e
  have:=hM
  unfold dP at this
  rw [hI] at this
  cases this
 rcases run_next_at (P:=Tryz.prog) w ty I M G.length G.length seen (bJ G 0).toArray G.length hI hM (fun x hx=>by
  obtain ⟨i,p,hp,rfl⟩:=Ox (by simpa using hx)
  exact (List.getElem?_eq_some_iff.1 hp).1) (Nat.le_refl _) with ⟨h0,hr⟩ | ⟨e,he,w1,hw1,hr⟩
 ·refine .inl ⟨fun i hi=>?_,hr⟩
  by_cases hs:i ∈ seen.toList
  ·exact hs
  ·exfalso
   have hx:(bJ G 0)[i]?=some { key:=dL G[i].1,val:=.int .i64 G[i].2,born:=0+i }:=by
    rw [Cs,List.getElem?_eq_getElem hi]
    rfl
   have hmem:({ key:=dL G[i].1,val:=.int .i64 G[i].2,born:=0+i }:MapEntry) ∈ leftOf (bJ G 0).toArray seen:=by
    unfold leftOf
    rw [Array.mem_filter]
    refine ⟨by simpa using List.mem_of_getElem? hx,?_⟩
    simp only [Nat.zero_add]
    simpa using hs
   have:=Array.size_pos_of_mem hmem
   omega
 ·have he':e ∈ leftOf (bJ G 0).toArray seen:=by simpa using he
  unfold leftOf at he'
  rw [Array.mem_filter] at he'
  obtain ⟨h1,h2⟩:=he'
  have h1':e ∈ bJ G 0:=by simpa using h1
  obtain ⟨i,p,hp,rfl⟩:=Ox h1'
  have hI1:w1.heap[I]?=some (uk M G seen):=by rcases hw1 with rfl | rfl <;> exact hI
  have hM1:dP w1 M G:=by rcases hw1 with rfl | rfl <;> exact hM
  have hsz:w1.heap.size=w.heap.size:=by rcases hw1 with rfl | rfl <;> rfl
  have hg1:w.grownBy w1 (some I):=by
   rcases hw1 with rfl | rfl
   ·exact eZ _ _
   ·exact iR (eZ _ _)
  obtain ⟨m1,m2⟩:=MapKept.heap_set (o':=uk M G (seen.push i)) hI1
  refine .inr ⟨i,p,_,hp,by simpa using h2,hr,m1,?_,?_,?_⟩
  ·exact aX hg1 ⟨rfl,rfl,rfl,by simp [Go.ChangeMaps.setBlock],fun k _ hne=>m2 k (fun e=>hne (by rw [e]))⟩
  ·simp [Go.ChangeMaps.setBlock,hsz]
  ·refine run_entry_at (P:=Tryz.prog) _ I M G.length seen (bJ G 0).toArray G.length { key:=dL p.1,val:=.int .i64 p.2,born:=i } m1 ?_ (by simpa using h1') (by simpa using Y2 G)
   exact (m2 M Y4).trans hM1
def um (G:LL)(seen:List Nat):Nat:=(List.range G.length).countP (fun i=>decide (i ∉ seen))
theorem Y5 {G:LL}{seen:List Nat}{i:Nat}(hi:i < G.length)(hs:i ∉ seen):um G (seen ++ [i])+1≤um G seen:=by
 refine Vf.Gg (fun x hx=>?_) (List.mem_range.2 hi) (by simpa using hs) (by simp)
 simp at hx ⊢
 exact hx.1
def GY (G:LL)(f:Lk→Int)(W0:World)(T M I gk:Nat)(W:World):Prop :=
 ∃ seen:Array Nat,W.heap[I]?=some (uk M G seen)∧dP W M G∧dF W T (fun q=>f q+told G seen.toList q)∧(∀ i ∈ seen.toList,i < G.length)∧um G seen.toList≤gk∧W0.grownBy W (some T)
def tz (m:Vf.Md)(q:Lk)(k:Nat):Int:=if q.1=26∨q.1=27 then (Vf.tc m q k:Int) else 0
structure Y6 (m:Vf.Md) (W0:World) (T k:Nat) (W:World):Prop where
 le:k≤m.units.length
 tk:dF W T (fun q=>tz m q k)
 grown:W0.grownBy W (some T)
theorem dF.bump {w:World}{T:Nat}{f:Lk→Int}(h:dF w T f)(k:Lk):∃ w1 w2 n,(Instr.lookup 175 (.map (some T)) (dL k) false).run Tryz.prog w=.ok (.int .i64 (f k)) w∧(Instr.mapEntry 175 (.map (some T)) (dL k)).run Tryz.prog w=.ok (.tuple #[.int .i64 (f k),goInt n]) w1∧(Instr.lookup 175 (.map (some T)) (dL k) false).run Tryz.prog w1=.ok (.int .i64 (f k)) w1 ∧
  (Instr.entryStore 175 (.map (some T)) (.int .i64 n) (.int .i64 (f k+1))).run Tryz.prog w1=.ok () w2∧dF w2 T (fun q=>f q+if q=k then 1 else 0)∧w.grownBy w1 (some T)∧w.grownBy w2 (some T):=by
 obtain ⟨l,h1,h2,h3⟩:=h
 obtain ⟨w1,w2,b1,b2,b3,b4,b5,b6⟩:=Xw h1 k
 have b0:=Gc h1 k
 rw [h3] at b0 b1 b2 b3
 refine ⟨w1,w2,_,b0,b1,b2,b3,⟨_,b4,h2.bump k,fun q=>?_⟩,b5,b6⟩
 show Vf.cnt q (Vf.bump k l)=f q+if q=k then 1 else 0
 rw [Vf.rA]
 by_cases e:q=k
 ·subst e
  rw [if_pos rfl,if_pos rfl,h3]
 ·rw [if_neg e,if_neg e,h3]
  omega
theorem Y7 {w:World}{M:Nat}{G:LL}(h:dP w M G):(Instr.range 175 (.map (some M))).run Tryz.prog w=.ok (.pointer (some ⟨w.heap.size,0,none⟩)) (w.alloc (uk M G #[])):=by
 have hg:(getObj M).run Tryz.prog w=.ok (.map (bJ G 0).toArray G.length) w:=MapKept.run_getObj_map h
 have hu:=run_underlying (P:=Tryz.prog) (w:=w) Tryz.underlying175
 simp [Instr.range,hu,hg]
theorem dF.look {w:World}{T:Nat}{f:Lk→Int}(h:dF w T f)(k:Lk):(Instr.lookup 175 (.map (some T)) (dL k) false).run Tryz.prog w=.ok (.int .i64 (f k)) w:=by
 obtain ⟨l,h1,h2,h3⟩:=h
 have b0:=Gc h1 k
 rw [h3] at b0
 exact b0
theorem zS {w:World}{T:Nat}{f g:Lk→Int}(h:dF w T f)(e:∀ q,f q=g q):dF w T g:=by
 obtain ⟨l,h1,h2,h3⟩:=h
 exact ⟨l,h1,h2,fun q=>(h3 q).trans (e q)⟩
theorem Oy (m:Vf.Md)(q:Lk)(k:Nat):0≤tz m q k∧tz m q k≤k:=by
 have:=Vf.XA m q k
 unfold tz
 split <;> omega
theorem dF.wl {w:World}{T:Nat}{f:Lk→Int}(h:dF w T f):∃ l,dP w T l∧Vf.Wl l∧∀ q,Vf.cnt q l=f q:=h
abbrev CO (M:Nat):Obj:=.cells #[.map (some M)] 175 (0,0)
def Mine (P M:Nat)(ts:List Lk)(w:World):Prop:=w.heap[P]?=some (CO M)∧dF w M (fun q=>(ts.count q:Int))
theorem Y8 (P M:Nat)(ts:List Lk)(op a:Int)(w:World)(hI:Hid (Mine P M ts w))(hl:ts.length≤130000) :
  Calls Tryz.prog 76 #[.int .i64 op,.int .i64 a,.pointer (some ⟨P,0,none⟩)] w fun e w'=>e=.returned (.tuple #[])∧Mine P M (ts ++ [(op,a)]) w'∧w.grownBy w' (some M):=by
 obtain ⟨hP,hT⟩:=hI.out
 have hT1:dF w.drew M (fun q=>(ts.count q:Int)):=hT
 obtain ⟨w3,w4,nn,b0,b1,b2,b3,b4,b5,b6⟩:=hT1.bump (op,a)
 have c0:w.cell? ⟨P,0,none⟩=some (.map (some M)):=by simp [World.cell?,hP]
 have Oz:P≠M:=by
  rintro rfl
  obtain ⟨l,h1,_⟩:=hT
  unfold dP at h1
  rw [h1] at hP
  cases hP
 have HE:Hid (Mine P M (ts ++ [(op,a)]) w4):=⟨((iH b6).block _ (lt_of_block hP) (by simpa using Oz)).trans hP,zS b4 (fun q=>by
  show (ts.count q:Int)+(if q=(op,a) then 1 else 0)=((ts ++ [(op,a)]).count q:Int)
  rw [List.count_append,List.count_singleton]
  by_cases e:q=(op,a)
  ·rw [if_pos e,e];simp
  ·rw [if_neg e,if_neg (by simpa using fun h=>e h.symm)];simp)⟩
 have HG:Hid (w.grownBy w4 (some M)):=iH b6
 obtain ⟨n0,hn0⟩:∃ n0:Int,n0=(ts.count (op,a):Int):=⟨_,rfl⟩
 have hn2:n0≤130000:=by have:=List.count_le_length (a:=(op,a)) (l:=ts);omega
 have hn1:0≤n0:=by omega
 rw [← hn0] at b0 b1 b2 b3
 have ew:IntKind.i64.wrap (n0+1)=n0+1:=by simp [IntKind.wrap,IntKind.bits,IntKind.signed];omega
 clear hP hT hT1 b4 b5 b6 Oz hn0
 go_enter Tryz.func76,Tryz.ntmps76
 go_wp2_with fail
 go_region
 all_goals
  go_wp2
  go_end0
  exact ⟨rfl,HE.out,HG.out⟩
theorem Y9 (m:Vf.Md)(ab au:Option Addr)(cb cu B:Nat)(w:World)(hmd:Hid (aY B w m ab au))(hB:B≤w.heap.size)(hR:Hid (Rt m))(hnb:m.boxes.length≤30)(er num:Int)(hr:Hid ((er,num)=((Vf.wW m).1,((Vf.wW m).2:Int)))) :
  Calls Tryz.prog 45 #[eH m ab au cb cu] w fun e w'=>e=.returned (di er 0 num)∧w.grownBy w' none:=by
 have hmm:∀ w:World,(Instr.makeMap 175 Option.none).run Tryz.prog w=.ok (.map (some w.heap.size)) (w.alloc (.map #[] 0)):=fun _=>rfl
 have hmu:m.units.length≤30:=hR.out.units
 obtain ⟨W0,hW0⟩:∃ W0:World,((w.alloc (gV m ab au cb cu)).alloc cO).alloc (.map #[] 0)=W0:=⟨_,rfl⟩
 obtain ⟨t0,t1,t2,t3⟩:=zM w (gV m ab au cb cu) cO (.map #[] 0)
 rw [hW0] at t0 t1 t2 t3
 have HT0:=hide t0
 have HT1:=hide t1
 have HT2:=hide t2
 have HT3:Hid (dF W0 (w.heap.size+1+1) (fun q=>tz m q 0)):=⟨[],t3,Vf.Wl.nil,fun q=>by show Vf.cnt q []=tz m q 0;unfold tz;split <;> rfl⟩
 have HW0:=hide hW0
 have aeO:w.heap.size+1+1 < W0.heap.size:=lt_of_block t3
 clear t0 t1 t2 t3 hW0
 go_enter Tryz.func45,Tryz.ntmps45
 go_wp2
 go_loopw [14] (fun v wr=>∃ k:Nat,v=.int .i64 k∧Y6 m W0 (w.heap.size+1+1) k wr) (fun v _=>m.units.length - (intOf v).toNat)
 case atStart=>exact ⟨0,rfl,Nat.zero_le _,by rw [HW0.out];exact HT3.out,by rw [HW0.out];exact eZ _ _⟩
 case round =>
  obtain ⟨k,rfl,hA⟩:=hrel
  have HA:=hide hA
  have hk:=hA.le
  have hgz:=hA.grown.size
  have hmb:wr.heap[w.heap.size]?=some (gV m ab au cb cu):=(HA.out.grown.block _ (lt_of_block HT1.out) (by simp;omega)).trans HT1.out
  have zP:=hide hmb
  have zN:Hid (wr.heap[w.heap.size+1]?=some cO):=(HA.out.grown.block _ (lt_of_block HT2.out) (by simp)).trans HT2.out
  have oM:Hid (aY B wr m ab au):=hmd.out.low (fun j hj=>(HA.out.grown.block j (by omega) (by simp;omega)).trans (bV HT0.out (by omega)))
  have OA:Hid (w.heap.size+1+1 < wr.heap.size):=HA.out.tk.lt
  have OB:=OA.out
  have hwz:w.heap.size < wr.heap.size:=by omega
  have aeP:w.heap.size+1 < wr.heap.size:=by omega
  obtain ⟨x0,x1⟩:=rG hmb
  clear hA hmb
  by_cases hlt:k < m.units.length
  ·obtain ⟨u,hu⟩:∃ u,m.units[k]?=some u:=⟨_,List.getElem?_eq_getElem hlt⟩
   obtain ⟨b,off,al,cl,ac,cc,ha,hb,gF,u0,u1,u2,u3,u4,u5⟩:=oM.out.units k u hu
   have hk1:(k:Int) < (m.units.length:Int):=by omega
   have HIS:Hid (Vf.is m 4 (k:Int)=(u.kind == 4)):=MV hu
   have lN:=hide ha
   have hbw:b < wr.heap.size:=by omega
   rw [ha] at x1
   clear hu gF ha
   rw [lN.out]
   by_cases h4:u.kind=4
   ·have e4:(u.kind != 4)=false:=by simp [h4]
    have Za:Hid (Vf.is m 4 (k:Int)=true):=by rw [HIS.out,h4];rfl
    obtain ⟨W1,hW1⟩:∃ W1:World,((wr.alloc (aW u al ac cl cc)).alloc (.map #[] 0)).alloc (CO (wr.heap.size+1))=W1:=⟨_,rfl⟩
    obtain ⟨hT1,_,hM1,hP1⟩:=zM wr (aW u al ac cl cc) (.map #[] 0) (CO (wr.heap.size+1))
    rw [hW1] at hT1 hM1 hP1
    have qV:Hid (aY B W1 m ab (some ⟨b,off,none⟩)):=by rw [← lN.out];exact oM.out.low (fM hT1 (by omega))
    have zT:=hide hT1
    have HI1:Hid (Mine (wr.heap.size+1+1) (wr.heap.size+1) [] W1):=⟨hP1,[],hM1,Vf.Wl.nil,fun q=>rfl⟩
    have HW1:=hide hW1
    have Zb:wr.heap.size+1+1 < W1.heap.size:=lt_of_block hP1
    have OC:(((wr.alloc (aW u al ac cl cc)).alloc (.map #[] 0)).alloc (CO (wr.heap.size+1))).heap[w.heap.size]?=some (gV m ab (some ⟨b,off,none⟩) cb cu):=by rw [HW1.out,← lN.out];exact (bV zT.out hwz).trans zP.out
    obtain ⟨y0,y1⟩:=rG OC
    have Zc:Hid (Gz 76 #[.pointer (some ⟨wr.heap.size+1+1,0,none⟩)] W1.heap.size (wr.heap.size+1) (Mine (wr.heap.size+1+1) (wr.heap.size+1))) :=
     ⟨fun ts w w' h k=>⟨(k _ Zb).trans h.1,h.2.keep (k _ (by omega))⟩,fun ts op a w h hl=>Y8 _ _ ts op a w h hl⟩
    clear h4 hW1 hT1 hM1 hP1 OC
    go_wp2_with fail
    rw [HW1.out]
    refine (Y1 m ab (some ⟨b,off,none⟩) cb cu B k (wr.heap.size+1) 76 #[.pointer (some ⟨wr.heap.size+1+1,0,none⟩)] _ _ qV (by omega) hR hlt (by omega) (by omega) (fun vs w'=>by first | rfl | kernel_rfl | simp [go_sem]) Zc HI1).mono ?_
    rintro e w2 ⟨rfl,hg2,ts,⟨hP2,G,hL2,OD,hcn⟩,hts⟩
    have OE:=hide OD
    have hrg:=Y7 hL2
    have c2:w2.cell? ⟨wr.heap.size+1+1,0,none⟩=some (.map (some (wr.heap.size+1))):=by simp [World.cell?,hP2]
    have OG:W0.grownBy w2 (some (w.heap.size+1+1)):=tY (tZ HA.out.grown zT.out) hg2 (.inl (by omega))
    have GZ:dF w2 (w.heap.size+1+1) (fun q=>tz m q k):=(HA.out.tk.keep (bV zT.out OB)).keep (hg2.block _ (by have:=zT.out.size;omega) (by simp;omega))
    have uo:Hid (GY G (fun q=>tz m q k) W0 (w.heap.size+1+1) (wr.heap.size+1) w2.heap.size (um G []) (w2.alloc (uk (wr.heap.size+1) G #[]))) :=
     ⟨#[],heap_alloc_new _ _,hL2.alloc _,zS (GZ.keep (Below.heap_alloc _ _ _ GZ.lt)) (fun q=>by simp [told]),fun i hi=>(by cases hi),Nat.le_refl _,tZ OG (aR (World.grownBy.refl _ _) _)⟩
    have aeQ:=zT.out.size
    have hz2:=hg2.size
    have hz3:W1.heap.size=wr.heap.size+1+1+1:=by rw [← HW1.out];simp
    have G5:Hid (∀ q,tz m q (k+1)=tz m q k+if (decide (1≤Vf.cnt q G))=true then 1 else 0):=fun q=>by
     have e:(decide (1≤Vf.cnt q G))=true ↔ (q.1=26∨q.1=27)∧Vf.comes m k q=true:=by
      have hc':Vf.cnt q G=(ts.count q:Int):=hcn q
      rw [← hts q,hc',decide_eq_true_iff,← List.count_pos_iff]
      omega
     unfold tz
     by_cases hq:q.1=26∨q.1=27
     ·have e3:decide (1≤Vf.cnt q G)=Vf.comes m k q:=by rw [Bool.eq_iff_iff,e];exact ⟨fun h=>h.2,fun h=>⟨hq,h⟩⟩
      rw [if_pos hq,if_pos hq,Vf.Nq,Za.out,e3]
      cases Vf.comes m k q <;> simp
     ·rw [if_neg hq,if_neg hq,if_neg (fun h=>hq (e.1 h).1)]
      rfl
    clear hL2 hg2 OG GZ OD hcn hts hP2 y0 y1 u0 u1 u2 u3 u4 u5 x0 x1
    generalize hIe:w2.heap.size=I at *
    generalize Zd:wr.heap.size=N at *
    have hIN:N+1 < I:=by omega
    have iC:Hid (w.heap.size+1+1 < N):=OB
    clear hIe Zd
    go_wp2_with fail
    go_loopg [] (um G []) (fun gk wr'=>GY G (fun q=>tz m q k) W0 (w.heap.size+1+1) (N+1) I gk wr')
    case atStart=>exact uo.out
    case round =>
     obtain ⟨seen,hI,hM,hT,hsl,hleft,hgW⟩:=hrel
     clear uo hrg
     rcases Y3 hI hM 0 with ⟨hall,hnx⟩ | ⟨i,p,w1,hp,hi,hnx,hI1,hg1,hz1,hen⟩
     ·have Ze:Hid (dF wr (w.heap.size+1+1) (fun q=>tz m q (k+1))):=zS hT (fun q=>by rw [XD OE.out hall hsl,G5.out])
      have Zf:=hide hgW
      clear hI hM hT hsl hleft hgW hall
      go_wp2
      go_roundw
      case rel=>exact ⟨k+1,by go_num,hlt,Ze.out,Zf.out⟩
      case measure=>simp [intOf];omega
     ·have hilt:i < G.length:=(List.getElem?_eq_some_iff.1 hp).1
      have hTI:w.heap.size+1+1≠I:=by omega
      have hT1:dF w1 (w.heap.size+1+1) (fun q=>tz m q k+told G seen.toList q):=hT.keep (hg1.block _ hT.lt (by simp;omega))
      have hM1:dP w1 (N+1) G:=hM.keep (hg1.block _ hM.lt (by simp;omega))
      obtain ⟨W5,gJ⟩:∃ W5:World,w1.alloc (Gy p.1)=W5:=⟨_,rfl⟩
      have OH:dF W5.drew (w.heap.size+1+1) (fun q=>tz m q k+told G seen.toList q):=by rw [← gJ];exact hT1.keep (Below.heap_alloc _ _ _ hT1.lt)
      obtain ⟨w3,w4,nn,b0,b1,b2,b3,b4,b5,b6⟩:=OH.bump p.1
      have hk5:W5.heap[w1.heap.size]?=some (Gy p.1):=by rw [← gJ];exact heap_alloc_new _ _
      obtain ⟨q0,q1⟩:=XV hk5
      obtain ⟨n0,hn0⟩:∃ n0:Int,n0=tz m p.1 k+told G seen.toList p.1:=⟨_,rfl⟩
      have hn1:0≤n0:=by have:=Oy m p.1 k;rw [hn0];unfold told;split <;> omega
      have hn2:n0≤31:=by have:=Oy m p.1 k;rw [hn0];unfold told;split <;> omega
      have ew:IntKind.i64.wrap (n0+1)=n0+1:=by simp [IntKind.wrap,IntKind.bits,IntKind.signed];omega
      rw [← hn0] at b0 b1 b2 b3
      have hg5:w1.grownBy w4 (some (w.heap.size+1+1)):=by
       have h5:w1.grownBy W5 none:=by rw [← gJ];exact aR (World.grownBy.refl _ _) _
       exact aX (Gw h5) (iH b6)
      have uq:Hid (GY G (fun q=>tz m q k) W0 (w.heap.size+1+1) (N+1) I (um G (seen.toList ++ [i])) w4):=by
       refine ⟨seen.push i,(hg5.block _ (lt_of_block hI1) (by simp;omega)).trans hI1,hM1.keep (hg5.block _ hM1.lt (by simp;omega)),zS b4 (fun q=>?_),fun x hx=>?_,by rw [Array.toList_push];exact Nat.le_refl _,tY (tY hgW hg1 (.inl (by omega))) hg5 (.inr rfl)⟩
       ·rw [Array.toList_push,XC OE.out hp hi q]
        show (tz m q k+told G seen.toList q)+(if q=p.1 then 1 else 0)=tz m q k+(told G seen.toList q+if q=p.1 then 1 else 0)
        omega
       ·rw [Array.toList_push] at hx
        rcases List.mem_append.1 hx with h | h
        ·exact hsl x h
        ·simp at h;omega
      have Zg:=hide (Y5 hilt hi)
      have Lu:=hide hleft
      have jD:=hide gJ
      clear hI hM hT hsl hleft hgW hI1 hg1 hz1 hT1 hM1 OH hk5 hn0 b4 b5 b6 gJ hg5 hp hi
      go_wp2_with fail
      rw [jD.out]
      go_region
      all_goals
       go_wp2
       go_roundg (um G (seen.toList ++ [i]))
       case measure=>have h1:=Zg.out;have h2:=Lu.out;omega
       case rel=>exact uq.out
   ·have e4:(u.kind != 4)=true:=by simpa using h4
    have G5:Hid (∀ q,tz m q (k+1)=tz m q k):=fun q=>by unfold tz;rw [Vf.Nq,HIS.out];simp [h4]
    clear h4
    go_wp2
    go_roundw
    case rel=>exact ⟨k+1,by go_num,hlt,zS (HA.out.tk.keep (Below.heap_alloc _ _ _ OA.out)) (fun q=>by rw [G5.out]),tZ HA.out.grown (aR (World.grownBy.refl _ _) _)⟩
    case measure=>simp [intOf];omega
  ·obtain rfl:k=m.units.length:=by omega
   have gm:=hide HA.out.tk
   have zU:=hide HA.out.grown
   obtain ⟨⟨z0,z1,z2⟩,y0,y1,y2⟩:=dQ zN.out
   have HG:Hid (w.grownBy wr none):=⟨zU.out.os.trans HT0.out.os,zU.out.tape.trans HT0.out.tape,zU.out.output.trans HT0.out.output,Nat.le_trans HT0.out.size zU.out.size,fun j hj _=>(zU.out.block j (by have:=HT0.out.size;omega) (by simp;omega)).trans (HT0.out.block j hj (by simp))⟩
   clear HA
   go_wp2
   go_loopw [45] (fun v wr'=>∃ n:Nat,v=.int .i64 n∧n≤m.boxes.length∧wr'=wr∧Hid ((er,num)=((Vf.bZ (Vf.kZ m) ((List.range m.boxes.length).drop n) n).1,((Vf.bZ (Vf.kZ m) ((List.range m.boxes.length).drop n) n).2:Int)))) (fun v _=>m.boxes.length - (intOf v).toNat)
   case atStart=>exact ⟨0,rfl,Nat.zero_le _,rfl,hr.out⟩
   case round =>
    obtain ⟨n,rfl,hnl,G6,HF⟩:=hrel
    subst G6
    by_cases hn:n < m.boxes.length
    ·have hx:(List.range m.boxes.length)[n]?=some n:=by rw [List.getElem?_range hn]
     have cB:Hid ((er,num)=if Vf.kZ m n=0 then ((Vf.bZ (Vf.kZ m) ((List.range m.boxes.length).drop (n+1)) (n+1)).1,((Vf.bZ (Vf.kZ m) ((List.range m.boxes.length).drop (n+1)) (n+1)).2:Int)) else (Vf.kZ m n,(n:Int))):=by
      unfold Hid
      rw [HF.out,GL _ hx]
      split <;> rfl
     have Zh:_=Result.ok (Value.int .i64 (Vf.tc m (26,(n:Int)) m.units.length:Int)) _:=gm.out.look (26,(n:Int))
     have Zi:_=Result.ok (Value.int .i64 (Vf.tc m (27,(n:Int)) m.units.length:Int)) _:=gm.out.look (27,(n:Int))
     obtain ⟨a26,G7⟩:∃ a:Nat,a=Vf.tc m (26,(n:Int)) m.units.length:=⟨_,rfl⟩
     obtain ⟨a27,G8⟩:∃ a:Nat,a=Vf.tc m (27,(n:Int)) m.units.length:=⟨_,rfl⟩
     rw [← G7] at Zh
     rw [← G8] at Zi
     have uu:Hid (Vf.kZ m n=if 1 < a26∨1 < a27 then 8 else 0):=by unfold Hid;unfold Vf.kZ;rw [G7,G8]
     clear hx G7 G8 HF
     by_cases bQ:1 < a26
     ·have d1:decide (1 < a26)=true:=by simpa using bQ
      have HE:Hid (er=8∧num=(n:Int)):=by
       have h1:=cB.out
       have ho:Vf.kZ m n=8:=by rw [uu.out,if_pos (Or.inl bQ)]
       rw [ho,if_neg (by decide)] at h1
       cases h1
       exact ⟨rfl,rfl⟩
      go_wp2
      refine bodyPost_ret (v:=di 8 0 (n:Int)) (by simp [results,Tryz.results45,go_sem,z0,z1,z2]) rfl ?_
      rw [HE.out.1,HE.out.2]
      exact ⟨rfl,aP (aP (aP HG.out (by omega) _ _) (by omega) _ _) (by omega) _ _⟩
     ·have d1:decide (1 < a26)=false:=by simpa using bQ
      by_cases h27:1 < a27
      ·have d2:decide (1 < a27)=true:=by simpa using h27
       have HE:Hid (er=8∧num=(n:Int)):=by
        have h1:=cB.out
        have ho:Vf.kZ m n=8:=by rw [uu.out,if_pos (Or.inr h27)]
        rw [ho,if_neg (by decide)] at h1
        cases h1
        exact ⟨rfl,rfl⟩
       go_wp2
       refine bodyPost_ret (v:=di 8 0 (n:Int)) (by simp [results,Tryz.results45,go_sem,z0,z1,z2]) rfl ?_
       rw [HE.out.1,HE.out.2]
       exact ⟨rfl,aP (aP (aP HG.out (by omega) _ _) (by omega) _ _) (by omega) _ _⟩
      ·have d2:decide (1 < a27)=false:=by simpa using h27
       have HE:Hid ((er,num)=((Vf.bZ (Vf.kZ m) ((List.range m.boxes.length).drop (n+1)) (n+1)).1,((Vf.bZ (Vf.kZ m) ((List.range m.boxes.length).drop (n+1)) (n+1)).2:Int))):=by
        have h1:=cB.out
        have ho:Vf.kZ m n=0:=by rw [uu.out,if_neg (by rintro (h | h);exact bQ h;exact h27 h)]
        rw [ho,if_pos rfl] at h1
        exact h1
       go_wp2
       go_roundw
       case rel=>exact ⟨n+1,by go_num,hn,trivial,HE⟩
       case measure=>simp [intOf];omega
    ·have HE:Hid (er=0∧num=0):=by
      have h1:=HF.out
      rw [List.drop_eq_nil_of_le (by simp;omega)] at h1
      cases h1
      exact ⟨rfl,rfl⟩
     go_wp2
     refine bodyPost_ret (v:=di 0 0 0) (by simp [results,Tryz.results45,go_sem,z0,z1,z2]) rfl ?_
     rw [HE.out.1,HE.out.2]
     exact ⟨rfl,aP (aP (aP HG.out (by omega) _ _) (by omega) _ _) (by omega) _ _⟩
namespace Vf
def qp (m:Md):Int:=if 30 < m.boxes.length∨30 < m.units.length then 5 else 0
def iZ (b:Bx):Int:=if plain b.ty=false then 9 else if b.cap < 1∨20 < b.cap then 3 else 0
def xu (m:Md):Int × Nat:=bZ iZ m.boxes 0
def zV (m:Md):Int:=if m.units.any (fun u=>u.kind == 4) then 0 else 6
end Vf
theorem Zj (m:Vf.Md)(ab au:Option Addr)(cb cu:Nat)(w:World)(er:Int)(hr:Hid (er=Vf.qp m)) :
  Calls Tryz.prog 40 #[eH m ab au cb cu] w fun e w'=>e=.returned (di er 0 0)∧w.grownBy w' none:=by
 go_enter Tryz.func40,Tryz.ntmps40
 go_wp2
 all_goals
  first
  | (refine bodyPost_ret (v:=di 5 0 0) (by simp [results,Tryz.results40,go_sem]) rfl ?_;have HE:er=5:=(by rw [hr.out,Vf.qp,if_pos (by omega)]);rw [HE];exact ⟨rfl,eY _ _ _⟩)
  | (refine bodyPost_ret (v:=di 0 0 0) (by simp [results,Tryz.results40,go_sem]) rfl ?_;have HE:er=0:=(by rw [hr.out,Vf.qp,if_neg (by omega)]);rw [HE];exact ⟨rfl,eY _ _ _⟩)
structure Zk (m:Vf.Md) (W0:World) (er num:Int) (k:Nat) (W:World):Prop where
 le:k≤m.boxes.length
 grown:W0.grownBy W none
 rest:(er,num)=((Vf.bZ Vf.iZ (m.boxes.drop k) k).1,((Vf.bZ Vf.iZ (m.boxes.drop k) k).2:Int))
theorem Zl (m:Vf.Md)(ab au:Option Addr)(cb cu B:Nat)(w:World)(hmd:Hid (aY B w m ab au))(hB:B≤w.heap.size)(er num:Int)(hr:Hid ((er,num)=((Vf.xu m).1,((Vf.xu m).2:Int)))) :
  Calls Tryz.prog 41 #[eH m ab au cb cu] w fun e w'=>e=.returned (di er 0 num)∧w.grownBy w' none:=by
 have dW:=hmd.out.few.1
 obtain ⟨W0,hW0⟩:∃ W0:World,(w.alloc (gV m ab au cb cu)).alloc cO=W0:=⟨_,rfl⟩
 have HT:Hid (w.grownBy W0 none):=by rw [← hW0];exact eY _ _ _
 have rM:Hid (W0.heap[w.heap.size+1]?=some cO):=by rw [← hW0];exact xn _ _ _
 have HW0:=hide hW0
 clear hW0
 go_enter Tryz.func41,Tryz.ntmps41
 go_wp2
 go_loopw [9] (fun v wr=>∃ k:Nat,v=.int .i64 k∧Zk m W0 er num k wr) (fun v _=>m.boxes.length - (intOf v).toNat)
 case atStart=>exact ⟨0,rfl,Nat.zero_le _,by rw [← HW0.out];exact World.grownBy.refl _ _,hr.out⟩
 case round =>
  obtain ⟨k,rfl,hA⟩:=hrel
  have HA:=hide hA
  have hk:=hA.le
  have HG:Hid (w.grownBy wr none):=bW HT.out HA.out.grown
  have hwz:wr.heap[w.heap.size+1]?=some cO:=(bV HA.out.grown (lt_of_block rM.out)).trans rM.out
  obtain ⟨⟨z0,z1,z2⟩,y0,y1,y2⟩:=dQ hwz
  have hzl:=lt_of_block hwz
  have jJ:=hide hwz
  clear hA hwz
  by_cases hlt:k < m.boxes.length
  ·obtain ⟨x,hx⟩:∃ x,m.boxes[k]?=some x:=⟨_,List.getElem?_eq_getElem hlt⟩
   obtain ⟨i1,i2,b,off,ha,hb,b0,b1⟩:=(hmd.out.low (fM HG.out hB)).boxes k x hx
   have HN:Hid ((er,num)=if Vf.iZ x=0 then ((Vf.bZ Vf.iZ (m.boxes.drop (k+1)) (k+1)).1,((Vf.bZ Vf.iZ (m.boxes.drop (k+1)) (k+1)).2:Int)) else (Vf.iZ x,(k:Int))):=by
    unfold Hid
    rw [HA.out.rest,GL _ hx]
    split <;> rfl
   have Zm:=hide ha
   obtain ⟨p,hp⟩:∃ p,p=Vf.plain x.ty:=⟨_,rfl⟩
   have HP:=hide hp
   have uu:Hid (Vf.iZ x=if p=false then 9 else if x.cap < 1∨20 < x.cap then 3 else 0):=by unfold Hid;unfold Vf.iZ;rw [hp]
   have hk1:(k:Int) < (m.boxes.length:Int):=by omega
   clear hx ha hp
   rw [Zm.out]
   go_wp2_with fail
   refine (kW x.ty _ p HP).mono ?_
   rintro e w2 ⟨rfl,hw2⟩
   subst hw2
   cases p with
   | false =>
    have HE:Hid (er=9∧num=(k:Int)):=by
     have h1:=HN.out
     have ho:Vf.iZ x=9:=uu.out
     rw [ho,if_neg (by decide)] at h1
     cases h1
     exact ⟨rfl,rfl⟩
    go_wp2
    have hX:=mR jJ.out (.int .i64 9) (.int .i64 0) (.int .i64 (k:Int))
    obtain ⟨⟨g0,g1,g2⟩,_⟩:=dQ ((Below.heap_alloc _ (.cells #[.int .i64 x.ty,.int .i64 x.cap] 68) _ (lt_of_block hX)).trans hX)
    refine bodyPost_ret (v:=di 9 0 (k:Int)) (by simp [results,Tryz.results41,go_sem,g0,g1,g2]) rfl ?_
    rw [HE.out.1,HE.out.2]
    exact ⟨rfl,aR (aP (aP (aP HG.out (by omega) _ _) (by omega) _ _) (by omega) _ _) _⟩
   | true =>
    by_cases hc:x.cap < 1∨20 < x.cap
    ·have HE:Hid (er=3∧num=(k:Int)):=by
      have h1:=HN.out
      have ho:Vf.iZ x=3:=by rw [uu.out,if_neg (by decide),if_pos hc]
      rw [ho,if_neg (by decide)] at h1
      cases h1
      exact ⟨rfl,rfl⟩
     rcases hc with hc | hc
     ·have d1:decide (x.cap < 1)=true:=by simpa using hc
      go_wp2
      have hX:=mR jJ.out (.int .i64 3) (.int .i64 0) (.int .i64 (k:Int))
      obtain ⟨⟨g0,g1,g2⟩,_⟩:=dQ ((Below.heap_alloc _ (.cells #[.int .i64 x.ty,.int .i64 x.cap] 68) _ (lt_of_block hX)).trans hX)
      refine bodyPost_ret (v:=di 3 0 (k:Int)) (by simp [results,Tryz.results41,go_sem,g0,g1,g2]) rfl ?_
      rw [HE.out.1,HE.out.2]
      exact ⟨rfl,aR (aP (aP (aP HG.out (by omega) _ _) (by omega) _ _) (by omega) _ _) _⟩
     ·have d1:decide (x.cap < 1)=false:=by simp;omega
      have d2:decide (20 < x.cap)=true:=by simpa using hc
      go_wp2
      have hX:=mR jJ.out (.int .i64 3) (.int .i64 0) (.int .i64 (k:Int))
      obtain ⟨⟨g0,g1,g2⟩,_⟩:=dQ ((Below.heap_alloc _ (.cells #[.int .i64 x.ty,.int .i64 x.cap] 68) _ (lt_of_block hX)).trans hX)
      refine bodyPost_ret (v:=di 3 0 (k:Int)) (by simp [results,Tryz.results41,go_sem,g0,g1,g2]) rfl ?_
      rw [HE.out.1,HE.out.2]
      exact ⟨rfl,aR (aP (aP (aP HG.out (by omega) _ _) (by omega) _ _) (by omega) _ _) _⟩
    ·have d1:decide (x.cap < 1)=false:=by simp;omega
     have d2:decide (20 < x.cap)=false:=by simp;omega
     have HE:Hid ((er,num)=((Vf.bZ Vf.iZ (m.boxes.drop (k+1)) (k+1)).1,((Vf.bZ Vf.iZ (m.boxes.drop (k+1)) (k+1)).2:Int))):=by
      have h1:=HN.out
      have ho:Vf.iZ x=0:=by rw [uu.out,if_neg (by decide),if_neg hc]
      rw [ho,if_pos rfl] at h1
      exact h1
     clear hc
     go_wp2
     go_roundw
     case rel=>exact ⟨k+1,by go_num,hlt,aR HA.out.grown _,HE.out⟩
     case measure=>simp [intOf];omega
  ·have HE:Hid (er=0∧num=0):=by
    have h1:=HA.out.rest
    rw [List.drop_eq_nil_of_le (by omega)] at h1
    cases h1
    exact ⟨rfl,rfl⟩
   go_wp2
   refine bodyPost_ret (v:=di 0 0 0) (by simp [results,Tryz.results41,go_sem,z0,z1,z2]) rfl ?_
   rw [HE.out.1,HE.out.2]
   exact ⟨rfl,aP (aP (aP HG.out (by omega) _ _) (by omega) _ _) (by omega) _ _⟩
structure xw (m:Vf.Md) (W0:World) (er:Int) (k:Nat) (W:World):Prop where
 le:k≤m.units.length
 grown:W0.grownBy W none
 rest:er=if (m.units.drop k).any (fun u=>u.kind == 4) then 0 else 6
theorem G9 (m:Vf.Md)(ab au:Option Addr)(cb cu B:Nat)(w:World)(hmd:Hid (aY B w m ab au))(hB:B≤w.heap.size)(er:Int)(hr:Hid (er=Vf.zV m)) :
  Calls Tryz.prog 43 #[eH m ab au cb cu] w fun e w'=>e=.returned (di er 0 0)∧w.grownBy w' none:=by
 have dW:=hmd.out.few.2
 obtain ⟨W0,hW0⟩:∃ W0:World,(w.alloc (gV m ab au cb cu)).alloc cO=W0:=⟨_,rfl⟩
 have HT:Hid (w.grownBy W0 none):=by rw [← hW0];exact eY _ _ _
 have rM:Hid (W0.heap[w.heap.size+1]?=some cO):=by rw [← hW0];exact xn _ _ _
 have HW0:=hide hW0
 clear hW0
 go_enter Tryz.func43,Tryz.ntmps43
 go_wp2
 go_loopw [9] (fun v wr=>∃ k:Nat,v=.int .i64 k∧xw m W0 er k wr) (fun v _=>m.units.length - (intOf v).toNat)
 case atStart=>exact ⟨0,rfl,Nat.zero_le _,by rw [← HW0.out];exact World.grownBy.refl _ _,hr.out⟩
 case round =>
  obtain ⟨k,rfl,hA⟩:=hrel
  have HA:=hide hA
  have hk:=hA.le
  have HG:Hid (w.grownBy wr none):=bW HT.out HA.out.grown
  have hwz:wr.heap[w.heap.size+1]?=some cO:=(bV HA.out.grown (lt_of_block rM.out)).trans rM.out
  obtain ⟨⟨z0,z1,z2⟩,y0,y1,y2⟩:=dQ hwz
  have hzl:=lt_of_block hwz
  have jJ:=hide hwz
  clear hA hwz
  by_cases hlt:k < m.units.length
  ·obtain ⟨u,hu⟩:∃ u,m.units[k]?=some u:=⟨_,List.getElem?_eq_getElem hlt⟩
   obtain ⟨b,off,al,cl,ac,cc,ha,hb,gF,u0,u1,u2,u3,u4,u5⟩:=(hmd.out.low (fM HG.out hB)).units k u hu
   have HN:Hid (er=if (u.kind == 4 || (m.units.drop (k+1)).any (fun u=>u.kind == 4)) then 0 else 6):=by
    unfold Hid
    obtain ⟨hk',hte⟩:=List.getElem?_eq_some_iff.1 hu
    rw [HA.out.rest,List.drop_eq_getElem_cons hk',hte,List.any_cons]
   have lN:=hide ha
   have hk1:(k:Int) < (m.units.length:Int):=by omega
   clear hu ha gF
   rw [lN.out]
   cases e4:(u.kind == 4) with
   | true =>
    have HE:Hid (er=0):=by rw [HN.out,e4];rfl
    go_wp2
    have hX:=mR jJ.out (.int .i64 0) (.int .i64 0) (.int .i64 0)
    obtain ⟨⟨g0,g1,g2⟩,_⟩:=dQ ((Below.heap_alloc _ (aW u al ac cl cc) _ (lt_of_block hX)).trans hX)
    refine bodyPost_ret (v:=di 0 0 0) (by simp [results,Tryz.results43,go_sem,g0,g1,g2]) rfl ?_
    rw [HE.out]
    exact ⟨rfl,aR (aP (aP (aP HG.out (by omega) _ _) (by omega) _ _) (by omega) _ _) _⟩
   | false =>
    have HE:Hid (er=if (m.units.drop (k+1)).any (fun u=>u.kind == 4) then 0 else 6):=by rw [HN.out,e4];rfl
    go_wp2
    go_roundw
    case rel=>exact ⟨k+1,by go_num,hlt,aR HA.out.grown _,HE.out⟩
    case measure=>simp [intOf];omega
  ·have HE:Hid (er=6):=by unfold Hid;rw [HA.out.rest,List.drop_eq_nil_of_le (by omega)];rfl
   go_wp2
   refine bodyPost_ret (v:=di 6 0 0) (by simp [results,Tryz.results43,go_sem,z0,z1,z2]) rfl ?_
   rw [HE.out]
   exact ⟨rfl,aP (aP (aP HG.out (by omega) _ _) (by omega) _ _) (by omega) _ _⟩
end Go.Proofs.YtifnmgfaohdkpaaGreatDoor
