/- Maps of what is done with boxes and units: how they lie,and what a doing more makes of them. -/
import Derived.Test.YtbdpdjcdhclbfaaGreatM11
import Derived.MapKept
import Derived.Maps.RangeRun
import Derived.Test.YtbdpdjcdhclbfaaGreatM3
namespace Go.Proofs.YtbdpdjcdhclbfaaGreat
open Go.RowKit
abbrev Lk:Type:=Int × Int
abbrev LL:Type:=List (Lk × Int)
namespace Vf
def idx (k:Lk):LL→Nat
 | []=>0
 | p :: r=>if k=p.1 then 0 else idx k r+1
def cnt (k:Lk)(l:LL):Int:=((l[idx k l]?).map (·.2)).getD 0
def wO (k:Lk)(l:LL):LL:=if idx k l<l.length then l else l++[(k,0)]
def wY (j:Nat)(v:Int)(l:LL):LL:=l.modify j (fun p=>(p.1,v))
def bump (k:Lk)(l:LL):LL:=wY (idx k l) (cnt k l+1) (wO k l)
theorem JH (k:Lk):∀ l:LL,idx k l≤l.length
 | []=>Nat.le_refl _
 | p :: r=>by
  unfold idx;split
  ·exact Nat.zero_le _
  ·have:=JH k r;simp;omega
theorem D8 {k:Lk}:∀ {l:LL},idx k l<l.length→∃ v,l[idx k l]?=some (k,v)
 | [],h=>by simp at h
 | p :: r,h=>by
  unfold idx at h ⊢;split
  ·rename_i hk
   exact⟨p.2,by rw[hk];rfl⟩
  ·rename_i hk
   rw[if_neg hk] at h;obtain⟨v,hv⟩:=D8 (k:=k) (l:=r) (by simp at h;omega);exact⟨v,by simpa using hv⟩
theorem Qk {k:Lk}{v:Int}:∀ {l:LL},¬ idx k l<l.length→idx k (l++[(k,v)])=l.length
 | [],_=>by simp[idx]
 | p :: r,h=>by
  unfold idx at h;by_cases hk:k=p.1
  ·rw[if_pos hk] at h;simp at h
  ·rw[if_neg hk] at h
   have:=Qk (k:=k) (v:=v) (l:=r) (by simp at h;omega);show (if k=p.1 then 0 else idx k (r++[(k,v)])+1)=_
   rw[if_neg hk,this];rfl
theorem LP (k:Lk)(l:LL):idx k (wO k l)=idx k l∧idx k l<(wO k l).length∧(wO k l)[idx k l]?=some (k,cnt k l):=by
 unfold wO;by_cases h:idx k l<l.length
 ·rw[if_pos h]
  obtain⟨v,hv⟩:=D8 h;exact⟨rfl,h,by unfold cnt;rw[hv];rfl⟩
 ·rw[if_neg h]
  have e:idx k l=l.length:=by have:=JH k l;omega
  refine⟨(Qk h).trans e.symm,by simp;omega,?_⟩;unfold cnt;rw[e];simp
end Vf
abbrev sZ (k:Lk):Value:=.agg #[.int .i64 k.1,.int .i64 k.2]
def kW:LL→Nat→List MapEntry
 | [],_=>[]
 | p :: r,i=>{ key:=sZ p.1,val:=.int .i64 p.2,born:=i } :: kW r (i+1)
theorem JI:∀ (l:LL) (i j:Nat),(kW l i)[j]?=(l[j]?).map (fun p=>{ key:=sZ p.1,val:=.int .i64 p.2,born:=i+j })
 | [],_,_=>by simp[kW]
 | p :: r,i,0=>by simp[kW]
 | p :: r,i,j+1=>by
  have:=JI r (i+1) j;simp only[kW,List.getElem?_cons_succ];rw[this];congr 2
  funext p
  congr 1
  omega
theorem Ql (k:Lk)(v:Int):∀ (l:LL) (i:Nat),kW (l++[(k,v)]) i=kW l i++[{ key:=sZ k,val:=.int .i64 v,born:=i+l.length }]
 | [],i=>rfl
 | p :: r,i=>by
  simp only[kW,List.cons_append];rw[Ql k v r (i+1)];congr 4
  simp;omega
theorem Qm (v:Int):∀ (l:LL) (i j:Nat),(kW l i).modify j (fun e=>{ e with val:=.int .i64 v })=kW (Vf.wY j v l) i
 | [],i,j=>by cases j<;>rfl
 | p :: r,i,0=>rfl
 | p :: r,i,j+1=>by
  show _ :: (kW r (i+1)).modify j _=_
  rw[Qm v r (i+1) j];rfl
theorem Qn {k:Lk}:∀ (l:LL) (i j:Nat) (v:Int),l[j]?=some (k,v)→(kW l i).modify j (fun e=>{ e with key:=sZ k })=kW l i
 | [],i,j,v,h=>by simp at h
 | p :: r,i,0,v,h=>by simp at h;subst h;rfl
 | p :: r,i,j+1,v,h=>by
  show _ :: (kW r (i+1)).modify j _=_
  rw[Qn r (i+1) j v (by simpa using h)];rfl
def tL (w:World)(M:Nat)(l:LL):Prop:=w.heap[M]?=some (.map (kW l 0).toArray l.length)
theorem Tryz.LQ:(Tryz.prog.info? 3).map (fun i=>i.size)=some 1:=by kernel_rfl
theorem eq_int (d:Nat)(x y:Int)(w:World):(Op.equalIn (d+1) 3 (.int .i64 x) (.int .i64 y)).run Tryz.prog w=.ok (x==y) w:=by
 simp[Op.equalIn,run_underlying Tryz.underlying3]
theorem XG (k k':Lk)(w:World):(Op.equal 83 (sZ k) (sZ k')).run Tryz.prog w=.ok (decide (k=k')) w:=by
 have hu:=run_underlying (P:=Tryz.prog) (w:=w) Tryz.underlying83;obtain⟨j,hj,hj2⟩:=Option.map_eq_some_iff.1 Tryz.LQ;have p0:∀ (a b:Value) (w:World),(part 3 #[a,b] 0).run Tryz.prog w=.ok a w:=fun _ _ _=>by simp[part,sizeOf,typeInfo,hj,hj2]
 have p1:∀ (a b:Value) (w:World),(part 3 #[a,b] 1).run Tryz.prog w=.ok b w:=fun _ _ _=>by simp[part,sizeOf,typeInfo,hj,hj2]
 have hst:Tryz.prog.stoodInHeld 83=false:=by kernel_rfl
 have h:∀ d:Nat,(Op.equalIn (d+2) 83 (sZ k) (sZ k')).run Tryz.prog w=.ok (decide (k=k')) w:=fun d=>by
  rw[Op.equalIn];have hp:(Sem.program Sem.pure).run Tryz.prog w=.ok Tryz.prog w:=rfl;simp[hu,program,hp,hst,p0,p1,eq_int];obtain⟨a,b⟩:=k;obtain⟨a',b'⟩:=k';by_cases ha:a=a'
  ·by_cases hb:b=b'
   ·simp[ha,hb]
   ·simp[ha,hb]
  ·simp[ha]
 exact h 9998
def ET (k:Lk):LL→Nat→Option (Nat × Value)
 | [],_=>none
 | p :: r,i=>if k=p.1 then some (i,.int .i64 p.2) else ET k r (i+1)
theorem Qo (k:Lk)(w:World):∀ (l:LL) (i:Nat),(Instr.findAsking 83 (sZ k) (kW l i) i).run Tryz.prog w=.ok (ET k l i) w
 | [],i=>rfl
 | (k',v) :: r,i=>by
  have h:=XG k k' w;have hr:=Qo k w r (i+1);unfold kW Instr.findAsking ET;by_cases hk:k=k'
  ·subst hk
   simp[h]
  ·simp[h,hk,hr]
theorem LU (k:Lk):∀ (l:LL) (i:Nat),ET k l i=if Vf.idx k l<l.length then some (i+Vf.idx k l,.int .i64 (Vf.cnt k l)) else none
 | [],i=>rfl
 | p :: r,i=>by
  unfold ET;by_cases hk:k=p.1
  ·have e:Vf.idx k (p :: r)=0:=by unfold Vf.idx;rw[if_pos hk]
   rw[if_pos hk,e,if_pos (by simp)];unfold Vf.cnt;rw[e];rfl
  ·have e:Vf.idx k (p :: r)=Vf.idx k r+1:=by rw[Vf.idx,if_neg hk]
   have ec:Vf.cnt k (p :: r)=Vf.cnt k r:=by unfold Vf.cnt;rw[e];rfl
   rw[if_neg hk,LU k r (i+1),e,ec];by_cases h:Vf.idx k r<r.length
   ·rw[if_pos h,if_pos (by simp;omega),show i+1+Vf.idx k r=i+(Vf.idx k r+1) by omega]
   ·rw[if_neg h,if_neg (by simp;omega)]
theorem Qp (k:Lk)(l:LL)(w:World):(Instr.findKey 83 (sZ k) (kW l 0)).run Tryz.prog w=.ok (ET k l 0) w:=by
 have hu:=run_underlying (P:=Tryz.prog) (w:=w) Tryz.underlying83;have hr:=Qo k w l 0;cases l with
 | nil=>simp[Instr.findKey,hu,kW,Instr.findNow,ET]
 | cons p r =>
  have hn:∀ fs,Instr.findNow (.struct fs) (sZ k) (kW (p :: r) 0) 0=none:=fun fs=>by
   unfold kW Instr.findNow;rfl
  simp[Instr.findKey,hu,hn,hr]
theorem JJ (k:Lk)(b:Bool)(w:World):(Instr.checkKey b 10000 83 (sZ k)).run Tryz.prog w=.ok () w:=by
 have hu:=run_underlying (P:=Tryz.prog) (w:=w) Tryz.underlying83;obtain⟨j,hj,hj2⟩:=Option.map_eq_some_iff.1 Tryz.LQ;have p0:∀ (a b:Value) (w:World),(part 3 #[a,b] 0).run Tryz.prog w=.ok a w:=fun _ _ _=>by simp[part,sizeOf,typeInfo,hj,hj2]
 have p1:∀ (a b:Value) (w:World),(part 3 #[a,b] 1).run Tryz.prog w=.ok b w:=fun _ _ _=>by simp[part,sizeOf,typeInfo,hj,hj2]
 have hk:∀ (x:Int),(Instr.checkKey b 9999 3 (.int .i64 x)).run Tryz.prog w=.ok () w:=fun x=>MapKept.run_checkKey (n:=9998) Tryz.underlying3 (by simp[MapKept.IsKey]) b;rw[show (10000:Nat)=9999+1 from rfl,Instr.checkKey];simp[hu,p0,p1,hk]
theorem LV {k:Lk}{l:LL}(h:¬ Vf.idx k l<l.length):Vf.cnt k l=0:=by
 unfold Vf.cnt;rw[List.getElem?_eq_none (by omega)];rfl
theorem LW {w:World}{M:Nat}{l:LL}(h:tL w M l)(k:Lk):(Instr.lookup 80 (.map (some M)) (sZ k) false).run Tryz.prog w=.ok (.int .i64 (Vf.cnt k l)) w:=by
 unfold tL at h;have hg:(getObj M).run Tryz.prog w=.ok (.map (kW l 0).toArray l.length) w:=MapKept.run_getObj_map h;have hu:=run_underlying (P:=Tryz.prog) (w:=w) Tryz.underlying80;have hf:=Qp k l w;rw[LU] at hf;by_cases hi:Vf.idx k l<l.length
 ·rw[if_pos hi] at hf
  simp[Instr.lookup,hu,hg,JJ,hf]
 ·rw[if_neg hi] at hf
  simp[Instr.lookup,hu,hg,JJ,hf,LV hi]
theorem Hl {w:World}{M:Nat}{l:LL}(h:tL w M l)(l':LL):tL { w with heap:=w.heap.setIfInBounds M (.map (kW l' 0).toArray l'.length) } M l'∧w.grownBy { w with heap:=w.heap.setIfInBounds M (.map (kW l' 0).toArray l'.length) } (some M):=by
 obtain⟨m1,m2⟩:=MapKept.heap_set (o':=.map (kW l' 0).toArray l'.length) h;exact⟨m1,rfl,rfl,rfl,by simp,fun k _ hne=>m2 k (fun e=>hne (by rw[e]))⟩
theorem XH {w:World}{M:Nat}{l:LL}(h:tL w M l)(k:Lk):∃ w1,(Instr.mapEntry 80 (.map (some M)) (sZ k)).run Tryz.prog w=.ok (.tuple #[.int .i64 (Vf.cnt k l),goInt (Vf.idx k l)]) w1∧tL w1 M (Vf.wO k l)∧w.grownBy w1 (some M):=by
 have h0:=h;unfold tL at h;have hg:(getObj M).run Tryz.prog w=.ok (.map (kW l 0).toArray l.length) w:=MapKept.run_getObj_map h;have hu:=run_underlying (P:=Tryz.prog) (w:=w) Tryz.underlying80;have hf:=Qp k l w;rw[LU] at hf;by_cases hi:Vf.idx k l<l.length
 ·rw[if_pos hi] at hf
  obtain⟨v,hv⟩:=Vf.D8 hi;have hes:(kW l 0)[Vf.idx k l]?=some { key:=sZ k,val:=.int .i64 v,born:=0+Vf.idx k l }:=by
   rw[JI,hv];rfl
  have hst:(Instr.keyThatStays (sZ k) (sZ k)).run Tryz.prog w=.ok (sZ k) w:=by
   unfold Instr.keyThatStays;simp[Instr.sameBits]
  have hmod:=Qn l 0 _ v hv;have hset:=MapKept.run_setObj_map (P:=Tryz.prog) (.map (kW l 0).toArray l.length) h;have he:Vf.wO k l=l:=by unfold Vf.wO;rw[if_pos hi]
  refine⟨_,?_,by rw[he];exact (Hl h0 l).1,(Hl h0 l).2⟩;simp only[Nat.zero_add] at hf hes;simp[Instr.mapEntry,hu,hg,JJ,hf,hes,hst,hmod,hset]
 ·rw[if_neg hi] at hf
  have hset:=MapKept.run_setObj_map (P:=Tryz.prog) (.map (kW (l++[(k,0)]) 0).toArray (l++[(k,0)]).length) h;have he:Vf.wO k l=l++[(k,0)]:=by unfold Vf.wO;rw[if_neg hi]
  have hpush:=Ql k 0 l 0;rw[Nat.zero_add] at hpush;have hlen:(l++[(k,0)]).length=l.length+1:=by simp
  have hix:Vf.idx k l=l.length:=by have:=Vf.JH k l;omega
  rw[hlen] at hset;refine⟨_,?_,by rw[he];exact (Hl h0 (l++[(k,0)])).1,(Hl h0 (l++[(k,0)])).2⟩;rw[LV hi,hix,hlen];simp[Instr.mapEntry,hu,hg,JJ,hf,← hpush,hset]
theorem find_born:∀ (l:LL) (i j:Nat),j<l.length→(kW l i).findIdx? (fun e=>((e.born:Int)==((i+j:Nat):Int)))=some j
 | [],i,j,h=>by simp at h
 | p :: r,i,0,h=>by simp[kW,List.findIdx?_cons]
 | p :: r,i,j+1,h=>by
  have:=find_born r (i+1) j (by simp at h;omega);rw[show i+1+j=i+(j+1) by omega] at this;simp only[kW,List.findIdx?_cons];rw[if_neg (by simp;omega),this];rfl
theorem XI {w:World}{M:Nat}{l:LL}(h:tL w M l){j:Nat}(hj:j<l.length)(v:Int):∃ w1,(Instr.entryStore 80 (.map (some M)) (goInt j) (.int .i64 v)).run Tryz.prog w=.ok () w1∧tL w1 M (Vf.wY j v l)∧w.grownBy w1 (some M):=by
 have h0:=h;unfold tL at h;have hg:(getObj M).run Tryz.prog w=.ok (.map (kW l 0).toArray l.length) w:=MapKept.run_getObj_map h;have hlen:(Vf.wY j v l).length=l.length:=by unfold Vf.wY;simp
 have hset:=MapKept.run_setObj_map (P:=Tryz.prog) (.map (kW (Vf.wY j v l) 0).toArray l.length) h;have hfi:=find_born l 0 j hj;rw[Nat.zero_add] at hfi;have hmod:=Qm v l 0 j;have hs:=Hl h0 (Vf.wY j v l);rw[hlen] at hs;refine⟨_,?_,hs.1,hs.2⟩;simp[Instr.entryStore,hg,goInt,asInt,asIntOf,hfi,hmod,hset]
theorem XJ {w:World}{M:Nat}{l:LL}(h:tL w M l)(k:Lk):∃ w1 w2,(Instr.mapEntry 80 (.map (some M)) (sZ k)).run Tryz.prog w=.ok (.tuple #[.int .i64 (Vf.cnt k l),goInt (Vf.idx k l)]) w1∧(Instr.lookup 80 (.map (some M)) (sZ k) false).run Tryz.prog w1=.ok (.int .i64 (Vf.cnt k l)) w1 ∧
  (Instr.entryStore 80 (.map (some M)) (.int .i64 ((Vf.idx k l:Nat):Int)) (.int .i64 (Vf.cnt k l+1))).run Tryz.prog w1=.ok () w2∧tL w2 M (Vf.bump k l)∧w.grownBy w1 (some M)∧w.grownBy w2 (some M):=by
 obtain⟨w1,h1,h2,h3⟩:=XH h k;obtain⟨e1,e2,e3⟩:=Vf.LP k l;obtain⟨w2,h4,h5,h6⟩:=XI h2 e2 (Vf.cnt k l+1);have hl:=LW h2 k;have ec:Vf.cnt k (Vf.wO k l)=Vf.cnt k l:=by
  conv=>lhs;unfold Vf.cnt
  rw[e1,e3];rfl
 rw[ec] at hl;exact⟨w1,w2,h1,hl,h4,h5,h3,⟨h6.os.trans h3.os,h6.tape.trans h3.tape,h6.output.trans h3.output,Nat.le_trans h3.size h6.size,fun j hj hne=>(h6.block j (by have:=h3.size;omega) hne).trans (h3.block j hj hne)⟩⟩
end Go.Proofs.YtbdpdjcdhclbfaaGreat
namespace Go.Proofs.YtbdpdjcdhclbfaaGreat
namespace Vf
theorem Qq (k:Lk):∀ (l l':LL),l.map (·.1)=l'.map (·.1)→idx k l=idx k l'
 | [],[],_=>rfl
 | [],_ :: _,h=>by cases h
 | _ :: _,[],h=>by cases h
 | p :: r,p' :: r',h=>by
  simp only[List.map_cons,List.cons.injEq] at h;unfold idx;rw[h.1,Qq k r r' h.2]
theorem Qr (j:Nat)(v:Int):∀ l:LL,(wY j v l).map (·.1)=l.map (·.1):=by
 induction j with
 | zero=>intro l;cases l<;>rfl
 | succ j ih =>
  intro l;cases l with
  | nil=>rfl
  | cons p r =>
   show p.1 :: (wY j v r).map (·.1)=_
   rw[ih r];rfl
theorem LX (j:Nat)(v:Int):∀ (l:LL) (i:Nat),(wY j v l)[i]?=if i=j then (l[i]?).map (fun p=>(p.1,v)) else l[i]?:=by
 intro l i;unfold wY;rw[List.getElem?_modify];by_cases h:j=i
 ·subst h;simp
 ·rw[if_neg (fun e=>h e.symm)]
  cases l[i]?<;>simp[h]
theorem Qs {k k':Lk}(hk:k'≠k)(v:Int):∀ l:LL,(idx k' (l++[(k,v)])<l.length ↔ idx k' l<l.length)∧(idx k' l<l.length→idx k' (l++[(k,v)])=idx k' l)∧(¬ idx k' l<l.length→idx k' (l++[(k,v)])=l.length+1)
 | []=>by simp[idx,hk]
 | p :: r=>by
  have ih:=Qs hk v r;show ((if k'=p.1 then 0 else idx k' (r++[(k,v)])+1)<_ ↔ (if k'=p.1 then 0 else idx k' r+1)<_)∧_
  by_cases hp:k'=p.1
  ·refine⟨by simp[hp],fun _=>?_,fun h=>?_⟩
   ·show (if k'=p.1 then 0 else idx k' (r++[(k,v)])+1)=(if k'=p.1 then 0 else idx k' r+1)
    rw[if_pos hp,if_pos hp]
   ·exfalso
    apply h;show (if k'=p.1 then 0 else idx k' r+1)<_
    rw[if_pos hp];simp
  ·refine⟨?_,fun h=>?_,fun h=>?_⟩
   ·rw[if_neg hp,if_neg hp]
    simp only[List.length_cons];have:=ih.1;omega
   ·show (if k'=p.1 then 0 else idx k' (r++[(k,v)])+1)=(if k'=p.1 then 0 else idx k' r+1)
    have h':(if k'=p.1 then 0 else idx k' r+1)<(p :: r).length:=h;rw[if_neg hp] at h' ⊢;rw[if_neg hp,ih.2.1 (by simp at h';omega)]
   ·show (if k'=p.1 then 0 else idx k' (r++[(k,v)])+1)=_
    have h':¬ (if k'=p.1 then 0 else idx k' r+1)<(p :: r).length:=h;rw[if_neg hp] at h' ⊢;rw[ih.2.2 (by simp at h';omega)];rfl
theorem JK {k:Lk}{l:LL}(h:¬ idx k l<l.length):cnt k l=0:=LV h
theorem D9 (k k':Lk)(l:LL):cnt k' (bump k l)=if k'=k then cnt k l+1 else cnt k' l:=by
 obtain⟨e1,e2,e3⟩:=LP k l;have hi:∀ q,idx q (bump k l)=idx q (wO k l):=fun q=>Qq q _ _ (Qr _ _ _);by_cases hk:k'=k
 ·subst hk
  rw[if_pos rfl];conv=>lhs;unfold cnt
  rw[hi,e1];unfold bump;rw[LX,if_pos rfl,e3];rfl
 ·rw[if_neg hk]
  conv=>lhs;unfold cnt
  rw[hi];unfold bump;unfold wO at e2 e3 ⊢;by_cases h:idx k l<l.length
  ·rw[if_pos h] at e2 e3 ⊢
   by_cases h':idx k' l<l.length
   ·obtain⟨v,hv⟩:=D8 h
    obtain⟨v',hv'⟩:=D8 h';have hne:idx k' l≠idx k l:=fun e=>by rw[e,hv] at hv';cases hv';exact hk rfl
    rw[LX,if_neg hne];rfl
   ·rw[List.getElem?_eq_none (by unfold wY;simp;omega),JK h']
    rfl
  ·rw[if_neg h] at e2 e3 ⊢
   obtain⟨o1,o2,o3⟩:=Qs hk 0 l;have hkl:idx k l=l.length:=by have:=JH k l;omega
   by_cases h':idx k' l<l.length
   ·rw[o2 h',LX,if_neg (by omega),List.getElem?_append_left h']
    rfl
   ·rw[o3 h',List.getElem?_eq_none (by unfold wY;simp),JK h']
    rfl
structure Wl (l:LL):Prop where
 nodup:(l.map (·.1)).Nodup
 pos:∀ p ∈ l,1≤p.2
theorem EU {p:Lk × Int}:∀ {l:LL},(l.map (·.1)).Nodup→p ∈ l→cnt p.1 l=p.2∧idx p.1 l<l.length
 | [],_,h=>by cases h
 | q :: r,hn,h=>by
  simp only[List.map_cons,List.nodup_cons] at hn;by_cases hq:p.1=q.1
  ·have hpq:p=q:=by
    rcases List.mem_cons.1 h with h1 | h1
    ·exact h1
    ·exact absurd (List.mem_map.2 ⟨p,h1,hq⟩) hn.1
   subst hpq;have e:idx p.1 (p :: r)=0:=by unfold idx;rw[if_pos rfl]
   unfold cnt;rw[e];exact⟨rfl,by simp⟩
  ·have hr:p ∈ r:=by
    rcases List.mem_cons.1 h with h1 | h1
    ·exact absurd (by rw[h1]) hq
    ·exact h1
   obtain⟨h1,h2⟩:=EU hn.2 hr;have e:idx p.1 (q :: r)=idx p.1 r+1:=by rw[idx,if_neg hq]
   unfold cnt at h1 ⊢;rw[e];exact⟨h1,by simp;omega⟩
theorem Qt {k:Lk}{l:LL}(h:idx k l<l.length):(k,cnt k l) ∈ l:=by
 obtain⟨v,hv⟩:=D8 h;have e:cnt k l=v:=by unfold cnt;rw[hv];rfl
 rw[e];exact List.mem_of_getElem? hv
theorem F9 {l:LL}(h:Wl l)(k:Lk):0≤cnt k l:=by
 by_cases hi:idx k l<l.length
 ·have:=h.pos _ (Qt hi);simp at this;omega
 ·rw[JK hi];omega
theorem Qu {l:LL}(h:Wl l){k:Lk}:idx k l<l.length ↔ 1≤cnt k l:=by
 constructor
 ·intro hi;exact h.pos _ (Qt hi)
 ·intro hc
  by_cases hi:idx k l<l.length
  ·exact hi
  ·rw[JK hi] at hc;omega
theorem Qv (k:Lk)(l:LL):(bump k l).map (·.1)=(wO k l).map (·.1):=Qr _ _ _
theorem Wl.bump {l:LL}(h:Wl l)(k:Lk):Wl (Vf.bump k l):=by
 have hnd:((Vf.bump k l).map (·.1)).Nodup:=by
  rw[Qv];unfold wO;split
  ·exact h.nodup
  ·rename_i hi
   rw[List.map_append,List.nodup_append];refine⟨h.nodup,by simp,fun a ha b hb e=>?_⟩;simp at hb;subst hb;subst e;obtain⟨p,hp,hpk⟩:=List.mem_map.1 ha;have:=(EU h.nodup hp).2;rw[hpk] at this;exact hi this
 refine⟨hnd,fun p hp=>?_⟩;have h1:=(EU hnd hp).1;rw[← h1,D9];split
 ·have:=F9 h k;omega
 ·rename_i hne
  have h2:=(EU hnd hp).2
  -- it was there ahead
  have h3:p.1 ∈ (Vf.bump k l).map (·.1):=List.mem_map.2 ⟨p,hp,rfl⟩;rw[Qv] at h3;unfold wO at h3;split at h3
  ·obtain⟨q,hq,hqk⟩:=List.mem_map.1 h3
   have:=h.pos q hq;have h4:=(EU h.nodup hq).1;rw[hqk] at h4;omega
  ·rw[List.map_append] at h3
   rcases List.mem_append.1 h3 with h5 | h5
   ·obtain⟨q,hq,hqk⟩:=List.mem_map.1 h5
    have:=h.pos q hq;have h4:=(EU h.nodup hq).1;rw[hqk] at h4;omega
   ·simp at h5;exact absurd h5 hne
theorem Wl.nil:Wl []:=⟨by simp,fun p hp=>by cases hp⟩
def tot (l:LL):Int:=(l.map (·.2)).sum
theorem XK (l:LL)(p:Lk × Int):tot (l++[p])=tot l+p.2:=by unfold tot;simp
theorem Qw {v:Int}:∀ (l:LL) (j:Nat) (p:Lk × Int),l[j]?=some p→tot (wY j v l)=tot l - p.2+v
 | [],j,p,h=>by simp at h
 | q :: r,0,p,h=>by
  simp at h;subst h;show ((v :: r.map (·.2)).sum:Int)=(q.2 :: r.map (·.2)).sum - q.2+v
  simp;omega
 | q :: r,j+1,p,h=>by
  have:=Qw (v:=v) r j p (by simpa using h);have e1:tot (wY (j+1) v (q :: r))=q.2+tot (wY j v r):=by show (q.2 :: (wY j v r).map (·.2)).sum=_;simp[tot]
  have e2:tot (q :: r)=q.2+tot r:=by simp[tot]
  omega
theorem Qx (k:Lk)(l:LL):tot (bump k l)=tot l+1:=by
 obtain⟨e1,e2,e3⟩:=LP k l;unfold bump;rw[Qw _ _ _ e3];have:tot (wO k l)=tot l:=by
  unfold wO;split
  ·rfl
  ·rw[XK];simp
 simp only;omega
def univ:List Lk:=(List.range 30).flatMap fun (a:Nat)=>[((23:Int),(a:Int)),((29:Int),(a:Int))]
theorem Qy {op:Int}{a:Nat}(ho:op=23∨op=29)(ha:a<30):(op,(a:Int)) ∈ univ:=by
 unfold univ;rw[List.mem_flatMap];exact⟨a,List.mem_range.2 ha,by rcases ho with rfl | rfl<;>simp⟩
theorem XL:univ.length=60:=by decide
def uu (l:LL):Nat:=univ.countP (fun k=>decide (cnt k l=0))
theorem LY {α:Type}{p q:α→Bool}(h:∀ x,q x=true→p x=true):∀ {l:List α} {x:α},x ∈ l→p x=true→q x=false→l.countP q+1≤l.countP p
 | y :: l,x,hx,hp,hq=>by
  have hle:l.countP q≤l.countP p:=List.countP_mono_left (fun z _=>h z);rcases List.mem_cons.1 hx with rfl | hx
  ·rw[List.countP_cons_of_neg (by rw[hq];decide),List.countP_cons_of_pos hp]
   omega
  ·have:=LY h hx hp hq
   rw[List.countP_cons,List.countP_cons];have h1:=h y;cases XM:q y
   ·simp;omega
   ·rw[h1 XM];simp;omega
theorem Qz {l:LL}(h:Wl l)(k:Lk):uu (bump k l)≤uu l:=List.countP_mono_left (fun q _ hq=>by
 simp only[decide_eq_true_eq] at hq ⊢;rw[D9] at hq;split at hq
 ·have:=F9 h k;omega
 ·exact hq)
theorem QA {l:LL}(h:Wl l){k:Lk}(hk:k ∈ univ)(h0:cnt k l=0):uu (bump k l)+1≤uu l:=LY (fun q hq=>by
 simp only[decide_eq_true_eq] at hq ⊢;rw[D9] at hq;split at hq
 ·have:=F9 h k;omega
 ·exact hq) hk (by simpa using h0) (by simp[D9,h0])
def wZ (yO:Int→LL→LL)(c:Ins)(l:LL):LL :=
 if c.op=26∨c.op=27 then bump (c.op,c.a) l
 else if c.op=23∨c.op=29 then (if cnt (c.op,c.a) l=0 then yO c.a (bump (c.op,c.a) l) else bump (c.op,c.a) l)
 else l
def wP (yO:Int→LL→LL)(cs:List Ins)(l:LL):LL:=cs.foldl (fun l c=>wZ yO c l) l
def tq (m:Md):Nat→Int→LL→LL
 | 0,_,l=>l
 | f+1,n,l=>wP (tq m f) (unit m n).code l
structure Gd (d:Int) (l l':LL):Prop where
 wl:Wl l'
 uu:Vf.uu l'≤Vf.uu l
 tot:Vf.tot l'+4000 * Vf.uu l'≤Vf.tot l+4000 * Vf.uu l+d
theorem QB {m:Md}{u:Un}{c:Ins}{l:LL}{yO:Int→LL→LL}(hmu:m.units.length≤30)(hf:aA m u c=0)(hl:Wl l)(hrec:∀ n l,Wl l→Gd 4000 l (yO n l)):Gd 1 l (wZ yO c l):=by
 have hb:Gd 1 l (bump (c.op,c.a) l):=⟨hl.bump _,Qz hl _,by have:=Qz hl (c.op,c.a);rw[Qx];omega⟩;unfold wZ;split
 ·exact hb
 ·split
  ·rename_i h1 h2
   split
   ·rename_i h0
    have hr:=hrec c.a _ hb.wl;obtain⟨_,_,hrg⟩:=yj hf;have hk:∃ k:Nat,c.a=k∧k<30:=by
     have:∃ kd,is m kd c.a=true:=by
      rcases h2 with h | h
      ·refine⟨2,?_⟩
       rw[← hrg];unfold ranged;rw[if_neg (by omega),if_neg (by omega),if_neg (by omega),if_pos h]
      ·refine⟨3,?_⟩
       rw[← hrg];unfold ranged;rw[if_neg (by omega),if_neg (by omega),if_neg (by omega),if_neg (by omega),if_pos h]
     obtain⟨kd,this⟩:=this;obtain⟨x,h3,_,h4⟩:=yh this;have:=(List.getElem?_eq_some_iff.1 h3).1;exact⟨c.a.toNat,by omega,by omega⟩
    obtain⟨k,hka,QC⟩:=hk;have hn:=QA hl (k:=(c.op,c.a)) (by rw[hka];exact Qy h2 QC) h0;have ht:=hr.tot;rw[Qx] at ht;exact⟨hr.wl,Nat.le_trans hr.uu hb.uu,by omega⟩
   ·exact hb
  ·exact⟨hl,Nat.le_refl _,by omega⟩
theorem QD {m:Md}{u:Un}{yO:Int→LL→LL}(hmu:m.units.length≤30)(hrec:∀ n l,Wl l→Gd 4000 l (yO n l)):∀ (cs:List Ins) (l:LL),(∀ c ∈ cs,aA m u c=0)→Wl l→Gd cs.length l (wP yO cs l)
 | [],l,_,hl=>⟨hl,Nat.le_refl _,by show tot l+4000 * (uu l:Int)≤tot l+4000 * (uu l:Int)+((0:Nat):Int);omega⟩
 | c :: cs,l,hf,hl=>by
  have h1:=QB hmu (hf c List.mem_cons_self) hl hrec;have h2:=QD hmu hrec cs (wZ yO c l) (fun c hc=>hf c (List.mem_cons_of_mem _ hc)) h1.wl;have e:wP yO (c :: cs) l=wP yO cs (wZ yO c l):=rfl;rw[e];have t1:=h1.tot;have t2:=h2.tot;exact⟨h2.wl,Nat.le_trans h2.uu h1.uu,by simp only[List.length_cons];omega⟩
theorem JL {m:Md}(hR:Rt m)(n:Int):(unit m n).code.length≤4000∧∀ c ∈ (unit m n).code,aA m (unit m n) c=0:=by
 unfold unit;cases h:m.units[n.toNat]? with
 | none=>exact⟨by simp,fun c hc=>by cases hc⟩
 | some u=>exact⟨(EE (Ao (hR.heads _ u h).1).2.1).2.2.2.2.2,(hR.heads _ u h).2⟩
theorem QE {m:Md}(hR:Rt m):∀ (f:Nat) (n:Int) (l:LL),Wl l→Gd 4000 l (tq m f n l)
 | 0,_,l,hl=>⟨hl,Nat.le_refl _,by show tot l+4000 * (uu l:Int)≤tot l+4000 * (uu l:Int)+4000;omega⟩
 | f+1,n,l,hl=>by
  have hu:=JL hR n;have h:=QD (u:=unit m n) hR.units (QE hR f) (unit m n).code l hu.2 hl;exact⟨h.wl,h.uu,by have:=h.tot;show tot (wP _ _ _)+4000 * ((uu (wP _ _ _):Nat):Int)≤_;omega⟩
end Vf
end Go.Proofs.YtbdpdjcdhclbfaaGreat
namespace Go.Proofs.YtbdpdjcdhclbfaaGreat
open Go.RowKit
namespace Vf
def comes (m:Md)(i:Nat)(q:Lk):Bool:=decide (1≤cnt q (tq m 61 (i:Int) []))
def tc (m:Md)(q:Lk)(k:Nat):Nat:=(List.range k).countP (fun (i:Nat)=>is m 4 (i:Int) && comes m i q)
theorem LZ (m:Md)(q:Lk)(k:Nat):tc m q (k+1)=tc m q k+if (is m 4 (k:Int) && comes m k q)=true then 1 else 0:=by
 unfold tc;rw[List.range_succ,List.countP_append,List.countP_singleton]
theorem L6 (m:Md)(q:Lk)(k:Nat):tc m q k≤k:=by
 have:=List.countP_le_length (p:=fun (i:Nat)=>is m 4 (i:Int) && comes m i q) (l:=List.range k);rw[List.length_range] at this;exact this
def ug (m:Md)(n:Nat):Int:=if 1<tc m (26,(n:Int)) m.units.length∨1<tc m (27,(n:Int)) m.units.length then 8 else 0
def EW (m:Md):Int × Nat:=gT (ug m) (List.range m.boxes.length) 0
theorem XN:uu []=60:=by
 unfold uu;rw[List.countP_eq_length.2 (fun k _=>by simp[cnt,idx]),XL]
end Vf
def uV (w:World)(T:Nat)(f:Lk→Int):Prop:=∃ l,tL w T l∧Vf.Wl l∧∀ q,Vf.cnt q l=f q
theorem uV.keep {w w':World}{T:Nat}{f:Lk→Int}(h:uV w T f)(hk:w'.heap[T]?=w.heap[T]?):uV w' T f:=by
 obtain⟨l,h1,h2⟩:=h;exact⟨l,hk.trans h1,h2⟩
theorem uV.lt {w:World}{T:Nat}{f:Lk→Int}(h:uV w T f):T<w.heap.size:=by
 obtain⟨l,h1,_⟩:=h;exact lt_of_block h1
def told (G:LL)(seen:List Nat)(q:Lk):Int:=if Vf.idx q G ∈ seen then 1 else 0
theorem XO {G:LL}(hG:Vf.Wl G){seen:List Nat}{i:Nat}{p:Lk × Int}(hp:G[i]?=some p)(hi:i ∉ seen)(q:Lk):told G (seen++[i]) q=told G seen q+if q=p.1 then 1 else 0:=by
 have hm:p ∈ G:=List.mem_of_getElem? hp;have hx:=Vf.EU hG.nodup hm
 -- the key's first place is this one
 have hix:Vf.idx p.1 G=i:=by
  obtain⟨v,hv⟩:=Vf.D8 hx.2;have hlt:=(List.getElem?_eq_some_iff.1 hp).1;have h1:(G.map (·.1))[Vf.idx p.1 G]?=some p.1:=by rw[List.getElem?_map,hv];rfl
  have h2:(G.map (·.1))[i]?=some p.1:=by rw[List.getElem?_map,hp];rfl
  exact (List.getElem?_inj (by simpa using hx.2) hG.nodup).1 (h1.trans h2.symm)
 unfold told;by_cases hq:q=p.1
 ·subst hq
  rw[hix,if_pos (by simp),if_neg hi,if_pos rfl];rfl
 ·rw[if_neg hq]
  have:Vf.idx q G≠i:=fun e=>by
   have hlt:=(List.getElem?_eq_some_iff.1 hp).1;obtain⟨v,hv⟩:=Vf.D8 (k:=q) (l:=G) (by omega);rw[e,hp] at hv;cases hv;exact hq rfl
  simp[this]
theorem XP {G:LL}(hG:Vf.Wl G){seen:List Nat}(h:∀ i,i<G.length→i ∈ seen)(h':∀ i ∈ seen,i<G.length)(q:Lk):told G seen q=if (decide (1≤Vf.cnt q G))=true then 1 else 0:=by
 unfold told;by_cases hc:Vf.idx q G<G.length
 ·rw[if_pos (h _ hc),if_pos (by simpa using (Vf.Qu hG).1 hc)]
 ·rw[if_neg (fun hm=>hc (h' _ hm)),if_neg (by simpa using fun hc'=>hc ((Vf.Qu hG).2 hc'))]
end Go.Proofs.YtbdpdjcdhclbfaaGreat
