/- Maps of what is done with boxes and units: how they lie,and what a doing more makes of them. -/
import Derived.Test.YthffafaoobpedaaGreatDoorM20
import Derived.MapKept
import Derived.Maps.RangeRun
import Derived.Test.YthffafaoobpedaaGreatDoorM3
namespace Go.Proofs.YthffafaoobpedaaGreatDoor
open Go.RowKit
abbrev Lk:Type:=Int × Int
abbrev LL:Type:=List (Lk × Int)
namespace Vf
def idx (k:Lk):LL→Nat
 | []=>0
 | p :: r=>if k=p.1 then 0 else idx k r+1
def cnt (k:Lk)(l:LL):Int:=((l[idx k l]?).map (·.2)).getD 0
def iU (k:Lk)(l:LL):LL:=if idx k l < l.length then l else l ++ [(k,0)]
def jw (j:Nat)(v:Int)(l:LL):LL:=l.modify j (fun p=>(p.1,v))
def bump (k:Lk)(l:LL):LL:=jw (idx k l) (cnt k l+1) (iU k l)
theorem AY (k:Lk):∀ l:LL,idx k l≤l.length
 | []=>Nat.le_refl _
 | p :: r=>by
  unfold idx
  split
  ·exact Nat.zero_le _
  ·have:=AY k r;simp;omega
theorem qP {k:Lk}:∀ {l:LL},idx k l < l.length→∃ v,l[idx k l]?=some (k,v)
 | [],h=>by simp at h
 | p :: r,h=>by
  unfold idx at h ⊢
  split
  ·rename_i hk
   exact ⟨p.2,by rw [hk];rfl⟩
  ·rename_i hk
   rw [if_neg hk] at h
   obtain ⟨v,hv⟩:=qP (k:=k) (l:=r) (by simp at h;omega)
   exact ⟨v,by simpa using hv⟩
theorem Lj {k:Lk}{v:Int}:∀ {l:LL},¬ idx k l < l.length→idx k (l ++ [(k,v)])=l.length
 | [],_=>by simp [idx]
 | p :: r,h=>by
  unfold idx at h
  by_cases hk:k=p.1
  ·rw [if_pos hk] at h;simp at h
  ·rw [if_neg hk] at h
   have:=Lj (k:=k) (v:=v) (l:=r) (by simp at h;omega)
   show (if k=p.1 then 0 else idx k (r ++ [(k,v)])+1)=_
   rw [if_neg hk,this]
   rfl
theorem EG (k:Lk)(l:LL):idx k (iU k l)=idx k l∧idx k l < (iU k l).length∧(iU k l)[idx k l]?=some (k,cnt k l):=by
 unfold iU
 by_cases h:idx k l < l.length
 ·rw [if_pos h]
  obtain ⟨v,hv⟩:=qP h
  exact ⟨rfl,h,by unfold cnt;rw [hv];rfl⟩
 ·rw [if_neg h]
  have e:idx k l=l.length:=by have:=AY k l;omega
  refine ⟨(Lj h).trans e.symm,by simp;omega,?_⟩
  unfold cnt
  rw [e]
  simp
end Vf
abbrev dJ (k:Lk):Value:=.agg #[.int .i64 k.1,.int .i64 k.2]
def bK:LL→Nat→List MapEntry
 | [],_=>[]
 | p :: r,i=>{ key:=dJ p.1,val:=.int .i64 p.2,born:=i } :: bK r (i+1)
theorem AZ:∀ (l:LL) (i j:Nat),(bK l i)[j]?=(l[j]?).map (fun p=>{ key:=dJ p.1,val:=.int .i64 p.2,born:=i+j })
 | [],_,_=>by simp [bK]
 | p :: r,i,0=>by simp [bK]
 | p :: r,i,j+1=>by
  have:=AZ r (i+1) j
  simp only [bK,List.getElem?_cons_succ]
  rw [this]
  congr 2
  funext p
  congr 1
  omega
theorem Ll (k:Lk)(v:Int):∀ (l:LL) (i:Nat),bK (l ++ [(k,v)]) i=bK l i ++ [{ key:=dJ k,val:=.int .i64 v,born:=i+l.length }]
 | [],i=>rfl
 | p :: r,i=>by
  simp only [bK,List.cons_append]
  rw [Ll k v r (i+1)]
  congr 4
  simp
  omega
theorem Lm (v:Int):∀ (l:LL) (i j:Nat),(bK l i).modify j (fun e=>{ e with val:=.int .i64 v })=bK (Vf.jw j v l) i
 | [],i,j=>by cases j <;> rfl
 | p :: r,i,0=>rfl
 | p :: r,i,j+1=>by
  show _ :: (bK r (i+1)).modify j _=_
  rw [Lm v r (i+1) j]
  rfl
theorem Lp {k:Lk}:∀ (l:LL) (i j:Nat) (v:Int),l[j]?=some (k,v)→(bK l i).modify j (fun e=>{ e with key:=dJ k })=bK l i
 | [],i,j,v,h=>by simp at h
 | p :: r,i,0,v,h=>by simp at h;subst h;rfl
 | p :: r,i,j+1,v,h=>by
  show _ :: (bK r (i+1)).modify j _=_
  rw [Lp r (i+1) j v (by simpa using h)]
  rfl
def dO (w:World)(M:Nat)(l:LL):Prop:=w.heap[M]?=some (.map (bK l 0).toArray l.length)
theorem Tryz.Lr:(Tryz.prog.info? 3).map (fun i=>i.size)=some 1:=by kernel_rfl
theorem eq_int (d:Nat)(x y:Int)(w:World):(Op.equalIn (d+1) 3 (.int .i64 x) (.int .i64 y)).run Tryz.prog w=.ok (x == y) w:=by
 simp [Op.equalIn,run_underlying Tryz.underlying3]
theorem VO (k k':Lk)(w:World):(Op.equal 143 (dJ k) (dJ k')).run Tryz.prog w=.ok (decide (k=k')) w:=by
 have hu:=run_underlying (P:=Tryz.prog) (w:=w) Tryz.underlying143
 obtain ⟨j,hj,hj2⟩:=Option.map_eq_some_iff.1 Tryz.Lr
 have p0:∀ (a b:Value) (w:World),(part 3 #[a,b] 0).run Tryz.prog w=.ok a w:=fun _ _ _=>by simp [part,sizeOf,typeInfo,hj,hj2]
 have p1:∀ (a b:Value) (w:World),(part 3 #[a,b] 1).run Tryz.prog w=.ok b w:=fun _ _ _=>by simp [part,sizeOf,typeInfo,hj,hj2]
 have hst:Tryz.prog.stoodInHeld 143=false:=by kernel_rfl
 have h:∀ d:Nat,(Op.equalIn (d+2) 143 (dJ k) (dJ k')).run Tryz.prog w=.ok (decide (k=k')) w:=fun d=>by
  rw [Op.equalIn]
  have hp:(Sem.program Sem.pure).run Tryz.prog w=.ok Tryz.prog w:=rfl
  simp [hu,program,hp,hst,p0,p1,eq_int]
  obtain ⟨a,b⟩:=k
  obtain ⟨a',b'⟩:=k'
  by_cases ha:a=a'
  ·by_cases hb:b=b'
   ·simp [ha,hb]
   ·simp [ha,hb]
  ·simp [ha]
 exact h 9998
def sQ (k:Lk):LL→Nat→Option (Nat × Value)
 | [],_=>none
 | p :: r,i=>if k=p.1 then some (i,.int .i64 p.2) else sQ k r (i+1)
theorem Ls (k:Lk)(w:World):∀ (l:LL) (i:Nat),(Instr.findAsking 143 (dJ k) (bK l i) i).run Tryz.prog w=.ok (sQ k l i) w
 | [],i=>rfl
 | (k',v) :: r,i=>by
  have h:=VO k k' w
  have hr:=Ls k w r (i+1)
  unfold bK Instr.findAsking sQ
  by_cases hk:k=k'
  ·subst hk
   simp [h]
  ·simp [h,hk,hr]
theorem EH (k:Lk):∀ (l:LL) (i:Nat),sQ k l i=if Vf.idx k l < l.length then some (i+Vf.idx k l,.int .i64 (Vf.cnt k l)) else none
 | [],i=>rfl
 | p :: r,i=>by
  unfold sQ
  by_cases hk:k=p.1
  ·have e:Vf.idx k (p :: r)=0:=by unfold Vf.idx;rw [if_pos hk]
   rw [if_pos hk,e,if_pos (by simp)]
   unfold Vf.cnt
   rw [e]
   rfl
  ·have e:Vf.idx k (p :: r)=Vf.idx k r+1:=by rw [Vf.idx,if_neg hk]
   have ec:Vf.cnt k (p :: r)=Vf.cnt k r:=by unfold Vf.cnt;rw [e];rfl
   rw [if_neg hk,EH k r (i+1),e,ec]
   by_cases h:Vf.idx k r < r.length
   ·rw [if_pos h,if_pos (by simp;omega),show i+1+Vf.idx k r=i+(Vf.idx k r+1) by omega]
   ·rw [if_neg h,if_neg (by simp;omega)]
theorem Lu (k:Lk)(l:LL)(w:World):(Instr.findKey 143 (dJ k) (bK l 0)).run Tryz.prog w=.ok (sQ k l 0) w:=by
 have hu:=run_underlying (P:=Tryz.prog) (w:=w) Tryz.underlying143
 have hr:=Ls k w l 0
 cases l with
 | nil=>simp [Instr.findKey,hu,bK,Instr.findNow,sQ]
 | cons p r =>
  have hn:∀ fs,Instr.findNow (.struct fs) (dJ k) (bK (p :: r) 0) 0=none:=fun fs=>by
   unfold bK Instr.findNow
   rfl
  simp [Instr.findKey,hu,hn,hr]
theorem A7 (k:Lk)(b:Bool)(w:World):(Instr.checkKey b 10000 143 (dJ k)).run Tryz.prog w=.ok () w:=by
 have hu:=run_underlying (P:=Tryz.prog) (w:=w) Tryz.underlying143
 obtain ⟨j,hj,hj2⟩:=Option.map_eq_some_iff.1 Tryz.Lr
 have p0:∀ (a b:Value) (w:World),(part 3 #[a,b] 0).run Tryz.prog w=.ok a w:=fun _ _ _=>by simp [part,sizeOf,typeInfo,hj,hj2]
 have p1:∀ (a b:Value) (w:World),(part 3 #[a,b] 1).run Tryz.prog w=.ok b w:=fun _ _ _=>by simp [part,sizeOf,typeInfo,hj,hj2]
 have hk:∀ (x:Int),(Instr.checkKey b 9999 3 (.int .i64 x)).run Tryz.prog w=.ok () w:=fun x=>MapKept.run_checkKey (n:=9998) Tryz.underlying3 (by simp [MapKept.IsKey]) b
 rw [show (10000:Nat)=9999+1 from rfl,Instr.checkKey]
 simp [hu,p0,p1,hk]
theorem EI {k:Lk}{l:LL}(h:¬ Vf.idx k l < l.length):Vf.cnt k l=0:=by
 unfold Vf.cnt
 rw [List.getElem?_eq_none (by omega)]
 rfl
theorem EJ {w:World}{M:Nat}{l:LL}(h:dO w M l)(k:Lk):(Instr.lookup 140 (.map (some M)) (dJ k) false).run Tryz.prog w=.ok (.int .i64 (Vf.cnt k l)) w:=by
 unfold dO at h
 have hg:(getObj M).run Tryz.prog w=.ok (.map (bK l 0).toArray l.length) w:=MapKept.run_getObj_map h
 have hu:=run_underlying (P:=Tryz.prog) (w:=w) Tryz.underlying140
 have hf:=Lu k l w
 rw [EH] at hf
 by_cases hi:Vf.idx k l < l.length
 ·rw [if_pos hi] at hf
  simp [Instr.lookup,hu,hg,A7,hf]
 ·rw [if_neg hi] at hf
  simp [Instr.lookup,hu,hg,A7,hf,EI hi]
theorem yn {w:World}{M:Nat}{l:LL}(h:dO w M l)(l':LL):dO { w with heap:=w.heap.setIfInBounds M (.map (bK l' 0).toArray l'.length) } M l'∧w.grownBy { w with heap:=w.heap.setIfInBounds M (.map (bK l' 0).toArray l'.length) } (some M):=by
 obtain ⟨m1,m2⟩:=MapKept.heap_set (o':=.map (bK l' 0).toArray l'.length) h
 exact ⟨m1,rfl,rfl,rfl,by simp,fun k _ hne=>m2 k (fun e=>hne (by rw [e]))⟩
theorem VP {w:World}{M:Nat}{l:LL}(h:dO w M l)(k:Lk):∃ w1,(Instr.mapEntry 140 (.map (some M)) (dJ k)).run Tryz.prog w=.ok (.tuple #[.int .i64 (Vf.cnt k l),goInt (Vf.idx k l)]) w1∧dO w1 M (Vf.iU k l)∧w.grownBy w1 (some M):=by
 have h0:=h
 unfold dO at h
 have hg:(getObj M).run Tryz.prog w=.ok (.map (bK l 0).toArray l.length) w:=MapKept.run_getObj_map h
 have hu:=run_underlying (P:=Tryz.prog) (w:=w) Tryz.underlying140
 have hf:=Lu k l w
 rw [EH] at hf
 by_cases hi:Vf.idx k l < l.length
 ·rw [if_pos hi] at hf
  obtain ⟨v,hv⟩:=Vf.qP hi
  have hes:(bK l 0)[Vf.idx k l]?=some { key:=dJ k,val:=.int .i64 v,born:=0+Vf.idx k l }:=by
   rw [AZ,hv]
   rfl
  have hst:(Instr.keyThatStays (dJ k) (dJ k)).run Tryz.prog w=.ok (dJ k) w:=by
   unfold Instr.keyThatStays
   simp [Instr.sameBits]
  have hmod:=Lp l 0 _ v hv
  have hset:=MapKept.run_setObj_map (P:=Tryz.prog) (.map (bK l 0).toArray l.length) h
  have he:Vf.iU k l=l:=by unfold Vf.iU;rw [if_pos hi]
  refine ⟨_,?_,by rw [he];exact (yn h0 l).1,(yn h0 l).2⟩
  simp only [Nat.zero_add] at hf hes
  simp [Instr.mapEntry,hu,hg,A7,hf,hes,hst,hmod,hset]
 ·rw [if_neg hi] at hf
  have hset:=MapKept.run_setObj_map (P:=Tryz.prog) (.map (bK (l ++ [(k,0)]) 0).toArray (l ++ [(k,0)]).length) h
  have he:Vf.iU k l=l ++ [(k,0)]:=by unfold Vf.iU;rw [if_neg hi]
  have hpush:=Ll k 0 l 0
  rw [Nat.zero_add] at hpush
  have hlen:(l ++ [(k,0)]).length=l.length+1:=by simp
  have hix:Vf.idx k l=l.length:=by have:=Vf.AY k l;omega
  rw [hlen] at hset
  refine ⟨_,?_,by rw [he];exact (yn h0 (l ++ [(k,0)])).1,(yn h0 (l ++ [(k,0)])).2⟩
  rw [EI hi,hix,hlen]
  simp [Instr.mapEntry,hu,hg,A7,hf,← hpush,hset]
theorem find_born:∀ (l:LL) (i j:Nat),j < l.length→(bK l i).findIdx? (fun e=>((e.born:Int) == ((i+j:Nat):Int)))=some j
 | [],i,j,h=>by simp at h
 | p :: r,i,0,h=>by simp [bK,List.findIdx?_cons]
 | p :: r,i,j+1,h=>by
  have:=find_born r (i+1) j (by simp at h;omega)
  rw [show i+1+j=i+(j+1) by omega] at this
  simp only [bK,List.findIdx?_cons]
  rw [if_neg (by simp;omega),this]
  rfl
theorem VQ {w:World}{M:Nat}{l:LL}(h:dO w M l){j:Nat}(hj:j < l.length)(v:Int):∃ w1,(Instr.entryStore 140 (.map (some M)) (goInt j) (.int .i64 v)).run Tryz.prog w=.ok () w1∧dO w1 M (Vf.jw j v l)∧w.grownBy w1 (some M):=by
 have h0:=h
 unfold dO at h
 have hg:(getObj M).run Tryz.prog w=.ok (.map (bK l 0).toArray l.length) w:=MapKept.run_getObj_map h
 have hlen:(Vf.jw j v l).length=l.length:=by unfold Vf.jw;simp
 have hset:=MapKept.run_setObj_map (P:=Tryz.prog) (.map (bK (Vf.jw j v l) 0).toArray l.length) h
 have hfi:=find_born l 0 j hj
 rw [Nat.zero_add] at hfi
 have hmod:=Lm v l 0 j
 have hs:=yn h0 (Vf.jw j v l)
 rw [hlen] at hs
 refine ⟨_,?_,hs.1,hs.2⟩
 simp [Instr.entryStore,hg,goInt,asInt,asIntOf,hfi,hmod,hset]
theorem VR {w:World}{M:Nat}{l:LL}(h:dO w M l)(k:Lk):∃ w1 w2,(Instr.mapEntry 140 (.map (some M)) (dJ k)).run Tryz.prog w=.ok (.tuple #[.int .i64 (Vf.cnt k l),goInt (Vf.idx k l)]) w1∧(Instr.lookup 140 (.map (some M)) (dJ k) false).run Tryz.prog w1=.ok (.int .i64 (Vf.cnt k l)) w1 ∧
  (Instr.entryStore 140 (.map (some M)) (.int .i64 ((Vf.idx k l:Nat):Int)) (.int .i64 (Vf.cnt k l+1))).run Tryz.prog w1=.ok () w2∧dO w2 M (Vf.bump k l)∧w.grownBy w1 (some M)∧w.grownBy w2 (some M):=by
 obtain ⟨w1,h1,h2,h3⟩:=VP h k
 obtain ⟨e1,e2,e3⟩:=Vf.EG k l
 obtain ⟨w2,h4,h5,h6⟩:=VQ h2 e2 (Vf.cnt k l+1)
 have hl:=EJ h2 k
 have ec:Vf.cnt k (Vf.iU k l)=Vf.cnt k l:=by
  conv=>lhs;unfold Vf.cnt
  rw [e1,e3]
  rfl
 rw [ec] at hl
 exact ⟨w1,w2,h1,hl,h4,h5,h3,⟨h6.os.trans h3.os,h6.tape.trans h3.tape,h6.output.trans h3.output,Nat.le_trans h3.size h6.size,fun j hj hne=>(h6.block j (by have:=h3.size;omega) hne).trans (h3.block j hj hne)⟩⟩
end Go.Proofs.YthffafaoobpedaaGreatDoor
namespace Go.Proofs.YthffafaoobpedaaGreatDoor
namespace Vf
theorem Lv (k:Lk):∀ (l l':LL),l.map (·.1)=l'.map (·.1)→idx k l=idx k l'
 | [],[],_=>rfl
 | [],_ :: _,h=>by cases h
 | _ :: _,[],h=>by cases h
 | p :: r,p' :: r',h=>by
  simp only [List.map_cons,List.cons.injEq] at h
  unfold idx
  rw [h.1,Lv k r r' h.2]
theorem Lx (j:Nat)(v:Int):∀ l:LL,(jw j v l).map (·.1)=l.map (·.1):=by
 induction j with
 | zero=>intro l;cases l <;> rfl
 | succ j ih =>
  intro l
  cases l with
  | nil=>rfl
  | cons p r =>
   show p.1 :: (jw j v r).map (·.1)=_
   rw [ih r]
   rfl
theorem EK (j:Nat)(v:Int):∀ (l:LL) (i:Nat),(jw j v l)[i]?=if i=j then (l[i]?).map (fun p=>(p.1,v)) else l[i]?:=by
 intro l i
 unfold jw
 rw [List.getElem?_modify]
 by_cases h:j=i
 ·subst h;simp
 ·rw [if_neg (fun e=>h e.symm)]
  cases l[i]? <;> simp [h]
theorem LA {k k':Lk}(hk:k'≠k)(v:Int):∀ l:LL,(idx k' (l ++ [(k,v)]) < l.length ↔ idx k' l < l.length)∧(idx k' l < l.length→idx k' (l ++ [(k,v)])=idx k' l)∧(¬ idx k' l < l.length→idx k' (l ++ [(k,v)])=l.length+1)
 | []=>by simp [idx,hk]
 | p :: r=>by
  have ih:=LA hk v r
  show ((if k'=p.1 then 0 else idx k' (r ++ [(k,v)])+1) < _ ↔ (if k'=p.1 then 0 else idx k' r+1) < _)∧_
  by_cases hp:k'=p.1
  ·refine ⟨by simp [hp],fun _=>?_,fun h=>?_⟩
   ·show (if k'=p.1 then 0 else idx k' (r ++ [(k,v)])+1)=(if k'=p.1 then 0 else idx k' r+1)
    rw [if_pos hp,if_pos hp]
   ·exfalso
    apply h
    show (if k'=p.1 then 0 else idx k' r+1) < _
    rw [if_pos hp];simp
  ·refine ⟨?_,fun h=>?_,fun h=>?_⟩
   ·rw [if_neg hp,if_neg hp]
    simp only [List.length_cons]
    have:=ih.1
    omega
   ·show (if k'=p.1 then 0 else idx k' (r ++ [(k,v)])+1)=(if k'=p.1 then 0 else idx k' r+1)
    have h':(if k'=p.1 then 0 else idx k' r+1) < (p :: r).length:=h
    rw [if_neg hp] at h' ⊢
    rw [if_neg hp,ih.2.1 (by simp at h';omega)]
   ·show (if k'=p.1 then 0 else idx k' (r ++ [(k,v)])+1)=_
    have h':¬ (if k'=p.1 then 0 else idx k' r+1) < (p :: r).length:=h
    rw [if_neg hp] at h' ⊢
    rw [ih.2.2 (by simp at h';omega)]
    rfl
theorem A8 {k:Lk}{l:LL}(h:¬ idx k l < l.length):cnt k l=0:=EI h
theorem qQ (k k':Lk)(l:LL):cnt k' (bump k l)=if k'=k then cnt k l+1 else cnt k' l:=by
 obtain ⟨e1,e2,e3⟩:=EG k l
 have hi:∀ q,idx q (bump k l)=idx q (iU k l):=fun q=>Lv q _ _ (Lx _ _ _)
 by_cases hk:k'=k
 ·subst hk
  rw [if_pos rfl]
  conv=>lhs;unfold cnt
  rw [hi,e1]
  unfold bump
  rw [EK,if_pos rfl,e3]
  rfl
 ·rw [if_neg hk]
  conv=>lhs;unfold cnt
  rw [hi]
  unfold bump
  unfold iU at e2 e3 ⊢
  by_cases h:idx k l < l.length
  ·rw [if_pos h] at e2 e3 ⊢
   by_cases h':idx k' l < l.length
   ·obtain ⟨v,hv⟩:=qP h
    obtain ⟨v',hv'⟩:=qP h'
    have hne:idx k' l≠idx k l:=fun e=>by rw [e,hv] at hv';cases hv';exact hk rfl
    rw [EK,if_neg hne]
    rfl
   ·rw [List.getElem?_eq_none (by unfold jw;simp;omega),A8 h']
    rfl
  ·rw [if_neg h] at e2 e3 ⊢
   obtain ⟨o1,o2,o3⟩:=LA hk 0 l
   have hkl:idx k l=l.length:=by have:=AY k l;omega
   by_cases h':idx k' l < l.length
   ·rw [o2 h',EK,if_neg (by omega),List.getElem?_append_left h']
    rfl
   ·rw [o3 h',List.getElem?_eq_none (by unfold jw;simp),A8 h']
    rfl
structure Wl (l:LL):Prop where
 nodup:(l.map (·.1)).Nodup
 pos:∀ p ∈ l,1≤p.2
theorem sS {p:Lk × Int}:∀ {l:LL},(l.map (·.1)).Nodup→p ∈ l→cnt p.1 l=p.2∧idx p.1 l < l.length
 | [],_,h=>by cases h
 | q :: r,hn,h=>by
  simp only [List.map_cons,List.nodup_cons] at hn
  by_cases hq:p.1=q.1
  ·have hpq:p=q:=by
    rcases List.mem_cons.1 h with h1 | h1
    ·exact h1
    ·exact absurd (List.mem_map.2 ⟨p,h1,hq⟩) hn.1
   subst hpq
   have e:idx p.1 (p :: r)=0:=by unfold idx;rw [if_pos rfl]
   unfold cnt
   rw [e]
   exact ⟨rfl,by simp⟩
  ·have hr:p ∈ r:=by
    rcases List.mem_cons.1 h with h1 | h1
    ·exact absurd (by rw [h1]) hq
    ·exact h1
   obtain ⟨h1,h2⟩:=sS hn.2 hr
   have e:idx p.1 (q :: r)=idx p.1 r+1:=by rw [idx,if_neg hq]
   unfold cnt at h1 ⊢
   rw [e]
   exact ⟨h1,by simp;omega⟩
theorem LC {k:Lk}{l:LL}(h:idx k l < l.length):(k,cnt k l) ∈ l:=by
 obtain ⟨v,hv⟩:=qP h
 have e:cnt k l=v:=by unfold cnt;rw [hv];rfl
 rw [e]
 exact List.mem_of_getElem? hv
theorem vL {l:LL}(h:Wl l)(k:Lk):0≤cnt k l:=by
 by_cases hi:idx k l < l.length
 ·have:=h.pos _ (LC hi);simp at this;omega
 ·rw [A8 hi];omega
theorem LD {l:LL}(h:Wl l){k:Lk}:idx k l < l.length ↔ 1≤cnt k l:=by
 constructor
 ·intro hi;exact h.pos _ (LC hi)
 ·intro hc
  by_cases hi:idx k l < l.length
  ·exact hi
  ·rw [A8 hi] at hc;omega
theorem LF (k:Lk)(l:LL):(bump k l).map (·.1)=(iU k l).map (·.1):=Lx _ _ _
theorem Wl.bump {l:LL}(h:Wl l)(k:Lk):Wl (Vf.bump k l):=by
 have hnd:((Vf.bump k l).map (·.1)).Nodup:=by
  rw [LF]
  unfold iU
  split
  ·exact h.nodup
  ·rename_i hi
   rw [List.map_append,List.nodup_append]
   refine ⟨h.nodup,by simp,fun a ha b hb e=>?_⟩
   simp at hb
   subst hb
   subst e
   obtain ⟨p,hp,hpk⟩:=List.mem_map.1 ha
   have:=(sS h.nodup hp).2
   rw [hpk] at this
   exact hi this
 refine ⟨hnd,fun p hp=>?_⟩
 have h1:=(sS hnd hp).1
 rw [← h1,qQ]
 split
 ·have:=vL h k;omega
 ·rename_i hne
  have h2:=(sS hnd hp).2
  -- it was there ahead
  have h3:p.1 ∈ (Vf.bump k l).map (·.1):=List.mem_map.2 ⟨p,hp,rfl⟩
  rw [LF] at h3
  unfold iU at h3
  split at h3
  ·obtain ⟨q,hq,hqk⟩:=List.mem_map.1 h3
   have:=h.pos q hq
   have h4:=(sS h.nodup hq).1
   rw [hqk] at h4
   omega
  ·rw [List.map_append] at h3
   rcases List.mem_append.1 h3 with h5 | h5
   ·obtain ⟨q,hq,hqk⟩:=List.mem_map.1 h5
    have:=h.pos q hq
    have h4:=(sS h.nodup hq).1
    rw [hqk] at h4
    omega
   ·simp at h5;exact absurd h5 hne
theorem Wl.nil:Wl []:=⟨by simp,fun p hp=>by cases hp⟩
def tot (l:LL):Int:=(l.map (·.2)).sum
theorem VS (l:LL)(p:Lk × Int):tot (l ++ [p])=tot l+p.2:=by unfold tot;simp
theorem LG {v:Int}:∀ (l:LL) (j:Nat) (p:Lk × Int),l[j]?=some p→tot (jw j v l)=tot l - p.2+v
 | [],j,p,h=>by simp at h
 | q :: r,0,p,h=>by
  simp at h
  subst h
  show ((v :: r.map (·.2)).sum:Int)=(q.2 :: r.map (·.2)).sum - q.2+v
  simp
  omega
 | q :: r,j+1,p,h=>by
  have:=LG (v:=v) r j p (by simpa using h)
  have e1:tot (jw (j+1) v (q :: r))=q.2+tot (jw j v r):=by show (q.2 :: (jw j v r).map (·.2)).sum=_;simp [tot]
  have e2:tot (q :: r)=q.2+tot r:=by simp [tot]
  omega
theorem LH (k:Lk)(l:LL):tot (bump k l)=tot l+1:=by
 obtain ⟨e1,e2,e3⟩:=EG k l
 unfold bump
 rw [LG _ _ _ e3]
 have:tot (iU k l)=tot l:=by
  unfold iU
  split
  ·rfl
  ·rw [VS];simp
 simp only
 omega
def univ:List Lk:=(List.range 30).flatMap fun (a:Nat)=>[((23:Int),(a:Int)),((29:Int),(a:Int))]
theorem LJ {op:Int}{a:Nat}(ho:op=23∨op=29)(ha:a < 30):(op,(a:Int)) ∈ univ:=by
 unfold univ
 rw [List.mem_flatMap]
 exact ⟨a,List.mem_range.2 ha,by rcases ho with rfl | rfl <;> simp⟩
theorem VT:univ.length=60:=by decide
def eQ (l:LL):Nat:=univ.countP (fun k=>decide (cnt k l=0))
theorem EL {α:Type}{p q:α→Bool}(h:∀ x,q x=true→p x=true):∀ {l:List α} {x:α},x ∈ l→p x=true→q x=false→l.countP q+1≤l.countP p
 | y :: l,x,hx,hp,hq=>by
  have hle:l.countP q≤l.countP p:=List.countP_mono_left (fun z _=>h z)
  rcases List.mem_cons.1 hx with rfl | hx
  ·rw [List.countP_cons_of_neg (by rw [hq];decide),List.countP_cons_of_pos hp]
   omega
  ·have:=EL h hx hp hq
   rw [List.countP_cons,List.countP_cons]
   have h1:=h y
   cases VU:q y
   ·simp;omega
   ·rw [h1 VU];simp;omega
theorem LK {l:LL}(h:Wl l)(k:Lk):eQ (bump k l)≤eQ l:=List.countP_mono_left (fun q _ hq=>by
 simp only [decide_eq_true_eq] at hq ⊢
 rw [qQ] at hq
 split at hq
 ·have:=vL h k;omega
 ·exact hq)
theorem LM {l:LL}(h:Wl l){k:Lk}(hk:k ∈ univ)(h0:cnt k l=0):eQ (bump k l)+1≤eQ l:=EL (fun q hq=>by
 simp only [decide_eq_true_eq] at hq ⊢
 rw [qQ] at hq
 split at hq
 ·have:=vL h k;omega
 ·exact hq) hk (by simpa using h0) (by simp [qQ,h0])
def mh (lG:Int→LL→LL)(c:Ins)(l:LL):LL :=
 if c.op=26∨c.op=27 then bump (c.op,c.a) l
 else if c.op=23∨c.op=29 then (if cnt (c.op,c.a) l=0 then lG c.a (bump (c.op,c.a) l) else bump (c.op,c.a) l)
 else l
def nA (lG:Int→LL→LL)(cs:List Ins)(l:LL):LL:=cs.foldl (fun l c=>mh lG c l) l
def gU (m:Md):Nat→Int→LL→LL
 | 0,_,l=>l
 | f+1,n,l=>nA (gU m f) (unit m n).code l
structure Gd (d:Int) (l l':LL):Prop where
 wl:Wl l'
 eQ:Vf.eQ l'≤Vf.eQ l
 tot:Vf.tot l'+4000 * Vf.eQ l'≤Vf.tot l+4000 * Vf.eQ l+d
theorem LP {m:Md}{u:Un}{c:Ins}{l:LL}{lG:Int→LL→LL}(hmu:m.units.length≤30)(hf:bD m u c=0)(hl:Wl l)(hrec:∀ n l,Wl l→Gd 4000 l (lG n l)):Gd 1 l (mh lG c l):=by
 have hb:Gd 1 l (bump (c.op,c.a) l):=⟨hl.bump _,LK hl _,by have:=LK hl (c.op,c.a);rw [LH];omega⟩
 unfold mh
 split
 ·exact hb
 ·split
  ·rename_i h1 h2
   split
   ·rename_i h0
    have hr:=hrec c.a _ hb.wl
    obtain ⟨_,_,hrg⟩:=oZ hf
    have hk:∃ k:Nat,c.a=k∧k < 30:=by
     have:∃ kd,is m kd c.a=true:=by
      rcases h2 with h | h
      ·refine ⟨2,?_⟩
       rw [← hrg]
       unfold ranged
       rw [if_neg (by omega),if_neg (by omega),if_neg (by omega),if_pos h]
      ·refine ⟨3,?_⟩
       rw [← hrg]
       unfold ranged
       rw [if_neg (by omega),if_neg (by omega),if_neg (by omega),if_neg (by omega),if_pos h]
     obtain ⟨kd,this⟩:=this
     obtain ⟨x,h3,_,h4⟩:=kg this
     have:=(List.getElem?_eq_some_iff.1 h3).1
     exact ⟨c.a.toNat,by omega,by omega⟩
    obtain ⟨k,hka,LQ⟩:=hk
    have hn:=LM hl (k:=(c.op,c.a)) (by rw [hka];exact LJ h2 LQ) h0
    have ht:=hr.tot
    rw [LH] at ht
    exact ⟨hr.wl,Nat.le_trans hr.eQ hb.eQ,by omega⟩
   ·exact hb
  ·exact ⟨hl,Nat.le_refl _,by omega⟩
theorem LU {m:Md}{u:Un}{lG:Int→LL→LL}(hmu:m.units.length≤30)(hrec:∀ n l,Wl l→Gd 4000 l (lG n l)):∀ (cs:List Ins) (l:LL),(∀ c ∈ cs,bD m u c=0)→Wl l→Gd cs.length l (nA lG cs l)
 | [],l,_,hl=>⟨hl,Nat.le_refl _,by show tot l+4000 * (eQ l:Int)≤tot l+4000 * (eQ l:Int)+((0:Nat):Int);omega⟩
 | c :: cs,l,hf,hl=>by
  have h1:=LP hmu (hf c List.mem_cons_self) hl hrec
  have h2:=LU hmu hrec cs (mh lG c l) (fun c hc=>hf c (List.mem_cons_of_mem _ hc)) h1.wl
  have e:nA lG (c :: cs) l=nA lG cs (mh lG c l):=rfl
  rw [e]
  have t1:=h1.tot
  have t2:=h2.tot
  exact ⟨h2.wl,Nat.le_trans h2.eQ h1.eQ,by simp only [List.length_cons];omega⟩
theorem LV {m:Md}(hR:Rt m)(n:Int):(unit m n).code.length≤4000∧∀ c ∈ (unit m n).code,bD m (unit m n) c=0:=by
 unfold unit
 cases h:m.units[n.toNat]? with
 | none=>exact ⟨by simp,fun c hc=>by cases hc⟩
 | some u=>exact ⟨(jI (ig (hR.heads _ u h).1).2.1).2.2.2.2.2,(hR.heads _ u h).2⟩
theorem LW {m:Md}(hR:Rt m):∀ (f:Nat) (n:Int) (l:LL),Wl l→Gd 4000 l (gU m f n l)
 | 0,_,l,hl=>⟨hl,Nat.le_refl _,by show tot l+4000 * (eQ l:Int)≤tot l+4000 * (eQ l:Int)+4000;omega⟩
 | f+1,n,l,hl=>by
  have hu:=LV hR n
  have h:=LU (u:=unit m n) hR.units (LW hR f) (unit m n).code l hu.2 hl
  exact ⟨h.wl,h.eQ,by have:=h.tot;show tot (nA _ _ _)+4000 * ((eQ (nA _ _ _):Nat):Int)≤_;omega⟩
end Vf
end Go.Proofs.YthffafaoobpedaaGreatDoor
namespace Go.Proofs.YthffafaoobpedaaGreatDoor
open Go.RowKit
namespace Vf
def comes (m:Md)(i:Nat)(q:Lk):Bool:=decide (1≤cnt q (gU m 61 (i:Int) []))
def tc (m:Md)(q:Lk)(k:Nat):Nat:=(List.range k).countP (fun (i:Nat)=>is m 4 (i:Int) && comes m i q)
theorem LX (m:Md)(q:Lk)(k:Nat):tc m q (k+1)=tc m q k+if (is m 4 (k:Int) && comes m k q)=true then 1 else 0:=by
 unfold tc
 rw [List.range_succ,List.countP_append,List.countP_singleton]
theorem VV (m:Md)(q:Lk)(k:Nat):tc m q k≤k:=by
 have:=List.countP_le_length (p:=fun (i:Nat)=>is m 4 (i:Int) && comes m i q) (l:=List.range k)
 rw [List.length_range] at this
 exact this
def kM (m:Md)(n:Nat):Int:=if 1 < tc m (26,(n:Int)) m.units.length∨1 < tc m (27,(n:Int)) m.units.length then 8 else 0
def vM (m:Md):Int × Nat:=cO (kM m) (List.range m.boxes.length) 0
theorem VW:eQ []=60:=by
 unfold eQ
 rw [List.countP_eq_length.2 (fun k _=>by simp [cnt,idx]),VT]
end Vf
def eH (w:World)(T:Nat)(f:Lk→Int):Prop:=∃ l,dO w T l∧Vf.Wl l∧∀ q,Vf.cnt q l=f q
theorem eH.keep {w w':World}{T:Nat}{f:Lk→Int}(h:eH w T f)(hk:w'.heap[T]?=w.heap[T]?):eH w' T f:=by
 obtain ⟨l,h1,h2⟩:=h
 exact ⟨l,hk.trans h1,h2⟩
theorem eH.lt {w:World}{T:Nat}{f:Lk→Int}(h:eH w T f):T < w.heap.size:=by
 obtain ⟨l,h1,_⟩:=h
 exact lt_of_block h1
def told (G:LL)(seen:List Nat)(q:Lk):Int:=if Vf.idx q G ∈ seen then 1 else 0
theorem VX {G:LL}(hG:Vf.Wl G){seen:List Nat}{i:Nat}{p:Lk × Int}(hp:G[i]?=some p)(hi:i ∉ seen)(q:Lk):told G (seen ++ [i]) q=told G seen q+if q=p.1 then 1 else 0:=by
 have hm:p ∈ G:=List.mem_of_getElem? hp
 have hx:=Vf.sS hG.nodup hm
 -- the key's first place is this one
 have hix:Vf.idx p.1 G=i:=by
  obtain ⟨v,hv⟩:=Vf.qP hx.2
  have hlt:=(List.getElem?_eq_some_iff.1 hp).1
  have h1:(G.map (·.1))[Vf.idx p.1 G]?=some p.1:=by rw [List.getElem?_map,hv];rfl
  have h2:(G.map (·.1))[i]?=some p.1:=by rw [List.getElem?_map,hp];rfl
  exact (List.getElem?_inj (by simpa using hx.2) hG.nodup).1 (h1.trans h2.symm)
 unfold told
 by_cases hq:q=p.1
 ·subst hq
  rw [hix,if_pos (by simp),if_neg hi,if_pos rfl]
  rfl
 ·rw [if_neg hq]
  have:Vf.idx q G≠i:=fun e=>by
   have hlt:=(List.getElem?_eq_some_iff.1 hp).1
   obtain ⟨v,hv⟩:=Vf.qP (k:=q) (l:=G) (by omega)
   rw [e,hp] at hv
   cases hv
   exact hq rfl
  simp [this]
theorem VY {G:LL}(hG:Vf.Wl G){seen:List Nat}(h:∀ i,i < G.length→i ∈ seen)(h':∀ i ∈ seen,i < G.length)(q:Lk):told G seen q=if (decide (1≤Vf.cnt q G))=true then 1 else 0:=by
 unfold told
 by_cases hc:Vf.idx q G < G.length
 ·rw [if_pos (h _ hc),if_pos (by simpa using (Vf.LD hG).1 hc)]
 ·rw [if_neg (fun hm=>hc (h' _ hm)),if_neg (by simpa using fun hc'=>hc ((Vf.LD hG).2 hc'))]
end Go.Proofs.YthffafaoobpedaaGreatDoor
