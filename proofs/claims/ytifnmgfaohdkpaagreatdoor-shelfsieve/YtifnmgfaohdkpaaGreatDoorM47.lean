/- The calls that our machine takes as a whole,and reader.kids$1. -/
import Derived.Test.YtifnmgfaohdkpaaGreatDoorM44
import Derived.Test.YtifnmgfaohdkpaaGreatDoorM46
import Derived.Test.YtifnmgfaohdkpaaGreatDoorM45
namespace Go.Proofs.YtifnmgfaohdkpaaGreatDoor
open Go.RowKit
namespace Xe
noncomputable def yx:Sp:=fun call f args s=>bB (Nat.beq f 249) (some (JX Tryz.prog call f args s)) (iG 196 31 217 call f args s)
theorem Bu:Tryz.prog.follows .mixedOrders=true:=by kernel_rfl
theorem Et:xY Tryz.prog yx:=by
 intro call hC f args s v s' h
 unfold yx at h
 rw [bK,dA] at h
 split at h
 ·exact adI o9 Bu hC (Option.some.inj h)
 ·exact acO call hC f args s v s' h
noncomputable def J4:Cl:=func Tryz.prog yx 60 false
theorem Sv:fH Tryz.prog J4:=(D5 o9 Et (fun call hC=>Eg o9 Bu call hC) 60).1
end Xe
end Go.Proofs.YtifnmgfaohdkpaaGreatDoor
namespace Go.Proofs.YtifnmgfaohdkpaaGreatDoor
end Go.Proofs.YtifnmgfaohdkpaaGreatDoor
namespace Go.Proofs.YtifnmgfaohdkpaaGreatDoor
open Go.RowKit
namespace Xe
noncomputable section
def J5 (l:List (Nat × List Value)):Hp:=fun x=>@List.rec (Nat × List Value) (fun _=>Option Obj) none (fun p _ ih=>pB p fun y row=>bB (Nat.beq x y) (some (.cells row.toArray 0)) ih) l
structure vP where
 f:Nat
 arg:List UInt8
 c0:Nat
 v:Value
 c1:Nat
 rows:List (Nat × List Value)
def vQ (o:Option Obj)(row:List Value):Bool:=@Option.rec (List Value) (fun _=>Bool) false (fun l=>all2 xK l row) (rowOf o)
def yz (r:Option (Value × S))(m:vP):Bool:=@Option.rec (Value × S) (fun _=>Bool) false (fun p=>pB p fun v s=>sB s fun c h _=>xL v m.v && (Nat.ble c m.c1 && (m.rows.all fun q=>pB q fun x row=>Nat.ble m.c0 x && vQ (h x) row))) r
def Eu (h:Hp):Bool:=vQ (h 0) qR && (vQ (h 1) sj && vQ (h 2) su)
def merge (c:Nat)(h:Hp)(l:List (Nat × List Value)):Hp:=fun x=>bB (Nat.ble c x) (J5 l x) (l8 (h x))
def Bv (m:vP)(next:Sp):Sp:=fun call f args s=>bB (Nat.beq f m.f) (lB args (next call f args s) fun a r=>lB r (kN a (next call f args s) fun b=>sB s fun c h ds=>bB (mX (sL b) m.arg && (Nat.ble c m.c0 && Eu h)) (some (some (m.v,⟨m.c1,merge m.c0 h m.rows,ds⟩))) (next call f args s)) fun _ _=>next call f args s) (next call f args s)
end
theorem Sw:∀ {l:List (Nat × List Value)} {x:Nat} {o:Obj},J5 l x=some o→∃ row,(x,row) ∈ l∧o=.cells row.toArray 0
 | [],_,_,h=>by cases h
 | (y,row) :: l,x,o,h=>by
  have h':(bB (Nat.beq x y) (some (.cells row.toArray 0)) (J5 l x):Option Obj)=some o:=h
  rw [bK,dA] at h'
  split at h'
  ·rename_i e
   have e:x=y:=by simpa using e
   subst e
   cases h'
   exact ⟨row,by simp,rfl⟩
  ·obtain ⟨r,h1,h2⟩:=Sw h'
   exact ⟨r,List.mem_cons_of_mem _ h1,h2⟩
theorem Ew {o:Option Obj}{row:List Value}(h:vQ o row=true):∃ c e f,o=some (.cells c e f)∧c.toList=row:=by
 unfold vQ at h
 cases o with
 | none=>cases h
 | some o =>
  cases o <;> first | cases h | skip
  rename_i c e f
  have h':all2 xK (aL c) row=true:=h
  rw [bE] at h'
  exact ⟨c,e,f,rfl,xZ (fun _ _=>JA) h'⟩
theorem Ey {φ:Ph}{w:World}{x:Nat}{c c':Array Value}{e e':TypeId}{f f':Nat × Nat}(hc:c.toList=c'.toList)(h:OR φ w x (.cells c e f)):OR φ w x (.cells c' e' f'):=by
 have:c=c':=Array.toList_inj.1 hc
 subst this
 exact h
theorem adJ {m:vP}{cl:Cl}(hcl:fH Tryz.prog cl)(hm:yz (cl m.f [.string ⟨⟨m.arg⟩⟩] ⟨m.c0,h0,[]⟩) m=true){b:ByteArray}(hb:sL b=m.arg){c:Nat}{h:Hp}{ds:List (FuncId × List Value)}(hc:c≤m.c0)(hT:Eu h=true) :
  DV Tryz.prog m.f [.string b] ⟨c,h,ds⟩ m.v ⟨m.c1,merge m.c0 h m.rows,ds⟩:=by
 have hbb:b=⟨⟨m.arg⟩⟩:=by
  cases b with
  | mk d =>
   cases d with
   | mk l =>
    have:l=m.arg:=hb
    rw [this]
 subst hbb
 unfold yz at hm
 cases hr:cl m.f [.string ⟨⟨m.arg⟩⟩] ⟨m.c0,h0,[]⟩ with
 | none=>rw [hr] at hm;cases hm
 | some p =>
 obtain ⟨v',s'⟩:=p
 rw [hr] at hm
 have hm:(xL v' m.v && (Nat.ble s'.c m.c1 && (m.rows.all fun q=>Nat.ble m.c0 q.1 && vQ (s'.h q.1) q.2)))=true:=hm
 rw [Bool.and_eq_true,Bool.and_eq_true,dx] at hm
 obtain ⟨hv,hc1,hrows⟩:=hm
 have hv:=Ri hv
 subst hv
 have hc1:s'.c≤m.c1:=by simpa using hc1
 have hrow:∀ x row,(x,row) ∈ m.rows→m.c0≤x∧∃ c e f,s'.h x=some (.cells c e f)∧c.toList=row:=fun x row hx=>by
  have h1:=List.all_eq_true.1 hrows (x,row) hx
  rw [Bool.and_eq_true,dx] at h1
  exact ⟨by simpa using h1.1,Ew h1.2⟩
 obtain ⟨hds,hbody,hcall⟩:=hcl _ _ _ _ _ hr
 unfold Eu at hT
 rw [Bool.and_eq_true,Bool.and_eq_true] at hT
 obtain ⟨t0,t1,t2⟩:=hT
 obtain ⟨d0,e0,f0,g0,q0⟩:=Ew t0
 obtain ⟨d1,e1,f1,g1,q1⟩:=Ew t1
 obtain ⟨d2,e2,f2,g2,q2⟩:=Ew t2
 refine ⟨rfl,hbody,fun φ w args' hL hS=>?_⟩
 have hlow:∀ x o,h0 x=some o→x < 3∧OR φ w x o:=by
  intro x o hx
  rcases yj hx with ⟨rfl,rfl⟩ | ⟨rfl,rfl⟩ | ⟨rfl,rfl⟩
  ·exact ⟨by omega,Ey q0 (hS.rel.obj 0 _ g0)⟩
  ·exact ⟨by omega,Ey q1 (hS.rel.obj 1 _ g1)⟩
  ·exact ⟨by omega,Ey q2 (hS.rel.obj 2 _ g2)⟩
 have hlive:∀ x,live h0 x→x < 3∧live h x:=fun x hx=>by
  obtain ⟨o,ho,_⟩:=hx
  rcases yj ho with ⟨rfl,_⟩ | ⟨rfl,_⟩ | ⟨rfl,_⟩
  ·exact ⟨by omega,_,g0,trivial⟩
  ·exact ⟨by omega,_,g1,trivial⟩
  ·exact ⟨by omega,_,g2,trivial⟩
 have hS0:fQ φ ⟨m.c0,h0,[]⟩ w:=⟨⟨fun x o hx=>(hlow x o hx).2,fun x y g g' hx hy=>hS.rel.inj x y g g' (hlive x hx).2 (hlive y hy).2,hS.rel.bnd,hS.rel.jZ⟩,fun x hx=>hS.fr x (Nat.le_trans hc hx)⟩
 refine (hcall φ w args' hL hS0).mono ?_
 rintro e w' ⟨φ',v',rfl,hV,hP⟩
 refine ⟨φ',v',rfl,hV,?_⟩
 have hkept:∀ g,g < w.heap.size→w'.heap[g]?=w.heap[g]?:=fun g hg=>hP.ext.kept g hg fun x _ hx hl=>by have:=(hlive x hl).1;omega
 have hnews:∀ x g,φ x=none→φ' x=some g→w.heap.size≤g.b:=fun x g h1 h2=>by
  rcases hP.ext.news x g h1 h2 with h | ⟨y,_,hy,hl,_⟩
  ·exact h
  ·have:=(hlive y hl).1;omega
 have Sy:∀ x o,merge m.c0 h m.rows x=some o→(m.c0≤x∧OR φ' w' x o∧live s'.h x)∨(x < m.c0∧h x=some o):=by
  intro x o hx
  unfold merge at hx
  rw [bK,dx] at hx
  split at hx
  ·rename_i hle
   obtain ⟨row,h1,rfl⟩:=Sw hx
   obtain ⟨_,cc,ee,ff,h2,h5⟩:=hrow x row h1
   exact .inl ⟨by simpa using hle,Ey (by rw [h5]) (hP.stt.rel.obj x _ h2),_,h2,trivial⟩
  ·rename_i hle
   rw [qO] at hx
   exact .inr ⟨by simpa using hle,hx⟩
 have iA:∀ x,live (merge m.c0 h m.rows) x→(m.c0≤x∧live s'.h x)∨(x < m.c0∧live h x):=fun x ⟨o,ho,hi⟩=>by
  rcases Sy x o ho with ⟨a,_,b⟩ | ⟨a,b⟩
  ·exact .inl ⟨a,b⟩
  ·exact .inr ⟨a,o,b,hi⟩
 have Sz:∀ x y g g',(x < m.c0∧live h x)→(m.c0≤y∧live s'.h y)→φ' x=some g→φ' y=some g'→g.b≠g'.b:=by
  intro x y g g' hx hy hg hg' he
  obtain ⟨gx,hgx⟩:=hS.rel.has hx.2
  have h1:=hP.ext.sub x gx hgx
  rw [hg] at h1
  cases h1
  have h2:=hS.rel.bnd x g hgx
  have h3:=hnews y g' (hS.fr y (Nat.le_trans hc hy.1)) hg'
  omega
 refine ⟨⟨⟨fun x o hx=>?_,fun x y g g' hx hy hg hg' he=>?_,hP.stt.rel.bnd,hP.stt.rel.jZ⟩,fun x hx=>hP.stt.fr x (Nat.le_trans hc1 hx)⟩,⟨hP.ext.sub,hP.ext.size,fun x g h1 h2=>.inl (hnews x g h1 h2),fun g hg _=>hkept g hg,hP.ext.out⟩,Nat.le_trans hc (Nat.le_trans hP.le hc1),fun x h1 h2=>Nat.le_trans hc (hP.new x h1 h2),fun x hx=>?_⟩
 ·rcases Sy x o hx with ⟨_,h1,_⟩ | ⟨_,h1⟩
  ·exact h1
  ·exact (hS.rel.obj x o h1).mono hP.ext.sub fun g hg=>hkept _ (hS.rel.bnd x g hg)
 ·rcases iA x hx with h1 | h1 <;> rcases iA y hy with h2 | h2
  ·exact hP.stt.rel.inj x y g g' h1.2 h2.2 hg hg' he
  ·exact absurd he.symm (Sz y x g' g h2 h1 hg' hg)
  ·exact absurd he (Sz x y g g' h1 h2 hg hg')
  ·obtain ⟨gx,hgx⟩:=hS.rel.has h1.2
   obtain ⟨gy,gM⟩:=hS.rel.has h2.2
   have k1:=hP.ext.sub x gx hgx
   have k2:=hP.ext.sub y gy gM
   rw [hg] at k1
   rw [hg'] at k2
   cases k1
   cases k2
   exact hS.rel.inj x y g g' h1.2 h2.2 hgx gM he
 ·rcases iA x hx with h1 | h1
  ·exact .inr (hS.fr x (Nat.le_trans hc h1.1))
  ·exact .inl h1.2
theorem J6 {m:vP}{cl:Cl}{next:Sp}(hcl:fH Tryz.prog cl)(hm:yz (cl m.f [.string ⟨⟨m.arg⟩⟩] ⟨m.c0,h0,[]⟩) m=true)(hn:xY Tryz.prog next):xY Tryz.prog (Bv m next):=by
 intro call hC f args s v s' h
 unfold Bv at h
 rw [bK,dA] at h
 split at h
 ·rename_i hf
  have hf:f=m.f:=by simpa using hf
  subst hf
  cases args with
  | nil=>exact hn call hC _ _ _ _ _ h
  | cons a r =>
   cases r with
   | cons x y=>exact hn call hC _ _ _ _ _ h
   | nil =>
    rw [AL,AJ] at h
    cases a <;> first | exact hn call hC _ _ _ _ _ h | skip
    rename_i b
    have h':sB s (fun c hh ds=>bB (mX (sL b) m.arg && (Nat.ble c m.c0 && Eu hh)) (some (some (m.v,(⟨m.c1,merge m.c0 hh m.rows,ds⟩:S)))) (next call m.f [.string b] s))=some (some (v,s')):=h
    rw [jl,bK] at h'
    split at h'
    ·rename_i hcnd
     rw [Bool.and_eq_true,Bool.and_eq_true,dx] at hcnd
     obtain ⟨k1,k2,k3⟩:=hcnd
     cases h'
     exact adJ hcl hm (by rw [AV] at k1;simpa using k1) (by simpa using k2) k3
    ·exact hn call hC _ _ _ _ _ h'
 ·exact hn call hC _ _ _ _ _ h
end Xe
end Go.Proofs.YtifnmgfaohdkpaaGreatDoor
