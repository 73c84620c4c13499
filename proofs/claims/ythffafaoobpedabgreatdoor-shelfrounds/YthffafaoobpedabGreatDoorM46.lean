/- A call with a text that was reckoned once: what it answers,and what it lays,is written down. -/
import Derived.Test.YthffafaoobpedabGreatDoorM45
namespace Go.Proofs.YthffafaoobpedabGreatDoor
open Go.RowKit
namespace Xe
noncomputable section
def litH (l:List (Nat × List Value)):Hp:=fun x=>@List.rec (Nat × List Value) (fun _=>Option Obj) none (fun p _ ih=>pB p fun y row=>bB (Nat.beq x y) (some (.cells row.toArray 0)) ih) l
structure Memo where
 f:Nat
 arg:List UInt8
 c0:Nat
 v:Value
 c1:Nat
 rows:List (Nat × List Value)
def sameRow (o:Option Obj)(row:List Value):Bool:=@Option.rec (List Value) (fun _=>Bool) false (fun l=>all2 eq1 l row) (rowOf o)
def chk (r:Option (Value × S))(m:Memo):Bool:=@Option.rec (Value × S) (fun _=>Bool) false (fun p=>pB p fun v s=>sB s fun c h _=>eqV v m.v && (Nat.ble c m.c1 && (m.rows.all fun q=>pB q fun x row=>Nat.ble m.c0 x && sameRow (h x) row))) r
def tabsOk (h:Hp):Bool:=sameRow (h 0) pairL && (sameRow (h 1) truthL && sameRow (h 2) numL)
def merge (c:Nat)(h:Hp)(l:List (Nat × List Value)):Hp:=fun x=>bB (Nat.ble c x) (litH l x) (reb (h x))
def memoSp (m:Memo)(next:Sp):Sp:=fun call f args s=>bB (Nat.beq f m.f) (lB args (next call f args s) fun a r=>lB r (vStr a (next call f args s) fun b=>sB s fun c h ds=>bB (bytesEq (sL b) m.arg && (Nat.ble c m.c0 && tabsOk h)) (some (some (m.v,⟨m.c1,merge m.c0 h m.rows,ds⟩))) (next call f args s)) fun _ _=>next call f args s) (next call f args s)
end
theorem litH_some:∀ {l:List (Nat × List Value)} {x:Nat} {o:Obj},litH l x=some o→∃ row,(x,row) ∈ l∧o=.cells row.toArray 0
 | [],_,_,h=>by cases h
 | (y,row) :: l,x,o,h=>by
  have h':(bB (Nat.beq x y) (some (.cells row.toArray 0)) (litH l x):Option Obj)=some o:=h
  rw [bB_ite,beq_dec] at h'
  split at h'
  ·rename_i e
   have e:x=y:=by simpa using e
   subst e
   cases h'
   exact ⟨row,by simp,rfl⟩
  ·obtain ⟨r,h1,h2⟩:=litH_some h'
   exact ⟨r,List.mem_cons_of_mem _ h1,h2⟩
theorem sameRow_some {o:Option Obj}{row:List Value}(h:sameRow o row=true):∃ c e f,o=some (.cells c e f)∧c.toList=row:=by
 unfold sameRow at h
 cases o with
 | none=>cases h
 | some o =>
  cases o <;> first | cases h | skip
  rename_i c e f
  have h':all2 eq1 (aL c) row=true:=h
  rw [aL_eq] at h'
  exact ⟨c,e,f,rfl,all2_eq (fun _ _=>eq1_eq) h'⟩
theorem or_row {φ:Ph}{w:World}{x:Nat}{c c':Array Value}{e e':TypeId}{f f':Nat × Nat}(hc:c.toList=c'.toList)(h:OR φ w x (.cells c e f)):OR φ w x (.cells c' e' f'):=by
 have:c=c':=Array.toList_inj.1 hc
 subst this
 exact h
theorem memo_at {m:Memo}{cl:Cl}(hcl:CallOk Tryz.prog cl)(hm:chk (cl m.f [.string ⟨⟨m.arg⟩⟩] ⟨m.c0,h0,[]⟩) m=true){b:ByteArray}(hb:sL b=m.arg){c:Nat}{h:Hp}{ds:List (FuncId × List Value)}(hc:c≤m.c0)(hT:tabsOk h=true) :
  CallAt Tryz.prog m.f [.string b] ⟨c,h,ds⟩ m.v ⟨m.c1,merge m.c0 h m.rows,ds⟩:=by
 have hbb:b=⟨⟨m.arg⟩⟩:=by
  cases b with
  | mk d =>
   cases d with
   | mk l =>
    have:l=m.arg:=hb
    rw [this]
 subst hbb
 unfold chk at hm
 cases hr:cl m.f [.string ⟨⟨m.arg⟩⟩] ⟨m.c0,h0,[]⟩ with
 | none=>rw [hr] at hm;cases hm
 | some p =>
 obtain ⟨v',s'⟩:=p
 rw [hr] at hm
 have hm:(eqV v' m.v && (Nat.ble s'.c m.c1 && (m.rows.all fun q=>Nat.ble m.c0 q.1 && sameRow (s'.h q.1) q.2)))=true:=hm
 rw [Bool.and_eq_true,Bool.and_eq_true,ble_dec] at hm
 obtain ⟨hv,hc1,hrows⟩:=hm
 have hv:=eqV_eq hv
 subst hv
 have hc1:s'.c≤m.c1:=by simpa using hc1
 have hrow:∀ x row,(x,row) ∈ m.rows→m.c0≤x∧∃ c e f,s'.h x=some (.cells c e f)∧c.toList=row:=fun x row hx=>by
  have h1:=List.all_eq_true.1 hrows (x,row) hx
  rw [Bool.and_eq_true,ble_dec] at h1
  exact ⟨by simpa using h1.1,sameRow_some h1.2⟩
 obtain ⟨hds,hbody,hcall⟩:=hcl _ _ _ _ _ hr
 unfold tabsOk at hT
 rw [Bool.and_eq_true,Bool.and_eq_true] at hT
 obtain ⟨t0,t1,t2⟩:=hT
 obtain ⟨d0,e0,f0,g0,q0⟩:=sameRow_some t0
 obtain ⟨d1,e1,f1,g1,q1⟩:=sameRow_some t1
 obtain ⟨d2,e2,f2,g2,q2⟩:=sameRow_some t2
 refine ⟨rfl,hbody,fun φ w args' hL hS=>?_⟩
 have hlow:∀ x o,h0 x=some o→x < 3∧OR φ w x o:=by
  intro x o hx
  rcases h0_some hx with ⟨rfl,rfl⟩ | ⟨rfl,rfl⟩ | ⟨rfl,rfl⟩
  ·exact ⟨by omega,or_row q0 (hS.rel.obj 0 _ g0)⟩
  ·exact ⟨by omega,or_row q1 (hS.rel.obj 1 _ g1)⟩
  ·exact ⟨by omega,or_row q2 (hS.rel.obj 2 _ g2)⟩
 have hlive:∀ x,live h0 x→x < 3∧live h x:=fun x hx=>by
  obtain ⟨o,ho,_⟩:=hx
  rcases h0_some ho with ⟨rfl,_⟩ | ⟨rfl,_⟩ | ⟨rfl,_⟩
  ·exact ⟨by omega,_,g0,trivial⟩
  ·exact ⟨by omega,_,g1,trivial⟩
  ·exact ⟨by omega,_,g2,trivial⟩
 have hS0:Stt φ ⟨m.c0,h0,[]⟩ w:=⟨⟨fun x o hx=>(hlow x o hx).2,fun x y g g' hx hy=>hS.rel.inj x y g g' (hlive x hx).2 (hlive y hy).2,hS.rel.bnd,hS.rel.glo⟩,fun x hx=>hS.fr x (Nat.le_trans hc hx)⟩
 refine (hcall φ w args' hL hS0).mono ?_
 rintro e w' ⟨φ',v',rfl,hV,hP⟩
 refine ⟨φ',v',rfl,hV,?_⟩
 have hkept:∀ g,g < w.heap.size→w'.heap[g]?=w.heap[g]?:=fun g hg=>hP.ext.kept g hg fun x _ hx hl=>by have:=(hlive x hl).1;omega
 have hnews:∀ x g,φ x=none→φ' x=some g→w.heap.size≤g.b:=fun x g h1 h2=>by
  rcases hP.ext.news x g h1 h2 with h | ⟨y,_,hy,hl,_⟩
  ·exact h
  ·have:=(hlive y hl).1;omega
 have hmerge:∀ x o,merge m.c0 h m.rows x=some o→(m.c0≤x∧OR φ' w' x o∧live s'.h x)∨(x < m.c0∧h x=some o):=by
  intro x o hx
  unfold merge at hx
  rw [bB_ite,ble_dec] at hx
  split at hx
  ·rename_i hle
   obtain ⟨row,h1,rfl⟩:=litH_some hx
   obtain ⟨_,cc,ee,ff,h2,h5⟩:=hrow x row h1
   exact .inl ⟨by simpa using hle,or_row (by rw [h5]) (hP.stt.rel.obj x _ h2),_,h2,trivial⟩
  ·rename_i hle
   rw [reb_eq] at hx
   exact .inr ⟨by simpa using hle,hx⟩
 have hml:∀ x,live (merge m.c0 h m.rows) x→(m.c0≤x∧live s'.h x)∨(x < m.c0∧live h x):=fun x ⟨o,ho,hi⟩=>by
  rcases hmerge x o ho with ⟨a,_,b⟩ | ⟨a,b⟩
  ·exact .inl ⟨a,b⟩
  ·exact .inr ⟨a,o,b,hi⟩
 have hmix:∀ x y g g',(x < m.c0∧live h x)→(m.c0≤y∧live s'.h y)→φ' x=some g→φ' y=some g'→g.b≠g'.b:=by
  intro x y g g' hx hy hg hg' he
  obtain ⟨gx,hgx⟩:=hS.rel.has hx.2
  have h1:=hP.ext.sub x gx hgx
  rw [hg] at h1
  cases h1
  have h2:=hS.rel.bnd x g hgx
  have h3:=hnews y g' (hS.fr y (Nat.le_trans hc hy.1)) hg'
  omega
 refine ⟨⟨⟨fun x o hx=>?_,fun x y g g' hx hy hg hg' he=>?_,hP.stt.rel.bnd,hP.stt.rel.glo⟩,fun x hx=>hP.stt.fr x (Nat.le_trans hc1 hx)⟩,⟨hP.ext.sub,hP.ext.size,fun x g h1 h2=>.inl (hnews x g h1 h2),fun g hg _=>hkept g hg,hP.ext.out⟩,Nat.le_trans hc (Nat.le_trans hP.le hc1),fun x h1 h2=>Nat.le_trans hc (hP.new x h1 h2),fun x hx=>?_⟩
 ·rcases hmerge x o hx with ⟨_,h1,_⟩ | ⟨_,h1⟩
  ·exact h1
  ·exact (hS.rel.obj x o h1).mono hP.ext.sub fun g hg=>hkept _ (hS.rel.bnd x g hg)
 ·rcases hml x hx with h1 | h1 <;> rcases hml y hy with h2 | h2
  ·exact hP.stt.rel.inj x y g g' h1.2 h2.2 hg hg' he
  ·exact absurd he.symm (hmix y x g' g h2 h1 hg' hg)
  ·exact absurd he (hmix x y g g' h1 h2 hg hg')
  ·obtain ⟨gx,hgx⟩:=hS.rel.has h1.2
   obtain ⟨gy,hgy⟩:=hS.rel.has h2.2
   have k1:=hP.ext.sub x gx hgx
   have k2:=hP.ext.sub y gy hgy
   rw [hg] at k1
   rw [hg'] at k2
   cases k1
   cases k2
   exact hS.rel.inj x y g g' h1.2 h2.2 hgx hgy he
 ·rcases hml x hx with h1 | h1
  ·exact .inr (hS.fr x (Nat.le_trans hc h1.1))
  ·exact .inl h1.2
theorem memo_ok {m:Memo}{cl:Cl}{next:Sp}(hcl:CallOk Tryz.prog cl)(hm:chk (cl m.f [.string ⟨⟨m.arg⟩⟩] ⟨m.c0,h0,[]⟩) m=true)(hn:SpOk Tryz.prog next):SpOk Tryz.prog (memoSp m next):=by
 intro call hC f args s v s' h
 unfold memoSp at h
 rw [bB_ite,beq_dec] at h
 split at h
 ·rename_i hf
  have hf:f=m.f:=by simpa using hf
  subst hf
  cases args with
  | nil=>exact hn call hC _ _ _ _ _ h
  | cons a r =>
   cases r with
   | cons x y=>exact hn call hC _ _ _ _ _ h
   | nil =>
    rw [lB_cons,lB_nil] at h
    cases a <;> first | exact hn call hC _ _ _ _ _ h | skip
    rename_i b
    have h':sB s (fun c hh ds=>bB (bytesEq (sL b) m.arg && (Nat.ble c m.c0 && tabsOk hh)) (some (some (m.v,(⟨m.c1,merge m.c0 hh m.rows,ds⟩:S)))) (next call m.f [.string b] s))=some (some (v,s')):=h
    rw [sB_eq,bB_ite] at h'
    split at h'
    ·rename_i hcnd
     rw [Bool.and_eq_true,Bool.and_eq_true,ble_dec] at hcnd
     obtain ⟨k1,k2,k3⟩:=hcnd
     cases h'
     exact memo_at hcl hm (by rw [bytesEq_eq] at k1;simpa using k1) (by simpa using k2) k3
    ·exact hn call hC _ _ _ _ _ h'
 ·exact hn call hC _ _ _ _ _ h
end Xe
end Go.Proofs.YthffafaoobpedabGreatDoor
namespace Go.Proofs.YthffafaoobpedabGreatDoor
namespace Xe
def kRoundsT:Memo:=⟨39,[98,111,120,32,105,110,32,110,117,109,32,50,48,32,59,10,35,32,97,32,103,101,110,101,114,97,116,111,114,32,119,105,116,104,105,110,32,97,32,103,101,110,101,114,97,116,111,114,10,103,101,110,32,105,110,110,101,114,40,110,32,110,117,109,41,32,116,97,107,101,115,32,98,111,111,108,32,121,105,101,108,100,115,32,110,117,109,32,123,10,32,32,108,101,116,32,105,32,61,32,48,32,59,10,32,32,119,104,105,108,101,32,105,32,60,32,110,32,123,32,100,111,32,121,105,101,108,100,40,105,41,32,59,32,105,32,61,32,105,32,43,32,49,32,59,32,125,10,125,10,103,101,110,32,111,117,116,101,114,40,41,32,116,97,107,101,115,32,110,117,109,32,121,105,101,108,100,115,32,110,117,109,32,123,10,32,32,108,101,116,32,110,32,61,32,121,105,101,108,100,40,48,41,32,59,10,32,32,119,104,105,108,101,32,116,114,117,101,32,123,10,32,32,32,32,108,101,116,32,103,32,61,32,115,116,97,114,116,32,105,110,110,101,114,40,110,41,32,59,10,32,32,32,32,108,101,116,32,115,32,61,32,48,32,59,10,32,32,32,32,119,104,105,108,101,32,97,108,105,118,101,40,103,41,32,123,32,115,32,61,32,115,32,43,32,114,101,115,117,109,101,40,103,44,32,116,114,117,101,41,32,59,32,125,10,32,32,32,32,110,32,61,32,121,105,101,108,100,40,115,41,32,59,10,32,32,125,10,125,10,116,97,115,107,32,109,97,105,110,32,123,10,32,32,108,101,116,32,111,32,61,32,115,116,97,114,116,32,111,117,116,101,114,40,41,32,59,10,32,32,100,111,32,114,101,115,117,109,101,40,111,44,32,48,41,32,59,10,32,32,119,104,105,108,101,32,116,114,117,101,32,123,32,111,117,116,32,114,101,115,117,109,101,40,111,44,32,114,101,99,118,40,105,110,41,41,32,59,32,125,10,125,10],200000,.tuple #[.slice (some ⟨237639,0,none⟩) 136 4,.agg #[.int .i64 0,.int .i64 0]],237736,[(237639,[.int .i64 1,.string ⟨#[98,111,120]⟩,.int .i64 0,.int .i64 0,.int .i64 1,.string ⟨#[105,110]⟩,.int .i64 0,.int .i64 4,.int .i64 1,.string ⟨#[110,117,109]⟩,.int .i64 0,.int .i64 7,.int .i64 2,.string ⟨#[50,48]⟩,.int .i64 20,.int .i64 11,.int .i64 3,.string ⟨#[59]⟩,.int .i64 0,.int .i64 14,.int .i64 1,.string ⟨#[103,101,110]⟩,.int .i64 0,.int .i64 49,.int .i64 1,.string ⟨#[105,110,110,101,114]⟩,.int .i64 0,.int .i64 53,.int .i64 3,.string ⟨#[40]⟩,.int .i64 0,.int .i64 58,.int .i64 1,.string ⟨#[110]⟩,.int .i64 0,.int .i64 59,.int .i64 1,.string ⟨#[110,117,109]⟩,.int .i64 0,.int .i64 61,.int .i64 3,.string ⟨#[41]⟩,.int .i64 0,.int .i64 64,.int .i64 1,.string ⟨#[116,97,107,101,115]⟩,.int .i64 0,.int .i64 66,.int .i64 1,.string ⟨#[98,111,111,108]⟩,.int .i64 0,.int .i64 72,.int .i64 1,.string ⟨#[121,105,101,108,100,115]⟩,.int .i64 0,.int .i64 77,.int .i64 1,.string ⟨#[110,117,109]⟩,.int .i64 0,.int .i64 84,.int .i64 3,.string ⟨#[123]⟩,.int .i64 0,.int .i64 88,.int .i64 1,.string ⟨#[108,101,116]⟩,.int .i64 0,.int .i64 92,.int .i64 1,.string ⟨#[105]⟩,.int .i64 0,.int .i64 96,.int .i64 3,.string ⟨#[61]⟩,.int .i64 0,.int .i64 98,.int .i64 2,.string ⟨#[48]⟩,.int .i64 0,.int .i64 100,.int .i64 3,.string ⟨#[59]⟩,.int .i64 0,.int .i64 102,.int .i64 1,.string ⟨#[119,104,105,108,101]⟩,.int .i64 0,.int .i64 106,.int .i64 1,.string ⟨#[105]⟩,.int .i64 0,.int .i64 112,.int .i64 3,.string ⟨#[60]⟩,.int .i64 0,.int .i64 114,.int .i64 1,.string ⟨#[110]⟩,.int .i64 0,.int .i64 116,.int .i64 3,.string ⟨#[123]⟩,.int .i64 0,.int .i64 118,.int .i64 1,.string ⟨#[100,111]⟩,.int .i64 0,.int .i64 120,.int .i64 1,.string ⟨#[121,105,101,108,100]⟩,.int .i64 0,.int .i64 123,.int .i64 3,.string ⟨#[40]⟩,.int .i64 0,.int .i64 128,.int .i64 1,.string ⟨#[105]⟩,.int .i64 0,.int .i64 129,.int .i64 3,.string ⟨#[41]⟩,.int .i64 0,.int .i64 130,.int .i64 3,.string ⟨#[59]⟩,.int .i64 0,.int .i64 132,.int .i64 1,.string ⟨#[105]⟩,.int .i64 0,.int .i64 134,.int .i64 3,.string ⟨#[61]⟩,.int .i64 0,.int .i64 136,.int .i64 1,.string ⟨#[105]⟩,.int .i64 0,.int .i64 138,.int .i64 3,.string ⟨#[43]⟩,.int .i64 0,.int .i64 140,.int .i64 2,.string ⟨#[49]⟩,.int .i64 1,.int .i64 142,.int .i64 3,.string ⟨#[59]⟩,.int .i64 0,.int .i64 144,.int .i64 3,.string ⟨#[125]⟩,.int .i64 0,.int .i64 146,.int .i64 3,.string ⟨#[125]⟩,.int .i64 0,.int .i64 148,.int .i64 1,.string ⟨#[103,101,110]⟩,.int .i64 0,.int .i64 150,.int .i64 1,.string ⟨#[111,117,116,101,114]⟩,.int .i64 0,.int .i64 154,.int .i64 3,.string ⟨#[40]⟩,.int .i64 0,.int .i64 159,.int .i64 3,.string ⟨#[41]⟩,.int .i64 0,.int .i64 160,.int .i64 1,.string ⟨#[116,97,107,101,115]⟩,.int .i64 0,.int .i64 162,.int .i64 1,.string ⟨#[110,117,109]⟩,.int .i64 0,.int .i64 168,.int .i64 1,.string ⟨#[121,105,101,108,100,115]⟩,.int .i64 0,.int .i64 172,.int .i64 1,.string ⟨#[110,117,109]⟩,.int .i64 0,.int .i64 179,.int .i64 3,.string ⟨#[123]⟩,.int .i64 0,.int .i64 183,.int .i64 1,.string ⟨#[108,101,116]⟩,.int .i64 0,.int .i64 187,.int .i64 1,.string ⟨#[110]⟩,.int .i64 0,.int .i64 191,.int .i64 3,.string ⟨#[61]⟩,.int .i64 0,.int .i64 193,.int .i64 1,.string ⟨#[121,105,101,108,100]⟩,.int .i64 0,.int .i64 195,.int .i64 3,.string ⟨#[40]⟩,.int .i64 0,.int .i64 200,.int .i64 2,.string ⟨#[48]⟩,.int .i64 0,.int .i64 201,.int .i64 3,.string ⟨#[41]⟩,.int .i64 0,.int .i64 202,.int .i64 3,.string ⟨#[59]⟩,.int .i64 0,.int .i64 204,.int .i64 1,.string ⟨#[119,104,105,108,101]⟩,.int .i64 0,.int .i64 208,.int .i64 1,.string ⟨#[116,114,117,101]⟩,.int .i64 0,.int .i64 214,.int .i64 3,.string ⟨#[123]⟩,.int .i64 0,.int .i64 219,.int .i64 1,.string ⟨#[108,101,116]⟩,.int .i64 0,.int .i64 225,.int .i64 1,.string ⟨#[103]⟩,.int .i64 0,.int .i64 229,.int .i64 3,.string ⟨#[61]⟩,.int .i64 0,.int .i64 231,.int .i64 1,.string ⟨#[115,116,97,114,116]⟩,.int .i64 0,.int .i64 233,.int .i64 1,.string ⟨#[105,110,110,101,114]⟩,.int .i64 0,.int .i64 239,.int .i64 3,.string ⟨#[40]⟩,.int .i64 0,.int .i64 244,.int .i64 1,.string ⟨#[110]⟩,.int .i64 0,.int .i64 245,.int .i64 3,.string ⟨#[41]⟩,.int .i64 0,.int .i64 246,.int .i64 3,.string ⟨#[59]⟩,.int .i64 0,.int .i64 248,.int .i64 1,.string ⟨#[108,101,116]⟩,.int .i64 0,.int .i64 254,.int .i64 1,.string ⟨#[115]⟩,.int .i64 0,.int .i64 258,.int .i64 3,.string ⟨#[61]⟩,.int .i64 0,.int .i64 260,.int .i64 2,.string ⟨#[48]⟩,.int .i64 0,.int .i64 262,.int .i64 3,.string ⟨#[59]⟩,.int .i64 0,.int .i64 264,.int .i64 1,.string ⟨#[119,104,105,108,101]⟩,.int .i64 0,.int .i64 270,.int .i64 1,.string ⟨#[97,108,105,118,101]⟩,.int .i64 0,.int .i64 276,.int .i64 3,.string ⟨#[40]⟩,.int .i64 0,.int .i64 281,.int .i64 1,.string ⟨#[103]⟩,.int .i64 0,.int .i64 282,.int .i64 3,.string ⟨#[41]⟩,.int .i64 0,.int .i64 283,.int .i64 3,.string ⟨#[123]⟩,.int .i64 0,.int .i64 285,.int .i64 1,.string ⟨#[115]⟩,.int .i64 0,.int .i64 287,.int .i64 3,.string ⟨#[61]⟩,.int .i64 0,.int .i64 289,.int .i64 1,.string ⟨#[115]⟩,.int .i64 0,.int .i64 291,.int .i64 3,.string ⟨#[43]⟩,.int .i64 0,.int .i64 293,.int .i64 1,.string ⟨#[114,101,115,117,109,101]⟩,.int .i64 0,.int .i64 295,.int .i64 3,.string ⟨#[40]⟩,.int .i64 0,.int .i64 301,.int .i64 1,.string ⟨#[103]⟩,.int .i64 0,.int .i64 302,.int .i64 3,.string ⟨#[44]⟩,.int .i64 0,.int .i64 303,.int .i64 1,.string ⟨#[116,114,117,101]⟩,.int .i64 0,.int .i64 305,.int .i64 3,.string ⟨#[41]⟩,.int .i64 0,.int .i64 309,.int .i64 3,.string ⟨#[59]⟩,.int .i64 0,.int .i64 311,.int .i64 3,.string ⟨#[125]⟩,.int .i64 0,.int .i64 313,.int .i64 1,.string ⟨#[110]⟩,.int .i64 0,.int .i64 319,.int .i64 3,.string ⟨#[61]⟩,.int .i64 0,.int .i64 321,.int .i64 1,.string ⟨#[121,105,101,108,100]⟩,.int .i64 0,.int .i64 323,.int .i64 3,.string ⟨#[40]⟩,.int .i64 0,.int .i64 328,.int .i64 1,.string ⟨#[115]⟩,.int .i64 0,.int .i64 329,.int .i64 3,.string ⟨#[41]⟩,.int .i64 0,.int .i64 330,.int .i64 3,.string ⟨#[59]⟩,.int .i64 0,.int .i64 332,.int .i64 3,.string ⟨#[125]⟩,.int .i64 0,.int .i64 336,.int .i64 3,.string ⟨#[125]⟩,.int .i64 0,.int .i64 338,.int .i64 1,.string ⟨#[116,97,115,107]⟩,.int .i64 0,.int .i64 340,.int .i64 1,.string ⟨#[109,97,105,110]⟩,.int .i64 0,.int .i64 345,.int .i64 3,.string ⟨#[123]⟩,.int .i64 0,.int .i64 350,.int .i64 1,.string ⟨#[108,101,116]⟩,.int .i64 0,.int .i64 354,.int .i64 1,.string ⟨#[111]⟩,.int .i64 0,.int .i64 358,.int .i64 3,.string ⟨#[61]⟩,.int .i64 0,.int .i64 360,.int .i64 1,.string ⟨#[115,116,97,114,116]⟩,.int .i64 0,.int .i64 362,.int .i64 1,.string ⟨#[111,117,116,101,114]⟩,.int .i64 0,.int .i64 368,.int .i64 3,.string ⟨#[40]⟩,.int .i64 0,.int .i64 373,.int .i64 3,.string ⟨#[41]⟩,.int .i64 0,.int .i64 374,.int .i64 3,.string ⟨#[59]⟩,.int .i64 0,.int .i64 376,.int .i64 1,.string ⟨#[100,111]⟩,.int .i64 0,.int .i64 380,.int .i64 1,.string ⟨#[114,101,115,117,109,101]⟩,.int .i64 0,.int .i64 383,.int .i64 3,.string ⟨#[40]⟩,.int .i64 0,.int .i64 389,.int .i64 1,.string ⟨#[111]⟩,.int .i64 0,.int .i64 390,.int .i64 3,.string ⟨#[44]⟩,.int .i64 0,.int .i64 391,.int .i64 2,.string ⟨#[48]⟩,.int .i64 0,.int .i64 393,.int .i64 3,.string ⟨#[41]⟩,.int .i64 0,.int .i64 394,.int .i64 3,.string ⟨#[59]⟩,.int .i64 0,.int .i64 396,.int .i64 1,.string ⟨#[119,104,105,108,101]⟩,.int .i64 0,.int .i64 400,.int .i64 1,.string ⟨#[116,114,117,101]⟩,.int .i64 0,.int .i64 406,.int .i64 3,.string ⟨#[123]⟩,.int .i64 0,.int .i64 411,.int .i64 1,.string ⟨#[111,117,116]⟩,.int .i64 0,.int .i64 413,.int .i64 1,.string ⟨#[114,101,115,117,109,101]⟩,.int .i64 0,.int .i64 417,.int .i64 3,.string ⟨#[40]⟩,.int .i64 0,.int .i64 423,.int .i64 1,.string ⟨#[111]⟩,.int .i64 0,.int .i64 424,.int .i64 3,.string ⟨#[44]⟩,.int .i64 0,.int .i64 425,.int .i64 1,.string ⟨#[114,101,99,118]⟩,.int .i64 0,.int .i64 427,.int .i64 3,.string ⟨#[40]⟩,.int .i64 0,.int .i64 431,.int .i64 1,.string ⟨#[105,110]⟩,.int .i64 0,.int .i64 432,.int .i64 3,.string ⟨#[41]⟩,.int .i64 0,.int .i64 434,.int .i64 3,.string ⟨#[41]⟩,.int .i64 0,.int .i64 435,.int .i64 3,.string ⟨#[59]⟩,.int .i64 0,.int .i64 437,.int .i64 3,.string ⟨#[125]⟩,.int .i64 0,.int .i64 439,.int .i64 3,.string ⟨#[125]⟩,.int .i64 0,.int .i64 441])]⟩
set_option maxRecDepth 1000000 in
theorem read_kRoundsT:chk (fn2 kRoundsT.f [.string ⟨⟨kRoundsT.arg⟩⟩] ⟨kRoundsT.c0,h0,[]⟩) kRoundsT=true:=by kernel_rfl
end Xe
namespace Xe
noncomputable def spRoundsT:Sp:=memoSp kRoundsT special2
theorem spRoundsT_ok:SpOk Tryz.prog spRoundsT:=memo_ok fn2_ok read_kRoundsT sp_ok2
noncomputable def fnRoundsT:Cl:=func Tryz.prog spRoundsT 60 false
theorem fnRoundsT_ok:CallOk Tryz.prog fnRoundsT:=(func_ok names_ok spRoundsT_ok (fun call hC=>draw_ok names_ok mixed_ok call hC) 60).1
end Xe
end Go.Proofs.YthffafaoobpedabGreatDoor
