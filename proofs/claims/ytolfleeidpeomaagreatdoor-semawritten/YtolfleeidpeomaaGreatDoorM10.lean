/- The reader as a plain function of tokens: expressions. -/
import Derived.Test.YtolfleeidpeomaaGreatDoorM7
import Derived.Test.YtolfleeidpeomaaGreatDoorM9
import Derived.Lib.ItoaNum
import Derived.Test.YtolfleeidpeomaaGreatDoorM2
namespace Go.Proofs.YtolfleeidpeomaaGreatDoor
open Go.RowKit
abbrev au (α:Type):=Except (Int × Nat) (Nat × α)
namespace Rp
def bytes (l:List UInt8):ByteArray:=⟨l.toArray⟩
def andThen {α β:Type}(r:au α)(f:Nat→α→au β):au β:=match r with
 | .ok (q,x)=>f q x
 | .error e=>.error e
def want (l:List Lx.Tk)(en:Nat)(s:ByteArray)(p:Nat):au Unit:=match pz l p en s with
 | .ok q=>.ok (q,())
 | .error e=>.error e
def name (l:List Lx.Tk)(en:Nat)(p:Nat):au ByteArray:=match lK l p en with
 | .ok q=>.ok (q,(pk l p en).text)
 | .error e=>.error e
def sign (t:ByteArray):Int × Int:=match Sy.table.find? (fun x=>decide (x.2.1=t)) with
 | some x=>(x.1,x.2.2)
 | none=>(0,0)
def loop (l:List Lx.Tk)(en:Nat)(next:Nat→au Sy.Ex)(level:Int):Nat→Sy.Ex→Nat→au Sy.Ex
 | 0,x,p=>.ok (p,x)
 | f+1,x,p =>
  if (sign (pk l p en).text).2≠level then .ok (p,x)
  else andThen (next (p+1)) fun q y =>
   if level=3 then .ok (q,⟨(sign (pk l p en).text).1,0,⟨#[]⟩,[x,y]⟩)
   else loop l en next level f ⟨(sign (pk l p en).text).1,0,⟨#[]⟩,[x,y]⟩ q
def from' (l:List Lx.Tk)(en:Nat)(ah:Nat→au Sy.Ex):Nat→Nat→au Sy.Ex
 | 0,p=>ah p
 | k+1,p=>andThen (from' l en ah k p) fun q x=>loop l en (from' l en ah k) (5 - k) (l.length+1) x q
def items {α:Type}(l:List Lx.Tk)(en:Nat)(bg:Lx.Tk→Bool)(one:Nat→au α):Nat→List α→Nat→au (List α)
 | 0,out,p=>.ok (p,out)
 | f+1,out,p=>match fZ bg out.length 6 (pk l p en) p with
  | .error e=>.error e
  | .ok _=>andThen (one p) fun q x =>
   if tk l q ⟨#[41]⟩ then .ok (q+1,out++[x])
   else andThen (want l en ⟨#[44]⟩ q) fun q2 _=>items l en bg one f (out++[x]) q2
def list {α:Type}(l:List Lx.Tk)(en:Nat)(bg:Lx.Tk→Bool)(one:Nat→au α)(p:Nat):au (List α) :=
 andThen (want l en ⟨#[40]⟩ p) fun q _=>if tk l q ⟨#[41]⟩ then .ok (q+1,[]) else items l en bg one (l.length+1) [] q
def pR (t:Lx.Tk):Bool:=decide (t.kind=2) || (Lx.named t.text.toList || oneOf t.text pE)
def expr (l:List Lx.Tk)(en d:Nat)(prev:Nat→au Sy.Ex)(p:Nat):au Sy.Ex:=if d=0 then .error (4,(pk l p en).pos) else from' l en prev 5 p
def turned (l:List Lx.Tk)(en d:Nat)(prev:Nat→au Sy.Ex)(kind:Int)(p:Nat):au Sy.Ex :=
 if d=0 then .error (4,(pk l p en).pos) else andThen (prev p) fun q y=>.ok (q,⟨kind,0,⟨#[]⟩,[y]⟩)
def kids (l:List Lx.Tk)(en d:Nat)(prev:Nat→au Sy.Ex)(p:Nat):au (List Sy.Ex):=list l en pR (expr l en d prev) p
def receiving (l:List Lx.Tk)(en p:Nat):au Sy.Ex :=
 andThen (want l en ⟨#[40]⟩ p) fun q1 _=>andThen (name l en q1) fun q2 s=>andThen (want l en ⟨#[41]⟩ q2) fun q3 _=>.ok (q3,⟨20,0,s,[]⟩)
def named (l:List Lx.Tk)(en d:Nat)(prev:Nat→au Sy.Ex)(p:Nat):au Sy.Ex :=
 andThen (name l en p) fun q s=>if (pk l q en).text=⟨#[40]⟩ then andThen (kids l en d prev q) fun q2 ks=>.ok (q2,⟨19,0,s,ks⟩) else .ok (q,⟨3,0,s,[]⟩)
def pU (l:List Lx.Tk)(en d:Nat)(prev:Nat→au Sy.Ex)(p:Nat):au (List Sy.Ex) :=
 andThen (want l en ⟨#[40]⟩ p) fun q1 _=>andThen (expr l en d prev q1) fun q2 x=>andThen (want l en ⟨#[41]⟩ q2) fun q3 _=>.ok (q3,[x])
def uo (l:List Lx.Tk)(en d:Nat)(prev:Nat→au Sy.Ex)(p:Nat):au (List Sy.Ex) :=
 andThen (want l en ⟨#[40]⟩ p) fun q1 _=>andThen (expr l en d prev q1) fun q2 x=>andThen (want l en ⟨#[44]⟩ q2) fun q3 _ =>
  andThen (expr l en d prev q3) fun q4 y=>andThen (want l en ⟨#[41]⟩ q4) fun q5 _=>.ok (q5,[x,y])
def piece (l:List Lx.Tk)(en d:Nat)(prev:Nat→au Sy.Ex)(p:Nat):au Sy.Ex :=
 if (pk l p en).kind=2 then .ok (p+1,⟨1,(pk l p en).num,⟨#[]⟩,[]⟩)
 else if tk l p ⟨#[40]⟩ then andThen (expr l en d prev (p+1)) fun q x=>andThen (want l en ⟨#[41]⟩ q) fun q2 _=>.ok (q2,x)
 else if tk l p ⟨#[116,114,117,101]⟩ then .ok (p+1,⟨2,1,⟨#[]⟩,[]⟩)
 else if tk l p ⟨#[102,97,108,115,101]⟩ then .ok (p+1,⟨2,0,⟨#[]⟩,[]⟩)
 else if tk l p ⟨#[115,116,97,114,116]⟩ then andThen (name l en (p+1)) fun q s=>andThen (kids l en d prev q) fun q2 ks=>.ok (q2,⟨22,0,s,ks⟩)
 else if tk l p ⟨#[114,101,99,118]⟩ then receiving l en (p+1)
 else if tk l p ⟨#[121,105,101,108,100]⟩ then andThen (pU l en d prev (p+1)) fun q ks=>.ok (q,⟨21,0,⟨#[]⟩,ks⟩)
 else if tk l p ⟨#[97,108,105,118,101]⟩ then andThen (pU l en d prev (p+1)) fun q ks=>.ok (q,⟨24,0,⟨#[]⟩,ks⟩)
 else if tk l p ⟨#[114,101,115,117,109,101]⟩ then andThen (uo l en d prev (p+1)) fun q ks=>.ok (q,⟨23,0,⟨#[]⟩,ks⟩)
 else named l en d prev p
def lM (l:List Lx.Tk)(en d:Nat)(prev:Nat→au Sy.Ex)(p:Nat):au Sy.Ex :=
 if tk l p ⟨#[45]⟩ then turned l en d prev 4 (p+1)
 else if tk l p ⟨#[110,111,116]⟩ then turned l en d prev 5 (p+1)
 else piece l en d prev p
def ahead (l:List Lx.Tk)(en:Nat):Nat→Nat→au Sy.Ex
 | 0=>lM l en 0 (fun _=>.error (0,0))
 | d+1=>lM l en (d+1) (ahead l en d)
def dm (l:List Lx.Tk)(en:Nat):Nat→Nat→au Sy.Ex
 | 0=>fun _=>.error (0,0)
 | d+1=>ahead l en d
theorem xN (l:List Lx.Tk)(en d:Nat):ahead l en d=lM l en d (dm l en d):=by cases d <;> rfl
/-! Where the reader then stands: further on,and no further than the tokens' end. -/
def dF {α:Type}(l:List Lx.Tk)(f:Nat→au α):Prop:=∀ p q x,p≤l.length→f p=.ok (q,x)→p<q∧q≤l.length
theorem fO {α β:Type}{r:au α}{f:Nat→α→au β}{q:Nat}{y:β}(h:andThen r f=.ok (q,y)):∃ q1 x,r=.ok (q1,x)∧f q1 x=.ok (q,y):=by
 unfold andThen at h
 split at h
 ·rename_i q1 x;exact ⟨q1,x,rfl,h⟩
 ·simp at h
theorem eH (l:List Lx.Tk)(en:Nat)(s:ByteArray):dF l (want l en s):=by
 intro p q x hp h
 unfold want at h
 cases hw:pz l p en s with
 | ok q' =>
  rw [hw] at h
  simp at h
  have:=VF hw
  omega
 | error e=>rw [hw] at h;simp at h
theorem jX (l:List Lx.Tk)(en:Nat):dF l (name l en):=by
 intro p q x hp h
 unfold name at h
 cases hw:lK l p en with
 | ok q' =>
  rw [hw] at h
  simp at h
  have:=FH hw
  omega
 | error e=>rw [hw] at h;simp at h
theorem Mj {l:List Lx.Tk}{en:Nat}{next:Nat→au Sy.Ex}(hn:dF l next)(level:Int)(h0:level≠0):∀ (f:Nat) (x:Sy.Ex) (p q:Nat) (y:Sy.Ex),p≤l.length→loop l en next level f x p=.ok (q,y)→p≤q∧q≤l.length
 | 0,x,p,q,y,hp,h=>by simp [loop] at h;omega
 | f+1,x,p,q,y,hp,h=>by
  rw [loop] at h
  by_cases hs:(sign (pk l p en).text).2≠level
  ·rw [if_pos hs] at h;simp at h;omega
  ·rw [if_neg hs] at h
   have hlt:p<l.length:=by
    by_cases hlt:p<l.length
    ·exact hlt
    ·exfalso
     apply hs
     have e:(pk l p en).text=⟨#[]⟩:=by unfold pk;rw [List.getElem?_eq_none (by omega)];rfl
     rw [e]
     have:(sign ⟨#[]⟩).2=0:=by decide
     rw [this]
     exact fun e=>h0 e.symm
   obtain ⟨q1,z,h1,h2⟩:=fO h
   have:=hn (p+1) q1 z hlt h1
   split at h2
   ·simp at h2;omega
   ·have:=Mj hn level h0 f _ q1 q y (by omega) h2
    omega
theorem CJ {l:List Lx.Tk}{en:Nat}{ah:Nat→au Sy.Ex}(ha:dF l ah):∀ k,k≤5→dF l (from' l en ah k)
 | 0,_=>ha
 | k+1,hk=>by
  intro p q x hp h
  rw [from'] at h
  obtain ⟨q1,z,h1,h2⟩:=fO h
  have i1:=CJ ha k (by omega) p q1 z hp h1
  have i2:=Mj (CJ ha k (by omega)) (5 - k) (by omega) _ z q1 q x (by omega) h2
  omega
theorem dY {l:List Lx.Tk}{p:Nat}{s:ByteArray}(h:tk l p s=true):p+1≤l.length:=Cu h
theorem Mk {α:Type}{l:List Lx.Tk}{en:Nat}{bg:Lx.Tk→Bool}{one:Nat→au α}(ho:dF l one):∀ (f:Nat) (out:List α) (p q:Nat) (y:List α),p≤l.length→items l en bg one f out p=.ok (q,y)→p≤q∧q≤l.length
 | 0,out,p,q,y,hp,h=>by simp [items] at h;omega
 | f+1,out,p,q,y,hp,h=>by
  rw [items] at h
  split at h
  ·simp at h
  ·obtain ⟨q1,z,h1,h2⟩:=fO h
   have:=ho p q1 z hp h1
   split at h2
   ·rename_i ht
    have:=dY ht
    simp at h2;omega
   ·obtain ⟨q2,u,h3,h4⟩:=fO h2
    have:=eH l en _ q1 q2 u (by omega) h3
    have:=Mk ho f _ q2 q y (by omega) h4
    omega
theorem FU {α:Type}{l:List Lx.Tk}{en:Nat}{bg:Lx.Tk→Bool}{one:Nat→au α}(ho:dF l one):dF l (list l en bg one):=by
 intro p q x hp h
 obtain ⟨q1,u,h1,h2⟩:=fO h
 have:=eH l en _ p q1 u hp h1
 split at h2
 ·rename_i ht
  have:=dY ht
  simp at h2;omega
 ·have:=Mk ho _ _ q1 q x (by omega) h2
  omega
theorem oN {l:List Lx.Tk}{en d:Nat}{prev:Nat→au Sy.Ex}(h:dF l prev):dF l (expr l en d prev):=by
 intro p q x hp he
 unfold expr at he
 split at he
 ·simp at he
 ·exact CJ h 5 (by omega) p q x hp he
theorem Wu (l:List Lx.Tk)(en:Nat):dF l (receiving l en):=by
 intro p q x hp h
 obtain ⟨q1,u,h1,h2⟩:=fO h
 obtain ⟨q2,s,h3,h4⟩:=fO h2
 obtain ⟨q3,v,h5,h6⟩:=fO h4
 have:=eH l en _ p q1 u hp h1
 have:=jX l en q1 q2 s (by omega) h3
 have:=eH l en _ q2 q3 v (by omega) h5
 simp at h6;omega
theorem Wv {l:List Lx.Tk}{en d:Nat}{prev:Nat→au Sy.Ex}(h:dF l prev):dF l (named l en d prev):=by
 intro p q x hp hn
 obtain ⟨q1,s,h1,h2⟩:=fO hn
 have:=jX l en p q1 s hp h1
 split at h2
 ·obtain ⟨q2,ks,h3,h4⟩:=fO h2
  have:=FU (bg:=pR) (oN (en:=en) (d:=d) h) q1 q2 ks (by omega) h3
  simp at h4;omega
 ·simp at h2;omega
theorem Ml {l:List Lx.Tk}{en d:Nat}{prev:Nat→au Sy.Ex}(h:dF l prev):dF l (pU l en d prev):=by
 intro p q x hp hn
 obtain ⟨q1,u,h1,h2⟩:=fO hn
 obtain ⟨q2,s,h3,h4⟩:=fO h2
 obtain ⟨q3,v,h5,h6⟩:=fO h4
 have:=eH l en _ p q1 u hp h1
 have:=oN (en:=en) (d:=d) h q1 q2 s (by omega) h3
 have:=eH l en _ q2 q3 v (by omega) h5
 simp at h6;omega
theorem Ww {l:List Lx.Tk}{en d:Nat}{prev:Nat→au Sy.Ex}(h:dF l prev):dF l (uo l en d prev):=by
 intro p q x hp hn
 obtain ⟨q1,u,h1,h2⟩:=fO hn
 obtain ⟨q2,s,h3,h4⟩:=fO h2
 obtain ⟨q3,v,h5,h6⟩:=fO h4
 obtain ⟨q4,t,h7,h8⟩:=fO h6
 obtain ⟨q5,y,h9,h10⟩:=fO h8
 have:=eH l en _ p q1 u hp h1
 have:=oN (en:=en) (d:=d) h q1 q2 s (by omega) h3
 have:=eH l en _ q2 q3 v (by omega) h5
 have:=oN (en:=en) (d:=d) h q3 q4 t (by omega) h7
 have:=eH l en _ q4 q5 y (by omega) h9
 simp at h10;omega
theorem Wx {l:List Lx.Tk}{en d:Nat}{prev:Nat→au Sy.Ex}(h:dF l prev):dF l (piece l en d prev):=by
 intro p q x hp hn
 unfold piece at hn
 split at hn
 ·rename_i hk
  have:=FE (l:=l) (p:=p) (en:=en) (by omega)
  simp at hn;omega
 split at hn
 ·rename_i ht
  have:=dY ht
  obtain ⟨q1,u,h1,h2⟩:=fO hn
  obtain ⟨q2,s,h3,h4⟩:=fO h2
  have:=oN (en:=en) (d:=d) h _ q1 u (by omega) h1
  have:=eH l en _ q1 q2 s (by omega) h3
  simp at h4;omega
 split at hn
 ·rename_i ht
  have:=dY ht
  simp at hn;omega
 split at hn
 ·rename_i ht
  have:=dY ht
  simp at hn;omega
 split at hn
 ·rename_i ht
  have:=dY ht
  obtain ⟨q1,u,h1,h2⟩:=fO hn
  obtain ⟨q2,s,h3,h4⟩:=fO h2
  have:=jX l en _ q1 u (by omega) h1
  have:=FU (bg:=pR) (oN (en:=en) (d:=d) h) q1 q2 s (by omega) h3
  simp at h4;omega
 split at hn
 ·rename_i ht
  have:=dY ht
  have:=Wu l en _ q x (by omega) hn
  omega
 split at hn
 ·rename_i ht
  have:=dY ht
  obtain ⟨q1,u,h1,h2⟩:=fO hn
  have:=Ml h _ q1 u (by omega) h1
  simp at h2;omega
 split at hn
 ·rename_i ht
  have:=dY ht
  obtain ⟨q1,u,h1,h2⟩:=fO hn
  have:=Ml h _ q1 u (by omega) h1
  simp at h2;omega
 split at hn
 ·rename_i ht
  have:=dY ht
  obtain ⟨q1,u,h1,h2⟩:=fO hn
  have:=Ww h _ q1 u (by omega) h1
  simp at h2;omega
 ·exact Wv h p q x hp hn
theorem Mm {l:List Lx.Tk}{en d:Nat}{prev:Nat→au Sy.Ex}(h:dF l prev)(kind:Int):dF l (turned l en d prev kind):=by
 intro p q x hp hn
 unfold turned at hn
 split at hn
 ·simp at hn
 ·obtain ⟨q1,u,h1,h2⟩:=fO hn
  have:=h p q1 u hp h1
  simp at h2;omega
theorem Mo {l:List Lx.Tk}{en d:Nat}{prev:Nat→au Sy.Ex}(h:dF l prev):dF l (lM l en d prev):=by
 intro p q x hp hn
 unfold lM at hn
 split at hn
 ·rename_i ht
  have:=dY ht
  have:=Mm h 4 _ q x (by omega) hn
  omega
 split at hn
 ·rename_i ht
  have:=dY ht
  have:=Mm h 5 _ q x (by omega) hn
  omega
 ·exact Wx h p q x hp hn
theorem FV (l:List Lx.Tk)(en:Nat):∀ d,dF l (ahead l en d)
 | 0=>Mo (fun p q x _ h=>by simp at h)
 | d+1=>Mo (FV l en d)
theorem xO (l:List Lx.Tk)(en:Nat):∀ d,dF l (dm l en d)
 | 0=>fun p q x _ h=>by simp [dm] at h
 | d+1=>FV l en d
end Rp
namespace Rp
def vG (t:Lx.Tk):Bool:=Lx.named t.text.toList || oneOf t.text rR
def zB (t:Lx.Tk):Bool:=Lx.named t.text.toList
def vH (t:Lx.Tk):Bool:=oneOf t.text tZ
abbrev ex (l:List Lx.Tk) (en d:Nat) (p:Nat):au Sy.Ex:=expr l en d (dm l en d) p
theorem qK (l:List Lx.Tk)(en d:Nat):dF l (ex l en d):=oN (xO l en d)
abbrev X0:Sy.Ex:=⟨0,0,⟨#[]⟩,[]⟩
def setting (l:List Lx.Tk)(en d:Nat)(kind:Int)(p:Nat):au Sy.St :=
 andThen (name l en p) fun q1 s=>andThen (want l en ⟨#[61]⟩ q1) fun q2 _=>andThen (ex l en d q2) fun q3 x=>andThen (want l en ⟨#[59]⟩ q3) fun q4 _=>.ok (q4,⟨kind,s,x,[],[]⟩)
def saying (l:List Lx.Tk)(en d:Nat)(kind:Int)(p:Nat):au Sy.St :=
 andThen (ex l en d p) fun q1 x=>andThen (want l en ⟨#[59]⟩ q1) fun q2 _=>.ok (q2,⟨kind,⟨#[]⟩,x,[],[]⟩)
def choice (l:List Lx.Tk)(en d:Nat)(bd:Nat→au (List Sy.St))(p:Nat):au Sy.St :=
 andThen (ex l en d p) fun q1 x=>andThen (bd q1) fun q2 b=>if tk l q2 ⟨#[101,108,115,101]⟩ then andThen (bd (q2+1)) fun q3 e=>.ok (q3,⟨3,⟨#[]⟩,x,b,e⟩) else .ok (q2,⟨3,⟨#[]⟩,x,b,[]⟩)
def xP (l:List Lx.Tk)(en d:Nat)(bd:Nat→au (List Sy.St))(p:Nat):au Sy.St :=
 andThen (ex l en d p) fun q1 x=>andThen (bd q1) fun q2 b=>.ok (q2,⟨4,⟨#[]⟩,x,b,[]⟩)
def zC (l:List Lx.Tk)(en:Nat)(p:Nat):au Sy.St:=andThen (want l en ⟨#[59]⟩ p) fun q _=>.ok (q,⟨6,⟨#[]⟩,X0,[],[]⟩)
def sending (l:List Lx.Tk)(en d:Nat)(p:Nat):au Sy.St :=
 andThen (name l en p) fun q1 s=>andThen (ex l en d q1) fun q2 x=>andThen (want l en ⟨#[59]⟩ q2) fun q3 _=>.ok (q3,⟨7,s,x,[],[]⟩)
def stat (l:List Lx.Tk)(en d:Nat)(bd:Nat→au (List Sy.St))(p:Nat):au Sy.St :=
 if tk l p ⟨#[108,101,116]⟩ then setting l en d 1 (p+1)
 else if tk l p ⟨#[105,102]⟩ then choice l en d bd (p+1)
 else if tk l p ⟨#[119,104,105,108,101]⟩ then xP l en d bd (p+1)
 else if tk l p ⟨#[115,116,111,112]⟩ then zC l en (p+1)
 else if tk l p ⟨#[115,101,110,100]⟩ then sending l en d (p+1)
 else if tk l p ⟨#[114,101,116,117,114,110]⟩ then saying l en d 5 (p+1)
 else if tk l p ⟨#[111,117,116]⟩ then saying l en d 8 (p+1)
 else if tk l p ⟨#[100,111]⟩ then saying l en d 9 (p+1)
 else setting l en d 2 p
def stats (l:List Lx.Tk)(en:Nat)(st:Nat→au Sy.St):Nat→List Sy.St→Nat→au (List Sy.St)
 | 0,out,p=>.ok (p,out)
 | f+1,out,p=>if tk l p ⟨#[125]⟩ then .ok (p+1,out) else match fZ vG out.length 50 (pk l p en) p with
  | .error e=>.error e
  | .ok _=>andThen (st p) fun q s=>stats l en st f (out++[s]) q
def body (l:List Lx.Tk)(en:Nat):Nat→Nat→au (List Sy.St)
 | 0,p=>andThen (want l en ⟨#[123]⟩ p) fun q _=>.error (4,(pk l q en).pos)
 | d+1,p=>andThen (want l en ⟨#[123]⟩ p) fun q _=>stats l en (stat l en d (body l en d)) (l.length+1) [] q
def typ (l:List Lx.Tk)(en:Nat)(p:Nat):au Sy.Ty:=match oM l p en with
 | .ok q=>.ok (q,qI l p en)
 | .error e=>.error e
def places (l:List Lx.Tk)(en:Nat)(p:Nat):au Int:=match nL l p en with
 | .ok q=>.ok (q,(pk l p en).num)
 | .error e=>.error e
def param (l:List Lx.Tk)(en:Nat)(p:Nat):au Sy.Pm:=andThen (name l en p) fun q1 s=>andThen (typ l en q1) fun q2 t=>.ok (q2,⟨s,t⟩)
def params (l:List Lx.Tk)(en:Nat)(p:Nat):au (List Sy.Pm):=list l en zB (param l en) p
abbrev T0:Sy.Ty:=⟨0,⟨#[]⟩⟩
def box (l:List Lx.Tk)(en:Nat)(p:Nat):au Sy.Df :=
 andThen (want l en ⟨#[98,111,120]⟩ p) fun q1 _=>andThen (name l en q1) fun q2 s=>andThen (typ l en q2) fun q3 t=>andThen (places l en q3) fun q4 n=>andThen (want l en ⟨#[59]⟩ q4) fun q5 _=>.ok (q5,⟨1,s,t,T0,n,[],[]⟩)
def function (l:List Lx.Tk)(en:Nat)(p:Nat):au Sy.Df :=
 andThen (want l en ⟨#[102,110]⟩ p) fun q1 _=>andThen (name l en q1) fun q2 s=>andThen (params l en q2) fun q3 ps=>andThen (typ l en q3) fun q4 t=>andThen (body l en 200 q4) fun q5 b=>.ok (q5,⟨2,s,t,T0,0,ps,b⟩)
def uq (l:List Lx.Tk)(en:Nat)(p:Nat):au Sy.Df :=
 andThen (want l en ⟨#[103,101,110]⟩ p) fun q1 _=>andThen (name l en q1) fun q2 s=>andThen (params l en q2) fun q3 ps=>andThen (want l en ⟨#[116,97,107,101,115]⟩ q3) fun q4 _=>andThen (typ l en q4) fun q5 t =>
  andThen (want l en ⟨#[121,105,101,108,100,115]⟩ q5) fun q6 _=>andThen (typ l en q6) fun q7 u=>andThen (body l en 200 q7) fun q8 b=>.ok (q8,⟨3,s,u,t,0,ps,b⟩)
def task (l:List Lx.Tk)(en:Nat)(p:Nat):au Sy.Df :=
 andThen (want l en ⟨#[116,97,115,107]⟩ p) fun q1 _=>andThen (name l en q1) fun q2 s=>andThen (body l en 200 q2) fun q3 b=>.ok (q3,⟨4,s,T0,T0,0,[],b⟩)
def df (l:List Lx.Tk)(en:Nat)(p:Nat):au Sy.Df :=
 if (pk l p en).text=⟨#[98,111,120]⟩ then box l en p
 else if (pk l p en).text=⟨#[102,110]⟩ then function l en p
 else if (pk l p en).text=⟨#[103,101,110]⟩ then uq l en p
 else task l en p
def fH (l:List Lx.Tk)(en:Nat):Nat→List Sy.Df→Nat→au (List Sy.Df)
 | 0,out,p=>.ok (p,out)
 | f+1,out,p=>if l.length≤p then .ok (p,out) else match fZ vH out.length 30 (pk l p en) p with
  | .error e=>.error e
  | .ok _=>andThen (df l en p) fun q d=>fH l en f (out++[d]) q
def program (l:List Lx.Tk)(en:Nat):au (List Sy.Df):=fH l en (l.length+1) [] 0
/-! Where the reader then stands. -/
theorem rU (l:List Lx.Tk)(en:Nat):dF l (typ l en):=by
 intro p q x hp h
 unfold typ at h
 cases ht:oM l p en with
 | error e=>rw [ht] at h;simp at h
 | ok q' =>
  rw [ht] at h
  simp at h
  have:=VG ht
  omega
theorem Mq (l:List Lx.Tk)(en:Nat):dF l (places l en):=by
 intro p q x hp h
 unfold places at h
 cases ht:nL l p en with
 | error e=>rw [ht] at h;simp at h
 | ok q' =>
  rw [ht] at h
  simp at h
  have:=VH ht
  omega
theorem dZ {α β:Type}{l:List Lx.Tk}{f:Nat→au α}{g:Nat→α→au β}(hf:dF l f){p q:Nat}{y:β}(hp:p≤l.length)(h:andThen (f p) g=.ok (q,y)):∃ q1 x,f p=.ok (q1,x)∧p<q1∧q1≤l.length∧g q1 x=.ok (q,y):=by
 obtain ⟨q1,x,h1,h2⟩:=fO h
 have:=hf p q1 x hp h1
 exact ⟨q1,x,h1,this.1,this.2,h2⟩
theorem Mr (l:List Lx.Tk)(en d:Nat)(kind:Int):dF l (setting l en d kind):=by
 intro p q x hp h
 obtain ⟨q1,x1,_,a1,b1,h⟩:=dZ (jX l en) hp h
 obtain ⟨q2,x2,_,a2,b2,h⟩:=dZ (eH l en _) b1 h
 obtain ⟨q3,x3,_,a3,b3,h⟩:=dZ (qK l en d) b2 h
 obtain ⟨q4,x4,_,a4,b4,h⟩:=dZ (eH l en _) b3 h
 simp at h
 omega
theorem FW (l:List Lx.Tk)(en d:Nat)(kind:Int):dF l (saying l en d kind):=by
 intro p q x hp h
 obtain ⟨q1,x1,_,a1,b1,h⟩:=dZ (qK l en d) hp h
 obtain ⟨q2,x2,_,a2,b2,h⟩:=dZ (eH l en _) b1 h
 simp at h
 omega
theorem Wy (l:List Lx.Tk)(en d:Nat):dF l (sending l en d):=by
 intro p q x hp h
 obtain ⟨q1,x1,_,a1,b1,h⟩:=dZ (jX l en) hp h
 obtain ⟨q2,x2,_,a2,b2,h⟩:=dZ (qK l en d) b1 h
 obtain ⟨q3,x3,_,a3,b3,h⟩:=dZ (eH l en _) b2 h
 simp at h
 omega
theorem Wz (l:List Lx.Tk)(en:Nat):dF l (zC l en):=by
 intro p q x hp h
 obtain ⟨q1,x1,_,a1,b1,h⟩:=dZ (eH l en _) hp h
 simp at h
 omega
theorem WA {l:List Lx.Tk}{en d:Nat}{bd:Nat→au (List Sy.St)}(hb:dF l bd):dF l (xP l en d bd):=by
 intro p q x hp h
 obtain ⟨q1,x1,_,a1,b1,h⟩:=dZ (qK l en d) hp h
 obtain ⟨q2,x2,_,a2,b2,h⟩:=dZ hb b1 h
 simp at h
 omega
theorem WB {l:List Lx.Tk}{en d:Nat}{bd:Nat→au (List Sy.St)}(hb:dF l bd):dF l (choice l en d bd):=by
 intro p q x hp h
 obtain ⟨q1,x1,_,a1,b1,h⟩:=dZ (qK l en d) hp h
 obtain ⟨q2,x2,_,a2,b2,h⟩:=dZ hb b1 h
 split at h
 ·rename_i ht
  obtain ⟨q3,x3,_,a3,b3,h⟩:=dZ hb (dY ht) h
  simp at h
  omega
 ·simp at h
  omega
theorem Mt {l:List Lx.Tk}{en d:Nat}{bd:Nat→au (List Sy.St)}(hb:dF l bd):dF l (stat l en d bd):=by
 intro p q x hp h
 unfold stat at h
 split at h
 ·rename_i ht;have:=Mr l en d 1 _ _ _ (dY ht) h;omega
 split at h
 ·rename_i ht;have:=WB hb _ _ _ (dY ht) h;omega
 split at h
 ·rename_i ht;have:=WA hb _ _ _ (dY ht) h;omega
 split at h
 ·rename_i ht;have:=Wz l en _ _ _ (dY ht) h;omega
 split at h
 ·rename_i ht;have:=Wy l en d _ _ _ (dY ht) h;omega
 split at h
 ·rename_i ht;have:=FW l en d 5 _ _ _ (dY ht) h;omega
 split at h
 ·rename_i ht;have:=FW l en d 8 _ _ _ (dY ht) h;omega
 split at h
 ·rename_i ht;have:=FW l en d 9 _ _ _ (dY ht) h;omega
 exact Mr l en d 2 _ _ _ hp h
theorem Mv {l:List Lx.Tk}{en:Nat}{st:Nat→au Sy.St}(hs:dF l st):∀ (f:Nat) (out:List Sy.St) (p q:Nat) (y:List Sy.St),p≤l.length→out.length≤p→l.length<p+f→stats l en st f out p=.ok (q,y)→p<q∧q≤l.length∧y.length≤q
 | 0,out,p,q,y,hp,ho,hf,h=>by omega
 | f+1,out,p,q,y,hp,ho,hf,h=>by
  rw [stats] at h
  split at h
  ·rename_i ht
   have:=dY ht
   simp at h
   obtain ⟨rfl,rfl⟩:=h
   omega
  ·split at h
   ·simp at h
   ·obtain ⟨q1,x1,_,a1,b1,h⟩:=dZ hs hp h
    have:=Mv hs f _ q1 q y b1 (by simp;omega) (by omega) h
    omega
theorem qL (l:List Lx.Tk)(en:Nat):∀ d,dF l (body l en d)
 | 0=>by
  intro p q x hp h
  obtain ⟨q1,x1,_,a1,b1,h⟩:=dZ (eH l en _) hp h
  simp at h
 | d+1=>by
  intro p q x hp h
  obtain ⟨q1,x1,_,a1,b1,h⟩:=dZ (eH l en _) hp h
  have:=Mv (Mt (qL l en d)) _ _ q1 q x b1 (by simp) (by omega) h
  omega
theorem Mw (l:List Lx.Tk)(en:Nat):dF l (param l en):=by
 intro p q x hp h
 obtain ⟨q1,x1,_,a1,b1,h⟩:=dZ (jX l en) hp h
 obtain ⟨q2,x2,_,a2,b2,h⟩:=dZ (rU l en) b1 h
 simp at h
 omega
theorem CL (l:List Lx.Tk)(en:Nat):dF l (params l en):=FU (Mw l en)
end Rp
namespace Sy
def bZ {α:Type}(f:α→List ByteArray):Nat→List α→List ByteArray
 | _,[]=>[]
 | i,a :: l=>(if 0<i then [⟨#[44]⟩] else [])++f a++bZ f (i+1) l
def cZ (t:Ty):List ByteArray:=[if t.kind=1 then ⟨#[110,117,109]⟩ else if t.kind=2 then ⟨#[98,111,111,108]⟩ else t.gen]
def iU (n:Int):ByteArray:=⟨(Go.Lib.itoa n).toArray⟩
def lN (n:Int):ByteArray:=if n=1 then ⟨#[116,114,117,101]⟩ else ⟨#[102,97,108,115,101]⟩
def bU (f:Ex→List ByteArray)(level:Int)(x:Ex):List ByteArray:=if level≤iT x.kind then f x else [⟨#[40]⟩]++f x++[⟨#[41]⟩]
def eO (f:Ex→List ByteArray)(ahead:List ByteArray)(kids:List Ex):List ByteArray:=ahead++[⟨#[40]⟩]++bZ f 0 kids++[⟨#[41]⟩]
def ai:Nat→Ex→List ByteArray
 | 0,_=>[]
 | d+1,x =>
  if 0<aW x.kind then
   match x.kids with
   | a :: b :: _=>bU (ai d) (if aW x.kind=3 then 4 else aW x.kind) a++[sign x.kind]++bU (ai d) (aW x.kind+1) b
   | _=>[]
  else if x.kind=1 then [iU x.n]
  else if x.kind=2 then [lN x.n]
  else if x.kind=3 then [x.name]
  else if x.kind=4 then [⟨#[45]⟩]++bU (ai d) 6 (x.kids.headD ⟨0,0,⟨#[]⟩,[]⟩)
  else if x.kind=5 then [⟨#[110,111,116]⟩]++bU (ai d) 6 (x.kids.headD ⟨0,0,⟨#[]⟩,[]⟩)
  else if x.kind=19 then eO (ai d) [x.name] x.kids
  else if x.kind=20 then [⟨#[114,101,99,118]⟩,⟨#[40]⟩,x.name,⟨#[41]⟩]
  else if x.kind=21 then eO (ai d) [⟨#[121,105,101,108,100]⟩] x.kids
  else if x.kind=22 then eO (ai d) [⟨#[115,116,97,114,116]⟩,x.name] x.kids
  else if x.kind=23 then eO (ai d) [⟨#[114,101,115,117,109,101]⟩] x.kids
  else eO (ai d) [⟨#[97,108,105,118,101]⟩] x.kids
def aV (f:St→List ByteArray)(l:List St):List ByteArray:=[⟨#[123]⟩]++l.flatMap f++[⟨#[125]⟩]
def aC:Nat→St→List ByteArray
 | 0,_=>[]
 | d+1,s =>
  if s.kind=1 then [⟨#[108,101,116]⟩,s.name,⟨#[61]⟩]++ai d s.x++[⟨#[59]⟩]
  else if s.kind=2 then [s.name,⟨#[61]⟩]++ai d s.x++[⟨#[59]⟩]
  else if s.kind=3 then [⟨#[105,102]⟩]++ai d s.x++aV (aC d) s.body++(if s.els.length=0 then [] else [⟨#[101,108,115,101]⟩]++aV (aC d) s.els)
  else if s.kind=4 then [⟨#[119,104,105,108,101]⟩]++ai d s.x++aV (aC d) s.body
  else if s.kind=5 then [⟨#[114,101,116,117,114,110]⟩]++ai d s.x++[⟨#[59]⟩]
  else if s.kind=6 then [⟨#[115,116,111,112]⟩,⟨#[59]⟩]
  else if s.kind=7 then [⟨#[115,101,110,100]⟩,s.name]++ai d s.x++[⟨#[59]⟩]
  else if s.kind=8 then [⟨#[111,117,116]⟩]++ai d s.x++[⟨#[59]⟩]
  else [⟨#[100,111]⟩]++ai d s.x++[⟨#[59]⟩]
def iV (p:Pm):List ByteArray:=[p.name]++cZ p.ty
def fB (l:List Pm):List ByteArray:=[⟨#[40]⟩]++bZ iV 0 l++[⟨#[41]⟩]
def fI (d:Df):List ByteArray :=
 if d.kind=1 then [⟨#[98,111,120]⟩,d.name]++cZ d.ty++[iU d.cap,⟨#[59]⟩]
 else if d.kind=2 then [⟨#[102,110]⟩,d.name]++fB d.params++cZ d.ty++aV (aC 39) d.body
 else if d.kind=3 then [⟨#[103,101,110]⟩,d.name]++fB d.params++[⟨#[116,97,107,101,115]⟩]++cZ d.takes++[⟨#[121,105,101,108,100,115]⟩]++cZ d.ty++aV (aC 39) d.body
 else [⟨#[116,97,115,107]⟩,d.name]++aV (aC 39) d.body
def dW (l:List Df):List ByteArray:=l.flatMap fI
def dR:Nat→Ex→Prop
 | 0,_=>False
 | d+1,x=>1≤x.kind∧x.kind≤24∧dU x=0∧∀ k ∈ x.kids,dR d k
theorem FX {α:Type}{f:α→Nat→Except Int Nat}{l:List α}:∀ {n m:Nat},runs f l n=.ok m→∀ a ∈ l,∃ i j,f a i=.ok j:=by
 induction l with
 | nil=>intro n m _ a ha;cases ha
 | cons b l ih =>
  intro n m h a ha
  unfold runs at h
  cases hb:f b n with
  | error e=>rw [hb] at h;simp at h
  | ok k =>
   rw [hb] at h
   rcases List.mem_cons.1 ha with rfl | ha
   ·exact ⟨n,k,hb⟩
   ·exact ih h a ha
theorem CO:∀ (d:Nat) (x:Ex) (n m:Nat),aF d x n=.ok m→dR d x
 | 0,_,_,_,h=>by simp [aF] at h
 | d+1,x,n,m,h=>by
  unfold aF at h
  split at h
  ·simp at h
  ·rename_i h0
   have hz:=iC (by simpa using h0:bB x.kind 24 (d+1) n=0)
   split at h
   ·simp at h
   ·rename_i h1
    exact ⟨hz.2.1,hz.2.2.1,by simpa using h1,fun k hk=>by
     obtain ⟨i,j,hij⟩:=FX h k hk
     exact CO d k i j hij⟩
end Sy
def bV (P Bs:Nat)(mv:Value)(ws out:List ByteArray)(w:World)(e:Ending)(w':World):Prop:=e=.returned (.tuple #[])∧PR w' P Bs (ws++out) mv∧Fr P Bs w w'
theorem Fr.drew {P Bs:Nat}{w w':World}(h:Fr P Bs w w'):Fr P Bs w w'.drew:=⟨h.os,h.tape,h.output,h.size,h.block⟩
theorem PR.drew {w:World}{P Bs:Nat}{ws:List ByteArray}{mv:Value}(h:PR w P Bs ws mv):PR w.drew P Bs ws mv:=h
theorem bV.trans {P Bs:Nat}{mv:Value}{ws o1 o2:List ByteArray}{w w1 w2:World}{e1 e2:Ending}(h:bV P Bs mv ws o1 w e1 w1)(k:bV P Bs mv (ws++o1) o2 w1 e2 w2):bV P Bs mv ws (o1++o2) w e2 w2 :=
 ⟨k.1,by rw [← List.append_assoc];exact k.2.1,h.2.2.trans k.2.2⟩
theorem jB (P Bs:Nat)(ws xs:List ByteArray)(mv:Value)(c N:Nat)(w:World)(hN:w.heap.size=N)(cz:Hid (PR w P Bs ws mv))(pQ:P<Bs)(jW:Bs≤w.heap.size)(hn:ws.length+xs.length≤1000000) :
  Calls Tryz.prog 26 #[.pointer (some ⟨P,0,none⟩),.slice (some ⟨N,0,none⟩) xs.length c] (w.alloc (.cells (xs.map Value.string).toArray 9)) fun e w'=>bV P Bs mv ws xs w e w':=by
 subst hN
 refine (CG P Bs ws xs mv ⟨w.heap.size,0,none⟩ c _ (cz.out.alloc _) pQ (by simp;omega) ?_ hn).mono ?_
 ·intro j x hx
  have:(⟨w.heap.size,0,none⟩:Addr).add j=⟨w.heap.size,j,none⟩:=by unfold Addr.add;split <;> simp_all
  rw [this,World.cell?_alloc_mark]
  simp [hx]
 ·rintro e w' ⟨h1,h2,h3⟩
  exact ⟨h1,h2,(Fr.alloc P Bs w _).trans h3⟩
theorem oO (P Bs:Nat)(ws xs:List ByteArray)(mv:Value)(c N:Nat)(w:World)(hN:w.heap.size=N)(cz:Hid (PR w P Bs ws mv))(pQ:P<Bs)(jW:Bs≤w.heap.size)(hn:ws.length+xs.length≤1000000) :
  Calls Tryz.prog 26 #[.pointer (some ⟨P,0,none⟩),.slice (some ⟨N,0,none⟩) xs.length c] (w.alloc (.cells (xs.map Value.string).toArray 9)).drew fun e w'=>bV P Bs mv ws xs w e w':=by
 subst hN
 refine (CG P Bs ws xs mv ⟨w.heap.size,0,none⟩ c _ (cz.out.alloc _).drew pQ (by show Bs≤(w.alloc _).heap.size;simp;omega) ?_ hn).mono ?_
 ·intro j x hx
  have:(⟨w.heap.size,0,none⟩:Addr).add j=⟨w.heap.size,j,none⟩:=by unfold Addr.add;split <;> simp_all
  rw [this]
  show (w.alloc _).cell? _=_
  rw [World.cell?_alloc_mark]
  simp [hx]
 ·rintro e w' ⟨h1,h2,h3⟩
  exact ⟨h1,h2,(Fr.alloc P Bs w _).drew.trans h3⟩
namespace Sy
def aj:Nat→Ex→Ex
 | 0,x=>x
 | d+1,x=>⟨x.kind,if x.kind=1∨x.kind=2 then x.n else 0,if x.kind=3∨x.kind=19∨x.kind=20∨x.kind=22 then x.name else ⟨#[]⟩,x.kids.map (aj d)⟩
theorem xQ {k:Int}(h:0<aW k):(k=18∨k=17∨(11≤k∧k≤16)∨k=6∨k=7∨(8≤k∧k≤10))∧aW k≤5:=by
 unfold aW at h ⊢
 repeat' split at h
 all_goals first | omega | (constructor;omega;repeat' split) <;> omega
theorem FY {k:Int}(h:0<aW k):Rp.sign (sign k)=(k,aW k):=by
 have hk:=(xQ h).1
 have hc:k=6∨k=7∨k=8∨k=9∨k=10∨k=11∨k=12∨k=13∨k=14∨k=15∨k=16∨k=17∨k=18:=by omega
 rcases hc with rfl | rfl | rfl | rfl | rfl | rfl | rfl | rfl | rfl | rfl | rfl | rfl | rfl <;> decide
theorem vI {x:Ex}(h:dU x=0)(hl:0<aW x.kind∨x.kind=23):∃ a b,x.kids=[a,b]:=by
 have hk:0<aW x.kind→_:=fun h=>(xQ h).1
 unfold dU at h
 split at h
 ·omega
 split at h
 ·omega
 split at h
 ·omega
 rename_i h3
 have hn:x.kids.length=2:=by
  unfold least most at h3
  have h1:¬ (x.kind=1∨x.kind=2∨x.kind=3∨x.kind=20):=by omega
  have h2:¬ (x.kind=4∨x.kind=5∨x.kind=21∨x.kind=24):=by omega
  have h4:¬ (x.kind=19∨x.kind=22):=by omega
  rw [if_neg h1,if_neg h2,if_neg h4,if_neg h1,if_neg h2,if_neg h4] at h3
  omega
 match hks:x.kids with
 | [a,b]=>exact ⟨a,b,rfl⟩
 | []=>rw [hks] at hn;simp at hn
 | [a]=>rw [hks] at hn;simp at hn
 | a :: b :: c :: r=>rw [hks] at hn;simp at hn
theorem qM {x:Ex}(h:dU x=0)(hl:x.kind=4∨x.kind=5∨x.kind=21∨x.kind=24):∃ a,x.kids=[a]:=by
 unfold dU at h
 split at h
 ·omega
 split at h
 ·omega
 split at h
 ·omega
 rename_i h3
 have hn:x.kids.length=1:=by
  unfold least most at h3
  have h1:¬ (x.kind=1∨x.kind=2∨x.kind=3∨x.kind=20):=by omega
  rw [if_neg h1,if_pos hl,if_neg h1,if_pos hl] at h3
  omega
 match hks:x.kids with
 | [a]=>exact ⟨a,rfl⟩
 | []=>rw [hks] at hn;simp at hn
 | a :: b :: r=>rw [hks] at hn;simp at hn
theorem CP {x:Ex}(h:dU x=0)(hl:x.kind=1∨x.kind=2∨x.kind=3∨x.kind=20):x.kids=[]:=by
 unfold dU at h
 split at h
 ·omega
 split at h
 ·omega
 split at h
 ·omega
 rename_i h3
 unfold least most at h3
 rw [if_pos hl,if_pos hl] at h3
 exact List.eq_nil_of_length_eq_zero (by omega)
theorem MB {x:Ex}(h:dU x=0)(hl:x.kind=19∨x.kind=22):x.kids.length≤6:=by
 unfold dU at h
 split at h
 ·omega
 split at h
 ·omega
 split at h
 ·omega
 rename_i h3
 unfold least most at h3
 have h1:¬ (x.kind=1∨x.kind=2∨x.kind=3∨x.kind=20):=by omega
 have h2:¬ (x.kind=4∨x.kind=5∨x.kind=21∨x.kind=24):=by omega
 rw [if_neg h1,if_neg h2,if_pos hl,if_neg h1,if_neg h2,if_pos hl] at h3
 omega
end Sy
namespace Rp
section
variable {l:List Lx.Tk} {en:Nat}
theorem then_ok {α β:Type}{r:au α}{q:Nat}{x:α}{f:Nat→α→au β}(h:r=.ok (q,x)):andThen r f=f q x:=by rw [h];rfl
def At (l:List Lx.Tk)(p:Nat)(ws:List ByteArray):Prop:=∀ i w,ws[i]?=some w→∃ t,l[p+i]?=some t∧Lx.u7 t=Lx.ve w
theorem iF {p:Nat}{a b:List ByteArray}(h:At l p (a++b)):At l p a∧At l (p+a.length) b :=
 ⟨fun i w hi=>h i w (by rw [List.getElem?_append_left (List.getElem?_eq_some_iff.1 hi).1];exact hi),
  fun i w hi=>by
  have:=h (a.length+i) w (by rw [List.getElem?_append_right (by omega),Nat.add_sub_cancel_left];exact hi)
  rwa [← Nat.add_assoc] at this⟩
structure Wd (l:List Lx.Tk) (en p:Nat) (w:ByteArray):Prop where
 text:(pk l p en).text=w
 kind:(pk l p en).kind=Lx.kd w
 num:(pk l p en).num=Lx.nu w
 tk:∀ s,tk l p s=decide (w=s)
 lt:p<l.length
theorem bG {p:Nat}{w:ByteArray}{ws:List ByteArray}(h:At l p (w :: ws)):Wd l en p w∧At l (p+1) ws:=by
 refine ⟨?_,fun i v hi=>by
  have:=h (i+1) v (by simpa using hi)
  rwa [show p+(i+1)=p+1+i by omega] at this⟩
 obtain ⟨t,ht,e⟩:=h 0 w rfl
 rw [Nat.add_zero] at ht
 simp only [Lx.u7,Lx.ve,Prod.mk.injEq] at e
 obtain ⟨e1,e2,e3⟩:=e
 have hp:pk l p en=t:=by unfold pk;rw [ht];rfl
 exact ⟨by rw [hp,e2],by rw [hp,e1],by rw [hp,e3],fun s=>by unfold Go.Proofs.YtolfleeidpeomaaGreatDoor.tk;rw [ht];simp only [e2],(List.getElem?_eq_some_iff.1 ht).1⟩
theorem jf {p:Nat}{w:ByteArray}(h:Wd l en p w):want l en w p=.ok (p+1,()):=by
 unfold want pz
 rw [h.tk]
 simp
theorem oP {p:Nat}{w:ByteArray}(h:Wd l en p w)(hn:Sy.nm w=true)(hk:Lx.kd w=1):name l en p=.ok (p+1,w):=by
 unfold name lK
 rw [h.kind,h.text,hk]
 have:Lx.named w.toList=true:=hn
 simp [this]
def kX (l:List Lx.Tk)(en q:Nat)(L:Int):Prop:=(sign (pk l q en).text).2<L∧(pk l q en).text≠⟨#[40]⟩
theorem kX.mono {q:Nat}{L L':Int}(h:kX l en q L)(hL:L≤L'):kX l en q L':=⟨by have:=h.1;omega,h.2⟩
theorem nQ {p:Nat}{w:ByteArray}(h:Wd l en p w){L:Int}(h1:(sign w).2<L)(h2:w≠⟨#[40]⟩):kX l en p L:=⟨by rw [h.text];exact h1,by rw [h.text];exact h2⟩
theorem FZ {ah:Nat→au Sy.Ex}{p q:Nat}{x:Sy.Ex}(h:ah p=.ok (q,x)):∀ k:Nat,k≤5→(sign (pk l q en).text).2<6 - (k:Int)→from' l en ah k p=.ok (q,x)
 | 0,_,_=>h
 | k+1,hk,hs=>by
  rw [from',FZ h k (by omega) (by omega)]
  show loop l en _ (5 - k) (l.length+1) x q=_
  rw [loop,if_pos (by omega)]
def Mx (l:List Lx.Tk)(en d:Nat)(x:Sy.Ex):Prop:=∀ D k p:Nat,2 * d≤D→k≤5→6 - (k:Int)≤Sy.iT x.kind→At l p (Sy.ai d x)→kX l en (p+(Sy.ai d x).length) (6 - k)→from' l en (ahead l en D) k p=.ok (p+(Sy.ai d x).length,Sy.aj d x)
def Cx (l:List Lx.Tk)(en d:Nat)(x:Sy.Ex):Prop:=∀ D k p F:Nat,2 * d≤D→k≤4→k≠2→5 - (k:Int)≤Sy.iT x.kind→At l p (Sy.ai d x)→kX l en (p+(Sy.ai d x).length) (6 - k)→l.length<p+F →
 ∃ F',l.length<p+(Sy.ai d x).length+F'∧andThen (from' l en (ahead l en D) k p) (fun q z=>loop l en (from' l en (ahead l en D) k) (5 - k) F z q)=loop l en (from' l en (ahead l en D) k) (5 - k) F' (Sy.aj d x) (p+(Sy.ai d x).length)
theorem F3 (k:Int):1≤Sy.iT k∧Sy.iT k≤6:=by
 unfold Sy.iT
 split
 ·rename_i h;have:=(Sy.xQ h).2;omega
 ·omega
theorem MC (t:ByteArray):(sign t).2≤5:=by
 unfold sign
 split
 ·rename_i x h
  have hm:=List.mem_of_find?_eq_some h
  have:∀ x ∈ Sy.table,x.2.2≤5:=by decide
  exact this x hm
 ·decide
theorem ME {d:Nat}{x:Sy.Ex}(hM:Mx l en d x){D p:Nat}(hD:2 * d+1≤D)(h:At l p ([⟨#[40]⟩]++Sy.ai d x++[⟨#[41]⟩])):ahead l en D p=.ok (p+(Sy.ai d x).length+2,Sy.aj d x):=by
 obtain ⟨h1,h2⟩:=iF h
 rw [List.singleton_append] at h1
 obtain ⟨w1,h1⟩:=bG (en:=en) h1
 have hl2:([(⟨#[40]⟩:ByteArray)]++Sy.ai d x).length=1+(Sy.ai d x).length:=by simp;omega
 rw [hl2] at h2
 obtain ⟨w2,_⟩:=bG (en:=en) h2
 rw [← Nat.add_assoc] at w2
 have hD0:D≠0:=by omega
 rw [xN]
 unfold lM piece
 have e1:=w1.tk ⟨#[45]⟩
 have e2:=w1.tk ⟨#[110,111,116]⟩
 have e3:=w1.tk ⟨#[40]⟩
 have k1:Lx.kd ⟨#[40]⟩=3:=by decide
 rw [e1,e2,e3,w1.kind,k1]
 rw [if_neg (by decide),if_neg (by decide),if_neg (by decide),if_pos (by decide)]
 have hx:expr l en D (dm l en D) (p+1)=.ok (p+1+(Sy.ai d x).length,Sy.aj d x):=by
  unfold expr
  rw [if_neg hD0]
  obtain ⟨D',rfl⟩:∃ D',D=D'+1:=⟨D - 1,by omega⟩
  exact hM D' 5 (p+1) (by omega) (by omega) (by have:=(F3 x.kind).1;omega) h1 (nQ w2 (by decide) (by decide))
 refine (then_ok hx).trans ?_
 refine (then_ok (jf w2)).trans ?_
 rw [show p+1+(Sy.ai d x).length+1=p+(Sy.ai d x).length+2 by omega]
end
end Rp
end Go.Proofs.YtolfleeidpeomaaGreatDoor
