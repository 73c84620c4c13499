/- Plainly: a bare program means the same: expressions,statements,bodies,heads. -/
import Derived.Test.YtolfleeidpeomaaGreatDoorM40
import Derived.Test.YtolfleeidpeomaaGreatDoorM29
import Derived.Test.YtolfleeidpeomaaGreatDoorM28
import Derived.Test.YtolfleeidpeomaaGreatDoorM3
import Derived.ChangeArms
import Derived.DataReads
set_option maxRecDepth 100000
set_option maxHeartbeats 4000000
namespace Go.Proofs.YtolfleeidpeomaaGreatDoor
open Go.RowKit
namespace Sm
open Sy
theorem Mp.sides {α β:Type}{f:α→β}{p:Prop}[Decidable p]{a b:Except Int α}{a' b':Except Int β}(h:p→Mp f a a')(k:¬ p→Mp f b b'):Mp f (if p then a else b) (if p then a' else b'):=by
 by_cases hp:p
 ·rw [if_pos hp,if_pos hp];exact h hp
 ·rw [if_neg hp,if_neg hp];exact k hp
theorem Mp.same {α β δ:Type}{f:β→δ}{r r':Except Int α}{g:α→Except Int β}{g':α→Except Int δ}(e:r'=r)(n:∀ x,r=.ok x→Mp f (g x) (g' x)):Mp f (andThen r g) (andThen r' g'):=by
 rw [e]
 cases hr:r with
 | error e=>rfl
 | ok x=>exact n x hr
theorem TE {α β γ:Type}{h:α→γ}{r:Except Int α}{r':Except Int γ}{g:α→Except Int β}{g':γ→Except Int β}(k:Mp h r r')(n:∀ x,r=.ok x→g' (h x)=g x):andThen r' g'=andThen r g:=by
 cases hr:r with
 | error e=>rw [hr] at k;rw [k];rfl
 | ok x=>rw [hr] at k;rw [k];exact n x hr
theorem adr {α β:Type}{r r':Except Int α}{g g':α→Except Int β}(e:r'=r)(n:∀ x,r=.ok x→g' x=g x):andThen r' g'=andThen r g:=by
 rw [e]
 cases hr:r with
 | error e=>rfl
 | ok x=>exact n x hr
section
variable {l:List Df}
theorem ads (s:ByteArray):numOf (l.map (Sy.aN)) s=numOf l s:=by
 unfold numOf
 rw [List.length_map]
 have:(fun i:Nat=>decide (((l.map (Sy.aN))[i]?).map Df.name=some s))=(fun i:Nat=>decide ((l[i]?).map Df.name=some s)):=by
  funext i
  rw [List.getElem?_map]
  cases l[i]? <;> rfl
 rw [this]
theorem tC (i:Nat):bJ (l.map (Sy.aN)) i=Sy.aN (bJ l i):=by
 unfold bJ
 rw [List.getElem?_map]
 cases l[i]? <;> rfl
theorem BX (k:Int)(s:ByteArray):want (l.map (Sy.aN)) k s=want l k s:=by
 unfold want
 rw [ads]
 cases numOf l s with
 | none=>rfl
 | some i =>
  show (if (bJ (l.map (Sy.aN)) i).kind=k then _ else _)=_
  rw [tC]
  rfl
theorem BZ {k:Int}{s:ByteArray}{i:Nat}(h:want l k s=.ok i):(bJ l i).kind=k:=by
 unfold want at h
 cases hn:numOf l s with
 | none=>rw [hn] at h;cases h
 | some j =>
  rw [hn] at h
  simp only at h
  split at h
  ·cases h;assumption
  ·cases h
theorem tH {d:Df}(h:d.kind≠4):(Sy.aN d).ty=Sy.gU d.ty:=by unfold Sy.aN;simp [h]
theorem KN {d:Df}(h:d.kind=3):(Sy.aN d).takes=Sy.gU d.takes:=by unfold Sy.aN;simp [h]
theorem EL {d:Df}(h:d.kind=2∨d.kind=3):(Sy.aN d).params=d.params.map Sy.jC:=by unfold Sy.aN;simp only [if_pos h]
theorem EM {e:Nat}{x y:Ex}(h:y.kids=x.kids.map (Sy.aj e))(i:Nat):kid y i=Sy.aj e (kid x i):=by
 unfold kid
 rw [h,List.getElem?_map]
 cases x.kids[i]? with
 | none=>cases e <;> rfl
 | some k=>rfl
abbrev fT (p:Ty × Tk):Ty × Tk:=(Sy.gU p.1,p.2)
abbrev fD (p:Df × Tk):Df × Tk:=(Sy.aN p.1,p.2)
def ze (e:Nat)(ex oH:Ex→Tk→Except Int (Ty × Tk)):Prop:=∀ x t,Mp fT (ex x t) (oH (Sy.aj e x) t)
variable {e:Nat} {ex oH:Ex→Tk→Except Int (Ty × Tk)}
theorem uZ (h:ze e ex oH)(y:Ty):∀ (ks:List Ex) (t:Tk),must oH (Sy.gU y) (ks.map (Sy.aj e)) t=must ex y ks t
 | [],_=>rfl
 | x :: ks,t=>TE (h x t) fun p _=>by
   show (if same (Sy.gU p.1) (Sy.gU y)=true then _ else _)=_
   rw [TC]
   by_cases hs:same p.1 y=true
   ·rw [if_pos hs,if_pos hs];exact uZ h y ks p.2
   ·rw [if_neg hs,if_neg hs]
theorem TF (h:ze e ex oH):∀ (ps:List Pm) (ks:List Ex) (t:Tk),args oH (ps.map Sy.jC) (ks.map (Sy.aj e)) t=args ex ps ks t
 | [],_,_=>rfl
 | p :: ps,ks,t=>by
  rw [List.map_cons,args,args,← List.map_take,← List.map_drop]
  exact adr (uZ h p.ty _ t) fun t1 _=>TF h ps _ t1
theorem TG (h:ze e ex oH){k:Int}(hk:k=2∨k=3){x y:Ex}(hn:y.name=x.name)(hy:y.kids=x.kids.map (Sy.aj e))(t:Tk):Mp fD (call l ex k x t) (call (l.map (Sy.aN)) oH k y t):=by
 unfold call
 rw [hn,hy]
 refine .same (BX _ _) fun n h1=>?_
 have hkn:=BZ h1
 rw [tC,EL (by rw [hkn];exact hk),List.length_map,List.length_map]
 exact .ite (.err _) (.same (TF h _ _ _) fun t _=>.ok (bJ l n,t))
theorem adt {k:Int}{x:Ex}{t:Tk}{p:Df × Tk}(h:call l ex k x t=.ok p):p.1.kind=k:=by
 unfold call at h
 cases hw:want l k x.name with
 | error e=>rw [hw] at h;cases h
 | ok n =>
  rw [hw,andThen_ok] at h
  split at h
  ·cases h
  ·cases ha:args ex (bJ l n).params x.kids ⟨t.sends,t.recvs,t.calls++[n]⟩ with
   | error e=>rw [ha] at h;cases h
   | ok t1=>rw [ha,andThen_ok] at h;cases h;exact BZ hw
theorem TH (h:ze e ex oH)(x:Ex)(t:Tk):Mp fD (started l ex x t) (started (l.map (Sy.aN)) oH (Sy.aj e x) t) :=
 .next (h x t) fun p _=>by
  show Mp _ _ (if (Sy.gU p.1).kind≠3 then _ else andThen (want _ 3 (Sy.gU p.1).gen) _)
  rw [KM]
  refine .sides (fun _=>.err _) fun h3=>?_
  rw [EK (by simpa using h3)]
  exact .same (BX _ _) fun n _=>by rw [tC];exact .ok (bJ l n,p.2)
theorem adu {x:Ex}{t:Tk}{p:Df × Tk}(h:started l ex x t=.ok p):p.1.kind=3:=by
 unfold started at h
 cases he:ex x t with
 | error e=>rw [he] at h;cases h
 | ok q =>
  rw [he,andThen_ok] at h
  split at h
  ·cases h
  ·cases hw:want l 3 q.1.gen with
   | error e=>rw [hw] at h;cases h
   | ok n=>rw [hw,andThen_ok] at h;cases h;exact BZ hw
theorem adv {me:Df}(h:ze e ex oH){x y:Ex}(hk:y.kind=x.kind)(hn:(x.kind=19∨x.kind=20∨x.kind=22)→y.name=x.name)(hy:y.kids=x.kids.map (Sy.aj e))(t:Tk):Mp fT (spoken l me ex x t) (spoken (l.map (Sy.aN)) (Sy.aN me) oH y t):=by
 unfold spoken
 rw [hk,EM hy,EM hy]
 refine .sides (fun c=>.next (TG h (.inl rfl) (hn (.inl c)) hy t) fun p hp=>?_) fun _=>.sides (fun c=>.next (TG h (.inr rfl) (hn (.inr (.inr c))) hy t) fun p hp=>?_) fun _=>.sides (fun c=>?_) fun _=>.sides (fun _=>?_) fun _=>.next (TH h _ t) fun g hg=>?_
 ·show Mp _ _ (.ok ((Sy.aN p.1).ty,p.2))
  rw [tH (by rw [adt hp];decide)]
  exact .ok (p.1.ty,p.2)
 ·rw [hn (.inr (.inr c))]
  exact .ok ((⟨3,x.name⟩:Ty),p.2)
 ·rw [hn (.inr (.inl c))]
  refine .same (BX _ _) fun n h1=>?_
  rw [tC,tH (by rw [BZ h1];decide)]
  exact .ok ((bJ l n).ty,_)
 ·show Mp _ _ (andThen (fits (me.kind==3)) _)
  by_cases h3:me.kind=3
  ·refine .same rfl fun _ _=>?_
   rw [tH (by rw [h3];decide),KN h3]
   exact .same (uZ h me.ty [kid x 0] t) fun t1 _=>.ok (me.takes,t1)
  ·have:(me.kind==3)=false:=by simpa using h3
   rw [this]
   exact .err _
 ·have h3:=adu hg
  show Mp _ _ (andThen (must oH (Sy.aN g.1).takes _ g.2) fun t=>.ok ((Sy.aN g.1).ty,t))
  rw [KN h3,tH (by rw [h3];decide)]
  exact .same (uZ h g.1.takes [kid x 1] g.2) fun t1 _=>.ok (g.1.ty,t1)
theorem TI (me:Df)(v:Vars):∀ (d e:Nat),d≤e→ze e (expr l me v d) (expr (l.map (Sy.aN)) (Sy.aN me) (vB v) d)
 | 0,_,_=>fun _ _=>.err _
 | _+1,0,h=>absurd h (by omega)
 | d+1,e+1,hde=>fun x t=>by
  have h:=TI me v d e (by omega)
  have e1:(Sy.aj (e+1) x).kind=x.kind:=rfl
  have e2:(Sy.aj (e+1) x).kids=x.kids.map (Sy.aj e):=rfl
  have e3:(Sy.aj (e+1) x).name=if x.kind=3∨x.kind=19∨x.kind=20∨x.kind=22 then x.name else ⟨#[]⟩:=rfl
  rw [expr,expr,e1,EM e2,EM e2]
  refine .sides (fun _=>.ok (num,t)) fun _=>.sides (fun _=>.ok (gH,t)) fun _=>.sides (fun c=>?_) fun _=>.sides (fun _=>?_) fun _=>.sides (fun _=>?_) fun _=>.sides (fun _=>?_) fun _=>.sides (fun _=>?_) fun _=>.sides (fun _=>?_) fun _=>?_
  ·rw [e3,if_pos (.inl c)]
   exact .next (TD v x.name) fun y _=>.ok (y,t)
  ·rw [e2];exact .same (uZ h num x.kids t) fun t1 _=>.ok (num,t1)
  ·rw [e2];exact .same (uZ h num x.kids t) fun t1 _=>.ok (gH,t1)
  ·rw [e2];exact .same (uZ h gH x.kids t) fun t1 _=>.ok (gH,t1)
  ·refine .next (h _ t) fun a _=>.next (h _ a.2) fun b _=>?_
   show Mp _ _ (andThen (plain (Sy.gU a.1)) fun _=>if same (Sy.gU a.1) (Sy.gU b.1)=true then _ else _)
   rw [TC]
   exact .same rfl fun _ _=>.ite (.ok (gH,b.2)) (.err _)
  ·exact .next (TH h _ t) fun p _=>.ok (gH,p.2)
  ·exact adv h e1 (fun c=>by rw [e3,if_pos (.inr c)]) e2 t
abbrev fV (p:Vars × Tk):Vars × Tk:=(vB p.1,p.2)
def KO (e:Nat)(st st':St→Vars→Tk→Except Int (Vars × Tk)):Prop:=∀ s v t,Mp fV (st s v t) (st' (Sy.bS e s) (vB v) t)
variable {st st':St→Vars→Tk→Except Int (Vars × Tk)}
theorem TJ (h:KO e st st'):∀ (b:List St) (v:Vars) (t:Tk),Mp fV (block st b v t) (block st' (b.map (Sy.bS e)) (vB v) t)
 | [],v,t=>.ok (v,t)
 | s :: b,v,t=>.next (h s v t) fun p _=>TJ h b p.1 p.2
theorem EN (h:KO e st st')(b:List St)(v:Vars)(t:Tk):inner st' (b.map (Sy.bS e)) (vB v) t=inner st b v t:=TE (TJ h b v t) fun _ _=>rfl
theorem TK (me:Df):∀ (d e:Nat),d≤e→KO e (stat l me d) (stat (l.map (Sy.aN)) (Sy.aN me) d)
 | 0,_,_=>fun _ _ _=>.err _
 | _+1,0,h=>absurd h (by omega)
 | d+1,e+1,hde=>fun s v t=>by
  have h:=TK me d e (by omega)
  have hx:=TI (l:=l) me v d e (by omega)
  have e1:(Sy.bS (e+1) s).kind=s.kind:=rfl
  have e2:(Sy.bS (e+1) s).name=if s.kind=1∨s.kind=2∨s.kind=7 then s.name else ⟨#[]⟩:=rfl
  have e3:(Sy.bS (e+1) s).x=if s.kind=6 then ⟨0,0,⟨#[]⟩,[]⟩ else Sy.aj e s.x:=rfl
  have e4:(Sy.bS (e+1) s).body=if s.kind=3∨s.kind=4 then s.body.map (Sy.bS e) else []:=rfl
  have e5:(Sy.bS (e+1) s).els=if s.kind=3 then s.els.map (Sy.bS e) else []:=rfl
  have hm:∀ y t,must (expr (l.map (Sy.aN)) (Sy.aN me) (vB v) d) (Sy.gU y) [Sy.aj e s.x] t=must (expr l me v d) y [s.x] t:=fun y t=>uZ hx y [s.x] t
  have ht:∀ t,must (expr (l.map (Sy.aN)) (Sy.aN me) (vB v) d) gH [Sy.aj e s.x] t=must (expr l me v d) gH [s.x] t:=hm gH
  rw [stat,stat,e1]
  refine .sides (fun c=>?_) fun _=>.sides (fun c=>?_) fun _=>.sides (fun c=>?_) fun _=>.sides (fun c=>?_) fun _=>.sides (fun c=>?_) fun _=>.sides (fun c=>?_) fun c6=>.sides (fun c=>?_) fun _=>.sides (fun c=>?_) fun _=>?_
  ·rw [e2,if_pos (.inl c),e3,if_neg (by omega)]
   refine .next (hx s.x t) fun p _=>?_
   show Mp _ _ (if (look (vB v) s.name).isSome=true then _ else _)
   rw [look_bare,Option.isSome_map]
   refine .ite (.err _) ?_
   have:vB v++[(s.name,(fT p).1)]=vB (v++[(s.name,p.1)]):=by simp [vB]
   rw [this]
   exact .ok (v++[(s.name,p.1)],p.2)
  ·rw [e2,e3,if_pos (.inr (.inl c)),if_neg (by omega)]
   exact .next (TD v s.name) fun y _=>.same (hm y t) fun t1 _=>.ok (v,t1)
  ·rw [e3,e4,e5,if_neg (by omega),if_pos (.inl c),if_pos c]
   exact .same (ht t) fun t1 _=>.same (EN h s.body v t1) fun t2 _=>.same (EN h s.els v t2) fun t3 _=>.ok (v,t3)
  ·rw [e3,e4,if_neg (by omega),if_pos (.inr c)]
   exact .same (ht t) fun t1 _=>.same (EN h s.body v t1) fun t2 _=>.ok (v,t2)
  ·rw [e3,if_neg (by omega)]
   show Mp _ _ (andThen (fits (me.kind==2)) _)
   by_cases h2:me.kind=2
   ·refine .same rfl fun _ _=>?_
    rw [tH (by rw [h2];decide)]
    exact .same (hm me.ty t) fun t1 _=>.ok (v,t1)
   ·have:(me.kind==2)=false:=by simpa using h2
    rw [this]
    exact .err _
  ·exact .same rfl fun _ _=>.ok (v,t)
  ·rw [e2,e3,if_pos (.inr (.inr c)),if_neg c6]
   refine .same (BX _ _) fun b hb=>?_
   rw [tC,tH (by rw [BZ hb];decide)]
   exact .same (hm _ _) fun t1 _=>.ok (v,t1)
  ·rw [e3,if_neg c6]
   exact .next (hx s.x t) fun p _=>.same rfl fun _ _=>.ok (v,p.2)
  ·rw [e3,if_neg c6]
   exact .next (hx s.x t) fun p _=>.ok (v,p.2)
end
end Sm
namespace Sm
open Sy
section
variable {l:List Df}
theorem TL:∀ (k:List Df) (i:Nat) (seen:List ByteArray),names (k.map (Sy.aN)) i seen=names k i seen
 | [],_,_=>rfl
 | d :: k,i,seen=>by
  rw [List.map_cons,names,names]
  show (if seen.any (fun s=>decide (s=d.name))=true then _ else names _ _ (seen++[d.name]))=_
  rw [TL k]
theorem adw:prog (l.map (Sy.aN))=prog l:=by
 unfold prog
 rw [TL,List.any_map,List.length_map]
 rfl
theorem KP {α:Type}{f g:Df→Except Int α}:∀ (k:List Df) (i:Nat),(∀ d ∈ k,g (Sy.aN d)=f d)→each g (k.map (Sy.aN)) i=each f k i
 | [],_,_=>rfl
 | d :: k,i,h=>by
  rw [List.map_cons,each,each,h d (by simp),KP k (i+1) (fun d hd=>h d (by simp [hd]))]
theorem adx {me:Df}(hk:1≤me.kind∧me.kind≤4):aV (l.map (Sy.aN)) (Sy.aN me)=aV l me:=by
 unfold aV
 show (if me.kind=1 then _ else _)=_
 by_cases h1:me.kind=1
 ·rw [if_pos h1,if_pos h1]
 ·rw [if_neg h1,if_neg h1]
  have e1:(Sy.aN me).body=me.body.map (Sy.bS 39):=by show (if me.kind=1 then [] else _)=_;rw [if_neg h1]
  have e2:(if (Sy.aN me).kind=4 then [] else (Sy.aN me).params.map (fun p=>(p.name,p.ty)))=vB (if me.kind=4 then [] else me.params.map (fun p=>(p.name,p.ty))):=by
   show (if me.kind=4 then [] else _)=_
   by_cases h4:me.kind=4
   ·rw [if_pos h4,if_pos h4];rfl
   ·rw [if_neg h4,if_neg h4,EL (by omega)]
    simp [vB,Sy.jC]
  rw [e1,e2]
  exact EN (TK me 39 39 (by omega)) _ _ _
theorem KQ:∀ (ps:List Pm) (seen:List ByteArray),params (l.map (Sy.aN)) (ps.map Sy.jC) seen=params l ps seen
 | [],_=>rfl
 | p :: ps,seen=>by
  rw [List.map_cons,params,params]
  show (if seen.any (fun s=>decide (s=p.name))=true then _ else if p.ty.kind=3 then andThen (want _ 3 (Sy.gU p.ty).gen) fun _=>params _ _ (seen++[p.name]) else params _ _ (seen++[p.name]))=_
  rw [BX,KQ ps]
  by_cases h3:p.ty.kind=3
  ·rw [if_pos h3,if_pos h3,EK h3]
  ·rw [if_neg h3,if_neg h3]
theorem ady (d:Df):head (l.map (Sy.aN)) (Sy.aN d)=head l d:=by
 unfold head
 show (if d.kind=1 then plain (Sy.aN d).ty else if d.kind=2 then _ else if d.kind=3 then _ else _)=_
 by_cases h1:d.kind=1
 ·rw [if_pos h1,if_pos h1,tH (by omega)];rfl
 ·rw [if_neg h1,if_neg h1]
  by_cases h2:d.kind=2
  ·rw [if_pos h2,if_pos h2,tH (by omega),EL (.inl h2),KQ];rfl
  ·rw [if_neg h2,if_neg h2]
   by_cases h3:d.kind=3
   ·rw [if_pos h3,if_pos h3,tH (by omega),KN h3,EL (.inr h3),KQ];rfl
   ·rw [if_neg h3,if_neg h3]
theorem adz (f:Nat→Bool):only (l.map (Sy.aN)) f=only l f:=by
 unfold only
 rw [List.length_map]
 cases (List.range l.length).filter f with
 | nil=>rfl
 | cons i r =>
  cases r with
  | nil=>show Except.ok (bJ (l.map (Sy.aN)) i).name=_;rw [tC];rfl
  | cons j r=>rfl
theorem adA (aG:List Tk)(i:Nat):eY (l.map (Sy.aN)) aG i=eY l aG i:=by
 unfold eY
 rw [tC]
 rfl
theorem adB (aG:List Tk)(i:Nat):owner (l.map (Sy.aN)) aG i=owner l aG i:=by
 unfold owner
 simp only [adz,adA,tC]
 rfl
theorem TM (aG:List Tk):∀ is:List Nat,gZ (l.map (Sy.aN)) aG is=gZ l aG is
 | []=>rfl
 | i :: is=>by
  rw [gZ,gZ,adB,TM aG is,tC]
  rfl
theorem adC {d:Df}{j:Nat}(h:fw d j=0):1≤d.kind∧d.kind≤4:=by
 unfold fw at h
 by_cases hn:bB d.kind 4 40 j≠0
 ·rw [if_pos hn] at h;exact absurd h hn
 ·have:=iC (by simpa using hn);exact ⟨this.2.1,this.2.2.1⟩
theorem adD (l:List Df):qj (l.map (Sy.aN))=qj l:=by
 unfold qj
 rw [Pw]
 by_cases h0:(dx l).1≠0
 ·rw [if_pos h0,if_pos h0]
 ·rw [if_neg h0,if_neg h0,adw]
  have hf:=(EF (by simpa using h0)).2
  have hk:∀ d ∈ l,1≤d.kind∧d.kind≤4:=fun d hd=>by
   obtain ⟨i,hi⟩:=List.mem_iff_getElem?.1 hd
   obtain ⟨j,_,h,_⟩:=hf i d hi
   exact adC h
  rw [KP (f:=head l) l 0 (fun d _=>ady d),KP (f:=aV l) l 0 (fun d hd=>adx (hk d hd))]
  cases prog l with
  | some e=>rfl
  | none =>
   cases each (head l) l 0 with
   | error e=>rfl
   | ok x =>
    cases each (aV l) l 0 with
    | error e=>rfl
    | ok aG =>
     show gZ _ aG (List.range (l.map (Sy.aN)).length)=gZ l aG _
     rw [List.length_map,TM]
theorem adE (l:List Df):nH (l.map (Sy.aN))=nH l:=by
 unfold nH
 rw [adD]
end
end Sm
namespace Sm
theorem adF (l:List Sy.Df)(a:Option Addr)(c:Nat)(w:World)(hX:Hid (dS w.heap.size w l a))(hP:Hid (wR w))(hT:Hid (jl w 0))(hG:Hid (Gl w.heap.size w)) :
  Calls Tryz.prog 3 #[.slice a l.length c] w fun e w'=>e=.returned (.bool true)∧Below w.heap.size w w':=by
 obtain ⟨rp,oD⟩:∃ rp,rp=uK l:=⟨_,rfl⟩
 have TN:Hid (rp=uK l):=oD
 obtain ⟨tp,ep,np⟩:=rp
 have HA1:Hid (ep=0→tp.size≤maxLen∧(l.map Sy.aN,0,0)=kD tp):=by
  intro h0
  have e1:(uK l).2.1=0:=by rw [← oD];exact h0
  obtain ⟨p1,p2,p3⟩:=aaN e1
  have e2:tp=mY l:=by rw [← p3,← oD]
  rw [e2]
  exact ⟨aaO l p2,(Zz p1 Sy.ZA p2).symm⟩
 obtain ⟨E,hE⟩:∃ E,E=(nH l).1:=⟨_,rfl⟩
 obtain ⟨N,hN⟩:∃ N,N=(nH l).2:=⟨_,rfl⟩
 have EJ:Hid (nH l=(E,N)):=by unfold Hid;rw [hE,hN]
 have BG:Hid (nH (l.map Sy.aN)=(E,N)):=by unfold Hid;rw [adE];exact EJ.out
 clear oD hE hN
 go_enter Tryz.func3,Tryz.ntmps3
 go_wp2_with fail
 refine (adp w hT hG).mono ?_
 rintro e w1 ⟨rfl,hb1⟩
 have Ca:=hid hb1
 clear hb1
 go_wp2_with fail
 refine (aaM l (tp,ep,np) a c w1 (hid ((hX.out.same (xC Ca.out)).wide Ca.out.size)) (hP.out.below Ca.out) (hT.out.keep Ca.out hT.out.lt) TN).mono ?_
 rintro e w2 ⟨rfl,hb2⟩
 have TP:Hid (Below w.heap.size w w2):=Ay Ca.out hb2
 clear hb2
 obtain ⟨W2,hW2⟩:∃ W2,w2.alloc (.cells #[.int .i64 ep,.int .i64 np] 26)=W2:=⟨_,rfl⟩
 have KR:Hid (Below w.heap.size w W2):=by rw [← hW2];exact Ay TP.out (ZP _ _)
 have hF2:W2.heap[w2.heap.size]?=some (.cells #[.int .i64 ep,.int .i64 np] 26 (0,0)):=by rw [← hW2];exact heap_alloc_new _ _
 have bW:=hid hF2
 obtain ⟨f0,f1,_⟩:=bE hF2
 have hw2:w.heap.size≤w2.heap.size:=TP.out.size
 clear hF2
 by_cases h0:ep=0
 case neg =>
  have n0:(ep != 0)=true:=by simpa using h0
  clear h0
  go_wp2
  go_ret
  exact ⟨rfl,KR.out⟩
 have n0:(ep != 0)=false:=by simpa using h0
 obtain ⟨ht,hrd⟩:=HA1.out h0
 obtain ⟨lb,hlb⟩:∃ lb,lb=l.map Sy.aN:=⟨_,rfl⟩
 have HLB:=hid hlb
 rw [← hlb] at hrd
 have yQ:=hid hrd
 clear h0 hrd hlb HA1 TN
 go_wp2_with fail
 refine (aaL tp (lb,0,0) W2 ht (hT.out.keep KR.out hT.out.lt) yQ).mono ?_
 rintro e w3 ⟨a1,c1,rfl,hl1,hd1,hb3⟩
 have adH:Hid (Below w.heap.size w w3):=Ay KR.out hb3
 have fM:Hid (w3.heap[w2.heap.size]?=some (.cells #[.int .i64 ep,.int .i64 np] 26 (0,0))):=(hb3.block _ (lt_of_block bW.out)).trans bW.out
 have hlt2:w2.heap.size<w3.heap.size:=lt_of_block fM.out
 obtain ⟨x0,x1,x2,x3⟩:=bE fM.out
 obtain ⟨V3,EO⟩:∃ V3,(w3.setCell ⟨w2.heap.size,0,none⟩ (.int .i64 0)).setCell ⟨w2.heap.size,1,none⟩ (.int .i64 0)=V3:=⟨_,rfl⟩
 have aK:Hid (V3.heap[w2.heap.size]?=some (.cells #[.int .i64 0,.int .i64 0] 26 (0,0))):=by rw [← EO];exact aaK fM.out
 have KS:Hid (Below w.heap.size w V3):=by rw [← EO];exact (adH.out.setCell (p:=⟨w2.heap.size,0,none⟩) hw2 _).setCell (p:=⟨w2.heap.size,1,none⟩) hw2 _
 have hz3:V3.heap.size=w3.heap.size:=by rw [← EO];simp only [World.bC]
 have hz2:w2.heap.size<W2.heap.size:=lt_of_block bW.out
 have HDm:Hid (dS V3.heap.size V3 lb a1):=by
  refine mo.kL (Q:=gK W2 w3) (fun b h=>by rw [hz3];exact h.2) ?_ hl1
  exact hd1.keep (fun b h=>⟨h,by
   have h2:b≠w2.heap.size:=by have:=h.1;omega
   rw [← EO]
   exact (Below.heap_setCell _ _ _ _ h2).trans (Below.heap_setCell _ _ _ _ h2)⟩)
 obtain ⟨y0,y1,y2,y3⟩:=bE aK.out
 have hc1:=TB V3.heap.size lb a1 c1 V3 HDm (Nat.le_refl _) (Tz (xq hG.out (xC KS.out)) KS.out.size)
 have hcb:nH lb=(E,N):=by rw [HLB.out];exact BG.out
 rw [hcb] at hc1
 simp only at hc1
 clear hcb hb3 hd1 f0 f1
 go_wp2_with fail
 refine hc1.mono ?_
 rintro e w4 ⟨rfl,hb4⟩
 have EP:Hid (Below w.heap.size w w4):=Ay KS.out hb4
 have hc2:=TB w.heap.size l a c w4 (hX.out.same (xC EP.out)) EP.out.size (xq hG.out (xC EP.out))
 rw [EJ.out] at hc2
 simp only at hc2
 clear hc1 hb4
 go_wp2_with fail
 refine hc2.mono ?_
 rintro e w5 ⟨rfl,hb5⟩
 have adJ:Hid (Below w.heap.size w w5):=Ay EP.out hb5
 clear hc2 hb5
 go_wp2
 go_ret
 exact ⟨rfl,adJ.out⟩
end Sm
section
variable {H:Type} {enc:TypeId × Value→H} {w:World} {base:Nat} {spare:Nat→Bool} {held:Bool}
theorem aJ.mono {B:Nat}{w:World}:∀ {h h':Nat} {x:Sy.Ex} {a:Option Addr},h≤h'→aJ B w h x a→aJ B w h' x a
 | 0,_,_,_,_,hx=>hx.elim
 | h+1,0,_,_,hh,_=>by omega
 | h+1,h'+1,x,a,hh,hx=>⟨hx.1,hx.2.1,fun i k hk=>by
  obtain ⟨b,off,a',c',e,hb,c0,c1,c2,c3,hin⟩:=hx.2.2 i k hk
  exact ⟨b,off,a',c',e,hb,c0,c1,c2,c3,hin.mono (by omega)⟩⟩
theorem cu.mono {B:Nat}{w:World}:∀ {h h':Nat} {s:Sy.St} {xa ba ea:Option Addr},h≤h'→cu B w h s xa ba ea→cu B w h' s xa ba ea
 | 0,_,_,_,_,_,_,hx=>hx.elim
 | h+1,0,_,_,_,_,hh,_=>by omega
 | h+1,h'+1,s,xa,ba,ea,hh,hx=>⟨hx.1,hx.2.1,hx.2.2.1,hx.2.2.2.1,
  fun i k hk=>by
   obtain ⟨b,off,mD,xc,ba',bc,mE,ec,e,hb,c0,c1,c2,c3,c4,c5,c6,c7,hin⟩:=hx.2.2.2.2.1 i k hk
   exact ⟨b,off,mD,xc,ba',bc,mE,ec,e,hb,c0,c1,c2,c3,c4,c5,c6,c7,hin.mono (by omega)⟩,
  fun i k hk=>by
   obtain ⟨b,off,mD,xc,ba',bc,mE,ec,e,hb,c0,c1,c2,c3,c4,c5,c6,c7,hin⟩:=hx.2.2.2.2.2 i k hk
   exact ⟨b,off,mD,xc,ba',bc,mE,ec,e,hb,c0,c1,c2,c3,c4,c5,c6,c7,hin.mono (by omega)⟩⟩
theorem adK {a:Addr}{i n:Nat}{cs:List Value}(hn:0<n)(h:w.cells? base (a.add (i * n)) n=some cs)(h0:a.spot=none) :
  a.block<w.heap.size∧∀ j,j<n→w.cell? ⟨a.block,a.off+i * n+j,none⟩=cs[j]?:=by
 obtain ⟨hb,hl,hc⟩:=World.cells?_some h
 have hadd:∀ k,a.add k=⟨a.block,a.off+k,none⟩:=by
  intro k
  unfold Addr.add
  split
  ·subst_vars;cases a;simp_all
  ·rfl
 have hcell:∀ j,j<n→w.cell? ⟨a.block,a.off+i * n+j,none⟩=cs[j]?:=by
  intro j hj
  have:=hc j hj
  rw [hadd] at this
  rw [← this]
  congr 1
  unfold Addr.add
  split
  ·subst_vars;rfl
  ·rfl
 refine ⟨?_,hcell⟩
 have h1:=hcell 0 hn
 rw [List.getElem?_eq_getElem (by omega)] at h1
 cases hh:w.heap[a.block]? with
 | none=>simp [World.cell?,hh] at h1
 | some o=>exact lt_of_block hh
theorem adL {a:Addr}{n:Nat}{cs:List Value}(hn:0<n)(h:w.cells? base (a.add (0 * n)) n=some cs):a.spot=none:=by
 obtain ⟨hb,hl,hc⟩:=World.cells?_some h
 have h1:=hc 0 hn
 rw [List.getElem?_eq_getElem (by omega)] at h1
 simp only [Nat.zero_mul,Addr.add,if_true] at h1
 unfold World.cell? at h1
 split at h1
 ·split at h1
  ·simp at h1
  ·rename_i hs;simpa using hs
 ·simp at h1
theorem TQ {α:Type}{p:Nat→α→Prop}:∀ (n:Nat),(∀ i,i<n→∃ y,p i y)→∃ l:List α,l.length=n∧∀ i y,l[i]?=some y→p i y
 | 0,_=>⟨[],rfl,fun i y hy=>by simp at hy⟩
 | m+1,hall=>by
  obtain ⟨l,h1,h2⟩:=TQ m (fun i hi=>hall i (by omega))
  obtain ⟨y,h3⟩:=hall m (by omega)
  refine ⟨l++[y],by simp [h1],fun i z hz=>?_⟩
  by_cases hi:i<l.length
  ·rw [List.getElem?_append_left hi] at hz;exact h2 i z hz
  ·rw [List.getElem?_append_right (by omega)] at hz
   have hi2:i - l.length=0:=by
    have:=(List.getElem?_eq_some_iff.1 hz).1
    simp at this;omega
   rw [hi2] at hz
   simp at hz
   subst hz
   obtain rfl:i=m:=by omega
   exact h3
theorem Cb {α:Type}{t e:TypeId}{n fuel:Nat}{cs:List Value}{x:DataW H × List MemPlace}(Q:Nat→List Value→α→Prop)
  (ht:Tryz.prog.underlying t=some (.slice e)) (hce:Tryz.prog.cellsOf e=n) (hn:0<n)
  (hQ:∀ f cs' x',f<fuel→DataW.trod enc Tryz.prog w base spare held f e cs'=some x'→∃ y,Q f cs' y)
  (h:DataW.trod enc Tryz.prog w base spare held fuel t cs=some x) :
  ∃ (l:List α) (a:Option Addr) (c:Nat),cs=[.slice a l.length c]∧l.length≤maxLen ∧
   ∀ i y,l[i]?=some y→∃ b off cs' f,a=some ⟨b,off,none⟩∧b<w.heap.size∧f<fuel∧cs'.length=n∧Q f cs' y∧∀ j,j<n→w.cell? ⟨b,off+i * n+j,none⟩=cs'[j]?:=by
 rcases DataW.trod_slice ht h with ⟨rfl,_⟩ | ⟨a,len,cap,elems,rest,k,rfl,rfl,_,hb,hl,hm,hlen,hel,_,_⟩
 ·exact ⟨[],none,0,rfl,Nat.zero_le _,fun i y hy=>by simp at hy⟩
 ·rw [hce] at hel
  have hall:∀ i,i<len→∃ cs' y,w.cells? base (a.add (i * n)) n=some cs'∧Q k cs' y:=by
   intro i hi
   have:=hel i hi
   rw [List.getElem?_eq_getElem (by omega)] at this
   obtain ⟨cs',h1,h2⟩:=Option.bind_eq_some_iff.1 this
   obtain ⟨y,hy⟩:=hQ k cs' _ (by omega) h2
   exact ⟨cs',y,h1,hy⟩
  obtain ⟨l,hll,hlq⟩:=TQ (p:=fun i y=>∃ cs',w.cells? base (a.add (i * n)) n=some cs'∧Q k cs' y) len (fun i hi=>by
   obtain ⟨cs',y,h1,h2⟩:=hall i hi
   exact ⟨y,cs',h1,h2⟩)
  refine ⟨l,some a,cap,by rw [hll],by omega,fun i y hy=>?_⟩
  have hi:=(List.getElem?_eq_some_iff.1 hy).1
  have hsp:a.spot=none:=by
   obtain ⟨cs0,y0,h1,_⟩:=hall 0 (by omega)
   exact adL hn h1
  obtain ⟨cs',h1,h2⟩:=hlq i y hy
  obtain ⟨h3,h4⟩:=adK hn h1 hsp
  exact ⟨a.block,a.off,cs',k,by cases a;simp_all,h3,by omega,(World.cells?_some h1).2.1,h2,h4⟩
theorem KT:Tryz.prog.cellsOf 122=4:=by kernel_rfl
theorem KU:Tryz.prog.cellsOf 124=8:=by kernel_rfl
theorem TR:Tryz.prog.cellsOf 50=9:=by kernel_rfl
theorem TS:Tryz.prog.cellsOf 118=3:=by kernel_rfl
theorem ER:Tryz.prog.cellsOf 46=2:=by kernel_rfl
theorem zg:Tryz.prog.cellsOf 3=1:=by kernel_rfl
theorem adM:Tryz.prog.cellsOf 2=1:=by kernel_rfl
theorem xz:Tryz.prog.cellsOf 9=1:=by kernel_rfl
theorem adN:Tryz.prog.cellsOf 120=1:=by kernel_rfl
theorem TT:Tryz.prog.cellsOf 48=1:=by kernel_rfl
theorem adO:Tryz.prog.cellsOf 47=1:=by kernel_rfl
theorem adP {cs:List Value}(h:cs.length=4):∃ a b c d,cs=[a,b,c,d]:=by
 match cs,h with
 | [a,b,c,d],_=>exact ⟨a,b,c,d,rfl⟩
theorem TU {cs:List Value}(h:cs.length=2):∃ a b,cs=[a,b]:=by
 match cs,h with
 | [a,b],_=>exact ⟨a,b,rfl⟩
theorem TV {cs:List Value}(h:cs.length=3):∃ a b c,cs=[a,b,c]:=by
 match cs,h with
 | [a,b,c],_=>exact ⟨a,b,c,rfl⟩
theorem adQ {cs:List Value}(h:cs.length=8):∃ a b c d e f g i,cs=[a,b,c,d,e,f,g,i]:=by
 match cs,h with
 | [a,b,c,d,e,f,g,i],_=>exact ⟨a,b,c,d,e,f,g,i,rfl⟩
theorem adR {cs:List Value}(h:cs.length=9):∃ a b c d e f g i j,cs=[a,b,c,d,e,f,g,i,j]:=by
 match cs,h with
 | [a,b,c,d,e,f,g,i,j],_=>exact ⟨a,b,c,d,e,f,g,i,j,rfl⟩
theorem ku {fs:Array Field}{n:Nat}{cs:List Value}{xs:List (DataW H × List MemPlace)}(hl:xs.length=fs.size)
  (h:∀ (i:Nat) (f:Field),fs[i]?=some f→DataW.trod enc Tryz.prog w base spare held n f.type ((cs.drop f.offset).take (Tryz.prog.cellsOf f.type))=xs[i]?)
  (i:Nat) (f:Field) (hf:fs[i]?=some f):∃ x,DataW.trod enc Tryz.prog w base spare held n f.type ((cs.drop f.offset).take (Tryz.prog.cellsOf f.type))=some x:=by
 have hi:i<fs.size:=(Array.getElem?_eq_some_iff.1 hf).1
 exact ⟨xs[i]'(by omega),by rw [h i f hf,List.getElem?_eq_getElem]⟩
theorem KV {fuel:Nat}{cs:List Value}{x:DataW H × List MemPlace}(h:DataW.trod enc Tryz.prog w base spare held fuel 46 cs=some x) :
  ∃ t:Sy.Ty,cs=[.int .i64 t.kind,.string t.gen]∧t.gen.size≤maxLen:=by
 obtain ⟨xs,n,rfl,_,hl,hxl,hf⟩:=DataW.trod_struct Tryz.underlying46 h
 rw [ER] at hl
 obtain ⟨a,b,rfl⟩:=TU hl
 obtain ⟨x0,h0⟩:∃ x,DataW.trod enc Tryz.prog w base spare held n 3 (([a,b].drop 0).take (Tryz.prog.cellsOf 3))=some x:=ku hxl hf 0 _ rfl
 obtain ⟨x1,h1⟩:∃ x,DataW.trod enc Tryz.prog w base spare held n 9 (([a,b].drop 1).take (Tryz.prog.cellsOf 9))=some x:=ku hxl hf 1 _ rfl
 simp only [zg,xz] at h0 h1
 obtain ⟨k,hk,_,_⟩:=DataW.trod_int Tryz.underlying3 h0
 obtain ⟨s,hs,_,hsz⟩:=DataW.trod_string Tryz.underlying9 h1
 simp at hk hs
 exact ⟨⟨k,s⟩,by rw [hk,hs],hsz⟩
theorem adS:∀ (fuel:Nat) (cs:List Value) (x:DataW H × List MemPlace),DataW.trod enc Tryz.prog w base spare held fuel 122 cs=some x →
  ∃ (e:Sy.Ex) (a:Option Addr) (c:Nat),cs=[.int .i64 e.kind,.int .i64 e.n,.string e.name,.slice a e.kids.length c]∧aJ w.heap.size w fuel e a:=by
 intro fuel
 induction fuel using Nat.strongRecOn with
 | ind fuel ih =>
  intro cs x h
  obtain ⟨xs,n,rfl,_,hl,hxl,hf⟩:=DataW.trod_struct Tryz.underlying122 h
  rw [KT] at hl
  obtain ⟨a,b,c,d,rfl⟩:=adP hl
  obtain ⟨x0,h0⟩:∃ x,DataW.trod enc Tryz.prog w base spare held n 3 (([a,b,c,d].drop 0).take (Tryz.prog.cellsOf 3))=some x:=ku hxl hf 0 _ rfl
  obtain ⟨x1,h1⟩:∃ x,DataW.trod enc Tryz.prog w base spare held n 2 (([a,b,c,d].drop 1).take (Tryz.prog.cellsOf 2))=some x:=ku hxl hf 1 _ rfl
  obtain ⟨x2,h2⟩:∃ x,DataW.trod enc Tryz.prog w base spare held n 9 (([a,b,c,d].drop 2).take (Tryz.prog.cellsOf 9))=some x:=ku hxl hf 2 _ rfl
  obtain ⟨x3,h3⟩:∃ x,DataW.trod enc Tryz.prog w base spare held n 120 (([a,b,c,d].drop 3).take (Tryz.prog.cellsOf 120))=some x:=ku hxl hf 3 _ rfl
  simp only [zg,adM,xz,adN] at h0 h1 h2 h3
  obtain ⟨k,hk,_,_⟩:=DataW.trod_int Tryz.underlying3 h0
  obtain ⟨nn,hnn,_,_⟩:=DataW.trod_int Tryz.underlying2 h1
  obtain ⟨s,hs,_,hsz⟩:=DataW.trod_string Tryz.underlying9 h2
  obtain ⟨l,ad,cp,hsl,hlm,hall⟩:=Cb (n:=4) (fun f cs' (y:Sy.Ex)=>∃ (a:Option Addr) (c:Nat),cs'=[.int .i64 y.kind,.int .i64 y.n,.string y.name,.slice a y.kids.length c]∧aJ w.heap.size w f y a) Tryz.underlying120 KT (by decide) (fun f cs' x' hlt hx'=>ih f (by omega) cs' x' hx') h3
  simp at hk hnn hs hsl
  refine ⟨⟨k,nn,s,l⟩,ad,cp,by rw [hk,hnn,hs,hsl],hsz,hlm,fun i y hy=>?_⟩
  obtain ⟨bb,off,cs',f,he,hb,qg,_,⟨a',c',rfl,hin⟩,hc⟩:=hall i y hy
  exact ⟨bb,off,a',c',he,hb,hc 0 (by decide),hc 1 (by decide),hc 2 (by decide),hc 3 (by decide),hin.mono (by omega)⟩
theorem adT:∀ (fuel:Nat) (cs:List Value) (x:DataW H × List MemPlace),DataW.trod enc Tryz.prog w base spare held fuel 124 cs=some x →
  ∃ (s:Sy.St) (xa:Option Addr) (xc:Nat) (ba:Option Addr) (bc:Nat) (ea:Option Addr) (ec:Nat),
   cs=[.int .i64 s.kind,.string s.name,.int .i64 s.x.kind,.int .i64 s.x.n,.string s.x.name,.slice xa s.x.kids.length xc,.slice ba s.body.length bc,.slice ea s.els.length ec]∧cu w.heap.size w fuel s xa ba ea:=by
 intro fuel
 induction fuel using Nat.strongRecOn with
 | ind fuel ih =>
  intro cs x h
  obtain ⟨xs,n,rfl,_,hl,hxl,hf⟩:=DataW.trod_struct Tryz.underlying124 h
  rw [KU] at hl
  obtain ⟨v0,v1,v2,v3,v4,v5,v6,v7,rfl⟩:=adQ hl
  obtain ⟨x0,h0⟩:∃ x,DataW.trod enc Tryz.prog w base spare held n 3 (([v0,v1,v2,v3,v4,v5,v6,v7].drop 0).take (Tryz.prog.cellsOf 3))=some x:=ku hxl hf 0 _ rfl
  obtain ⟨x1,h1⟩:∃ x,DataW.trod enc Tryz.prog w base spare held n 9 (([v0,v1,v2,v3,v4,v5,v6,v7].drop 1).take (Tryz.prog.cellsOf 9))=some x:=ku hxl hf 1 _ rfl
  obtain ⟨x2,h2⟩:∃ x,DataW.trod enc Tryz.prog w base spare held n 122 (([v0,v1,v2,v3,v4,v5,v6,v7].drop 2).take (Tryz.prog.cellsOf 122))=some x:=ku hxl hf 2 _ rfl
  obtain ⟨x3,h3⟩:∃ x,DataW.trod enc Tryz.prog w base spare held n 48 (([v0,v1,v2,v3,v4,v5,v6,v7].drop 6).take (Tryz.prog.cellsOf 48))=some x:=ku hxl hf 3 _ rfl
  obtain ⟨x4,h4⟩:∃ x,DataW.trod enc Tryz.prog w base spare held n 48 (([v0,v1,v2,v3,v4,v5,v6,v7].drop 7).take (Tryz.prog.cellsOf 48))=some x:=ku hxl hf 4 _ rfl
  simp only [zg,xz,KT,TT] at h0 h1 h2 h3 h4
  obtain ⟨k,hk,_,_⟩:=DataW.trod_int Tryz.underlying3 h0
  obtain ⟨s,hs,_,hsz⟩:=DataW.trod_string Tryz.underlying9 h1
  obtain ⟨e,xa,xc,he,adU⟩:=adS _ _ _ h2
  have row:=fun (cs:List Value) (x:DataW H × List MemPlace) (hx:DataW.trod enc Tryz.prog w base spare held n 48 cs=some x)=>Cb (n:=8) (fun f cs' (y:Sy.St)=>∃ (xa:Option Addr) (xc:Nat) (ba:Option Addr) (bc:Nat) (ea:Option Addr) (ec:Nat),cs'=[.int .i64 y.kind,.string y.name,.int .i64 y.x.kind,.int .i64 y.x.n,.string y.x.name,.slice xa y.x.kids.length xc,.slice ba y.body.length bc,.slice ea y.els.length ec]∧cu w.heap.size w f y xa ba ea) Tryz.underlying48 KU (by decide) (fun f cs' x' hlt hx'=>ih f (by omega) cs' x' hx') hx
  obtain ⟨lb,ba,bc,Cc,KW,KX⟩:=row _ _ h3
  obtain ⟨le,ea,ec,TY,adV,adW⟩:=row _ _ h4
  simp at hk hs he Cc TY
  obtain ⟨e2,e3,e4,e5⟩:=he
  refine ⟨⟨k,s,e,lb,le⟩,xa,xc,ba,bc,ea,ec,by rw [hk,hs,e2,e3,e4,e5,Cc,TY],hsz,⟨n,adU⟩,KW,adV,?_,?_⟩
  ·intro i y hy
   obtain ⟨bb,off,cs',f,tJ,hb,qg,_,⟨mD,Ce,ba',bc',mE,Cf,rfl,hin⟩,hc⟩:=KX i y hy
   exact ⟨bb,off,mD,Ce,ba',bc',mE,Cf,tJ,hb,hc 0 (by decide),hc 1 (by decide),hc 2 (by decide),hc 3 (by decide),hc 4 (by decide),hc 5 (by decide),hc 6 (by decide),hc 7 (by decide),hin.mono (by omega)⟩
  ·intro i y hy
   obtain ⟨bb,off,cs',f,tJ,hb,qg,_,⟨mD,Ce,ba',bc',mE,Cf,rfl,hin⟩,hc⟩:=adW i y hy
   exact ⟨bb,off,mD,Ce,ba',bc',mE,Cf,tJ,hb,hc 0 (by decide),hc 1 (by decide),hc 2 (by decide),hc 3 (by decide),hc 4 (by decide),hc 5 (by decide),hc 6 (by decide),hc 7 (by decide),hin.mono (by omega)⟩
theorem adX {fuel:Nat}{cs:List Value}{x:DataW H × List MemPlace}(h:DataW.trod enc Tryz.prog w base spare held fuel 118 cs=some x) :
  ∃ p:Sy.Pm,cs=[.string p.name,.int .i64 p.ty.kind,.string p.ty.gen]∧p.name.size≤maxLen∧p.ty.gen.size≤maxLen:=by
 obtain ⟨xs,n,rfl,_,hl,hxl,hf⟩:=DataW.trod_struct Tryz.underlying118 h
 rw [TS] at hl
 obtain ⟨a,b,c,rfl⟩:=TV hl
 obtain ⟨x0,h0⟩:∃ x,DataW.trod enc Tryz.prog w base spare held n 9 (([a,b,c].drop 0).take (Tryz.prog.cellsOf 9))=some x:=ku hxl hf 0 _ rfl
 obtain ⟨x1,h1⟩:∃ x,DataW.trod enc Tryz.prog w base spare held n 46 (([a,b,c].drop 1).take (Tryz.prog.cellsOf 46))=some x:=ku hxl hf 1 _ rfl
 simp only [ER,xz] at h0 h1
 obtain ⟨s,hs,_,hsz⟩:=DataW.trod_string Tryz.underlying9 h0
 obtain ⟨t,ht,htz⟩:=KV h1
 simp at hs ht
 obtain ⟨e1,e2⟩:=ht
 exact ⟨⟨s,t⟩,by rw [hs,e1,e2],hsz,htz⟩
theorem adY {fuel:Nat}{cs:List Value}{x:DataW H × List MemPlace}(h:DataW.trod enc Tryz.prog w base spare held fuel 50 cs=some x) :
  ∃ (d:Sy.Df) (pa:Option Addr) (pc:Nat) (ba:Option Addr) (bc:Nat),cs=[.int .i64 d.kind,.string d.name,.int .i64 d.ty.kind,.string d.ty.gen,.int .i64 d.takes.kind,.string d.takes.gen,.int .i64 d.cap,.slice pa d.params.length pc,.slice ba d.body.length bc]∧jL w.heap.size w d pa ba:=by
 obtain ⟨xs,n,rfl,_,hl,hxl,hf⟩:=DataW.trod_struct Tryz.underlying50 h
 rw [TR] at hl
 obtain ⟨v0,v1,v2,v3,v4,v5,v6,v7,v8,rfl⟩:=adR hl
 obtain ⟨x0,h0⟩:∃ x,DataW.trod enc Tryz.prog w base spare held n 3 (([v0,v1,v2,v3,v4,v5,v6,v7,v8].drop 0).take (Tryz.prog.cellsOf 3))=some x:=ku hxl hf 0 _ rfl
 obtain ⟨x1,h1⟩:∃ x,DataW.trod enc Tryz.prog w base spare held n 9 (([v0,v1,v2,v3,v4,v5,v6,v7,v8].drop 1).take (Tryz.prog.cellsOf 9))=some x:=ku hxl hf 1 _ rfl
 obtain ⟨x2,h2⟩:∃ x,DataW.trod enc Tryz.prog w base spare held n 46 (([v0,v1,v2,v3,v4,v5,v6,v7,v8].drop 2).take (Tryz.prog.cellsOf 46))=some x:=ku hxl hf 2 _ rfl
 obtain ⟨x3,h3⟩:∃ x,DataW.trod enc Tryz.prog w base spare held n 46 (([v0,v1,v2,v3,v4,v5,v6,v7,v8].drop 4).take (Tryz.prog.cellsOf 46))=some x:=ku hxl hf 3 _ rfl
 obtain ⟨x4,h4⟩:∃ x,DataW.trod enc Tryz.prog w base spare held n 3 (([v0,v1,v2,v3,v4,v5,v6,v7,v8].drop 6).take (Tryz.prog.cellsOf 3))=some x:=ku hxl hf 4 _ rfl
 obtain ⟨x5,h5⟩:∃ x,DataW.trod enc Tryz.prog w base spare held n 47 (([v0,v1,v2,v3,v4,v5,v6,v7,v8].drop 7).take (Tryz.prog.cellsOf 47))=some x:=ku hxl hf 5 _ rfl
 obtain ⟨x6,h6⟩:∃ x,DataW.trod enc Tryz.prog w base spare held n 48 (([v0,v1,v2,v3,v4,v5,v6,v7,v8].drop 8).take (Tryz.prog.cellsOf 48))=some x:=ku hxl hf 6 _ rfl
 simp only [zg,xz,ER,TT,adO] at h0 h1 h2 h3 h4 h5 h6
 obtain ⟨k,hk,_,_⟩:=DataW.trod_int Tryz.underlying3 h0
 obtain ⟨s,hs,_,hsz⟩:=DataW.trod_string Tryz.underlying9 h1
 obtain ⟨t,ht,htz⟩:=KV h2
 obtain ⟨u,hu,huz⟩:=KV h3
 obtain ⟨cp,hcp,_,_⟩:=DataW.trod_int Tryz.underlying3 h4
 obtain ⟨lp,pa,pc,TZ,ad1,ad2⟩:=Cb (n:=3) (fun _ cs' (y:Sy.Pm)=>cs'=[.string y.name,.int .i64 y.ty.kind,.string y.ty.gen]∧y.name.size≤maxLen∧y.ty.gen.size≤maxLen) Tryz.underlying47 TS (by decide) (fun f cs' x' _ hx'=>adX hx') h5
 obtain ⟨lb,ba,bc,Cc,KW,KX⟩:=Cb (n:=8) (fun f cs' (y:Sy.St)=>∃ (xa:Option Addr) (xc:Nat) (ba:Option Addr) (bc:Nat) (ea:Option Addr) (ec:Nat),cs'=[.int .i64 y.kind,.string y.name,.int .i64 y.x.kind,.int .i64 y.x.n,.string y.x.name,.slice xa y.x.kids.length xc,.slice ba y.body.length bc,.slice ea y.els.length ec]∧cu w.heap.size w f y xa ba ea) Tryz.underlying48 KU (by decide) (fun f cs' x' _ hx'=>adT f cs' x' hx') h6
 simp at hk hs ht hu hcp TZ Cc
 obtain ⟨e2,e3⟩:=ht
 obtain ⟨e4,e5⟩:=hu
 refine ⟨⟨k,s,t,u,cp,lp,lb⟩,pa,pc,ba,bc,by rw [hk,hs,e2,e3,e4,e5,hcp,TZ,Cc],hsz,htz,huz,⟨ad1,?_⟩,n,KW,?_⟩
 ·intro i y hy
  obtain ⟨bb,off,cs',f,tJ,hb,qg,_,⟨rfl,h1,h2⟩,hc⟩:=ad2 i y hy
  exact ⟨bb,off,tJ,hb,hc 0 (by decide),hc 1 (by decide),hc 2 (by decide),h1,h2⟩
 ·intro i y hy
  obtain ⟨bb,off,cs',f,tJ,hb,qg,_,⟨mD,Ce,ba',bc',mE,Cf,rfl,hin⟩,hc⟩:=KX i y hy
  exact ⟨bb,off,mD,Ce,ba',bc',mE,Cf,tJ,hb,hc 0 (by decide),hc 1 (by decide),hc 2 (by decide),hc 3 (by decide),hc 4 (by decide),hc 5 (by decide),hc 6 (by decide),hc 7 (by decide),hin.mono (by omega)⟩
theorem ad3 {fuel:Nat}{cs:List Value}{x:DataW H × List MemPlace}(h:DataW.trod enc Tryz.prog w base spare held fuel 22 cs=some x) :
  ∃ (l:List Sy.Df) (a:Option Addr) (c:Nat),cs=[.slice a l.length c]∧dS w.heap.size w l a:=by
 obtain ⟨l,a,c,hsl,hlm,hall⟩:=Cb (n:=9) (fun _ cs' (d:Sy.Df)=>∃ (pa:Option Addr) (pc:Nat) (ba:Option Addr) (bc:Nat),cs'=[.int .i64 d.kind,.string d.name,.int .i64 d.ty.kind,.string d.ty.gen,.int .i64 d.takes.kind,.string d.takes.gen,.int .i64 d.cap,.slice pa d.params.length pc,.slice ba d.body.length bc]∧jL w.heap.size w d pa ba) Tryz.underlying22 TR (by decide) (fun f cs' x' _ hx'=>adY hx') h
 refine ⟨l,a,c,hsl,hlm,fun i d hd=>?_⟩
 obtain ⟨bb,off,cs',f,tJ,hb,qg,_,⟨pa,pc,ba,bc,rfl,hin⟩,hc⟩:=hall i d hd
 exact ⟨bb,off,pa,pc,ba,bc,tJ,hb,hc 0 (by decide),hc 1 (by decide),hc 2 (by decide),hc 3 (by decide),hc 4 (by decide),hc 5 (by decide),hc 6 (by decide),hc 7 (by decide),hc 8 (by decide),hin⟩
end
end Go.Proofs.YtolfleeidpeomaaGreatDoor
