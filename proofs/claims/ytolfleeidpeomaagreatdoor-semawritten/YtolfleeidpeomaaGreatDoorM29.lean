/- Chapter 3 plainly: what programs mean,as package sema reckons it. -/
import Derived.Test.YtolfleeidpeomaaGreatDoorM2
import Derived.MapKept
import Derived.ArgAppend
import Derived.Test.YtolfleeidpeomaaGreatDoorM4
import Derived.WalkSpells
import Derived.WalkLawsBesides
import Derived.Deep.QuietTactic
import Derived.BigQuiet
import Derived.Laws.AppendOwnNone
set_option maxRecDepth 100000
set_option maxHeartbeats 1000000
namespace Go.Proofs.YtolfleeidpeomaaGreatDoor
namespace Sm
open Sy
def num:Ty:=⟨1,⟨#[]⟩⟩
def gH:Ty:=⟨2,⟨#[]⟩⟩
def same (a b:Ty):Bool:=decide (a.kind=b.kind) && (decide (a.kind≠3) || decide (a.gen=b.gen))
structure Tk where
 sends:List Nat
 recvs:List Nat
 calls:List Nat
def Tk.none:Tk:=⟨[],[],[]⟩
def andThen {α β:Type}(r:Except Int α)(f:α→Except Int β):Except Int β:=match r with | .error e=>.error e | .ok x=>f x
theorem andThen_ok {α β:Type}(x:α)(f:α→Except Int β):andThen (.ok x) f=f x:=rfl
def numOf (l:List Df)(name:ByteArray):Option Nat:=(List.range l.length).reverse.find? (fun i=>decide ((l[i]?).map (·.name)=some name))
def bJ (l:List Df)(i:Nat):Df:=(l[i]?).getD ⟨0,⟨#[]⟩,⟨0,⟨#[]⟩⟩,⟨0,⟨#[]⟩⟩,0,[],[]⟩
def want (l:List Df)(kind:Int)(name:ByteArray):Except Int Nat:=match numOf l name with
 | none=>.error 7
 | some i=>if (bJ l i).kind=kind then .ok i else .error 7
abbrev Vars:=List (ByteArray × Ty)
def look (vars:Vars)(name:ByteArray):Option Ty:=(vars.find? (fun p=>decide (p.1=name))).map (·.2)
def known (vars:Vars)(name:ByteArray):Except Int Ty:=match look vars name with
 | none=>.error 7
 | some t=>.ok t
def fits (b:Bool):Except Int Unit:=if b=true then .ok () else .error 8
def plain (t:Ty):Except Int Unit:=if t.kind=3 then .error 9 else .ok ()
def must (ex:Ex→Tk→Except Int (Ty × Tk))(wt:Ty):List Ex→Tk→Except Int Tk
 | [],t=>.ok t
 | x :: l,t=>andThen (ex x t) fun p=>if same p.1 wt=true then must ex wt l p.2 else .error 9
def args (ex:Ex→Tk→Except Int (Ty × Tk)):List Pm→List Ex→Tk→Except Int Tk
 | [],_,t=>.ok t
 | p :: ps,ks,t=>andThen (must ex p.ty (ks.take 1) t) fun t=>args ex ps (ks.drop 1) t
def call (l:List Df)(ex:Ex→Tk→Except Int (Ty × Tk))(kind:Int)(x:Ex)(t:Tk):Except Int (Df × Tk) :=
 andThen (want l kind x.name) fun n =>
  if x.kids.length≠(bJ l n).params.length then .error 5
  else andThen (args ex (bJ l n).params x.kids ⟨t.sends,t.recvs,t.calls++[n]⟩) fun t=>.ok (bJ l n,t)
def started (l:List Df)(ex:Ex→Tk→Except Int (Ty × Tk))(x:Ex)(t:Tk):Except Int (Df × Tk) :=
 andThen (ex x t) fun p=>if p.1.kind≠3 then .error 9 else andThen (want l 3 p.1.gen) fun n=>.ok (bJ l n,p.2)
def kid (x:Ex)(i:Nat):Ex:=(x.kids[i]?).getD ⟨0,0,⟨#[]⟩,[]⟩
def spoken (l:List Df)(me:Df)(ex:Ex→Tk→Except Int (Ty × Tk))(x:Ex)(t:Tk):Except Int (Ty × Tk) :=
 if x.kind=19 then andThen (call l ex 2 x t) fun p=>.ok (p.1.ty,p.2)
 else if x.kind=22 then andThen (call l ex 3 x t) fun p=>.ok (⟨3,x.name⟩,p.2)
 else if x.kind=20 then andThen (want l 1 x.name) fun b=>.ok ((bJ l b).ty,⟨t.sends,t.recvs++[b],t.calls⟩)
 else if x.kind=21 then andThen (fits (me.kind==3)) fun _=>andThen (must ex me.ty [kid x 0] t) fun t=>.ok (me.takes,t)
 else andThen (started l ex (kid x 0) t) fun g=>andThen (must ex g.1.takes [kid x 1] g.2) fun t=>.ok (g.1.ty,t)
def expr (l:List Df)(me:Df)(vars:Vars):Nat→Ex→Tk→Except Int (Ty × Tk)
 | 0,_,_=>.error 4
 | d+1,x,t =>
  if x.kind=1 then .ok (num,t)
  else if x.kind=2 then .ok (gH,t)
  else if x.kind=3 then andThen (known vars x.name) fun y=>.ok (y,t)
  else if x.kind=4∨6≤x.kind∧x.kind≤10 then andThen (must (expr l me vars d) num x.kids t) fun t=>.ok (num,t)
  else if 13≤x.kind∧x.kind≤16 then andThen (must (expr l me vars d) num x.kids t) fun t=>.ok (gH,t)
  else if x.kind=5∨x.kind=17∨x.kind=18 then andThen (must (expr l me vars d) gH x.kids t) fun t=>.ok (gH,t)
  else if x.kind=11∨x.kind=12 then
   andThen (expr l me vars d (kid x 0) t) fun a=>andThen (expr l me vars d (kid x 1) a.2) fun b =>
    andThen (plain a.1) fun _=>if same a.1 b.1=true then .ok (gH,b.2) else .error 9
  else if x.kind=24 then andThen (started l (expr l me vars d) (kid x 0) t) fun p=>.ok (gH,p.2)
  else spoken l me (expr l me vars d) x t
def block (st:St→Vars→Tk→Except Int (Vars × Tk)):List St→Vars→Tk→Except Int (Vars × Tk)
 | [],v,t=>.ok (v,t)
 | s :: b,v,t=>andThen (st s v t) fun p=>block st b p.1 p.2
def inner (st:St→Vars→Tk→Except Int (Vars × Tk))(b:List St)(v:Vars)(t:Tk):Except Int Tk:=andThen (block st b v t) fun p=>.ok p.2
def stat (l:List Df)(me:Df):Nat→St→Vars→Tk→Except Int (Vars × Tk)
 | 0,_,_,_=>.error 4
 | d+1,s,v,t =>
  if s.kind=1 then andThen (expr l me v d s.x t) fun p=>if (look v s.name).isSome=true then .error 7 else .ok (v++[(s.name,p.1)],p.2)
  else if s.kind=2 then andThen (known v s.name) fun y=>andThen (must (expr l me v d) y [s.x] t) fun t=>.ok (v,t)
  else if s.kind=3 then andThen (must (expr l me v d) gH [s.x] t) fun t=>andThen (inner (stat l me d) s.body v t) fun t=>andThen (inner (stat l me d) s.els v t) fun t=>.ok (v,t)
  else if s.kind=4 then andThen (must (expr l me v d) gH [s.x] t) fun t=>andThen (inner (stat l me d) s.body v t) fun t=>.ok (v,t)
  else if s.kind=5 then andThen (fits (me.kind==2)) fun _=>andThen (must (expr l me v d) me.ty [s.x] t) fun t=>.ok (v,t)
  else if s.kind=6 then andThen (fits (me.kind != 2)) fun _=>.ok (v,t)
  else if s.kind=7 then andThen (want l 1 s.name) fun b=>andThen (must (expr l me v d) (bJ l b).ty [s.x] ⟨t.sends++[b],t.recvs,t.calls⟩) fun t=>.ok (v,t)
  else if s.kind=8 then andThen (expr l me v d s.x t) fun p=>andThen (plain p.1) fun _=>.ok (v,p.2)
  else andThen (expr l me v d s.x t) fun p=>.ok (v,p.2)
def aV (l:List Df)(me:Df):Except Int Tk :=
 if me.kind=1 then .ok Tk.none
 else inner (stat l me 39) me.body (if me.kind=4 then [] else me.params.map (fun p=>(p.name,p.ty))) Tk.none
def params (l:List Df):List Pm→List ByteArray→Except Int Unit
 | [],_=>.ok ()
 | p :: ps,seen=>if seen.any (fun s=>decide (s=p.name))=true then .error 7 else if p.ty.kind=3 then andThen (want l 3 p.ty.gen) fun _=>params l ps (seen++[p.name]) else params l ps (seen++[p.name])
def head (l:List Df)(d:Df):Except Int Unit :=
 if d.kind=1 then plain d.ty
 else if d.kind=2 then andThen (params l d.params []) fun _=>plain d.ty
 else if d.kind=3 then andThen (params l d.params []) fun _=>andThen (plain d.takes) fun _=>plain d.ty
 else .ok ()
def each {α:Type}(f:Df→Except Int α):List Df→Nat→Except (Int × Nat) (List α)
 | [],_=>.ok []
 | d :: l,i=>match f d with
  | .error e=>.error (e,i)
  | .ok x=>match each f l (i+1) with
   | .error e=>.error e
   | .ok xs=>.ok (x :: xs)
def names:List Df→Nat→List ByteArray→Option (Int × Nat)
 | [],_,_=>none
 | d :: l,i,seen=>if seen.any (fun s=>decide (s=d.name))=true then some (7,i) else names l (i+1) (seen++[d.name])
def prog (l:List Df):Option (Int × Nat):=match names l 0 [] with
 | some e=>some e
 | none=>if l.any (fun d=>d.kind==4) then none else some (6,l.length)
def reach (aG:List Tk):Nat→Nat→List Nat→List Nat
 | 0,_,out=>out
 | f+1,i,out=>match out[i]? with
  | none=>out
  | some n=>reach aG f (i+1) (((aG[n]?).getD Tk.none).calls.foldl (fun o c=>if c ∈ o then o else o++[c]) out)
def reached (aG:List Tk)(task:Nat):Tk :=
 let cs:=reach aG (aG.length+1) 0 [task]
 ⟨cs.flatMap (fun n=>((aG[n]?).getD Tk.none).sends),cs.flatMap (fun n=>((aG[n]?).getD Tk.none).recvs),cs⟩
def only (l:List Df)(speaks:Nat→Bool):Except Int ByteArray :=
 match (List.range l.length).filter speaks with
 | []=>.ok ⟨#[]⟩
 | [i]=>.ok (bJ l i).name
 | _=>.error 8
def eY (l:List Df)(aG:List Tk)(i:Nat):Tk:=if (bJ l i).kind=4 then reached aG i else Tk.none
def owner (l:List Df)(aG:List Tk)(i:Nat):Except Int (ByteArray × ByteArray × ByteArray) :=
 andThen (only l (fun t=>decide (i ∈ (eY l aG t).sends))) fun w=>andThen (only l (fun t=>decide (i ∈ (eY l aG t).recvs))) fun r=>.ok ((bJ l i).name,w,r)
def gZ (l:List Df)(aG:List Tk):List Nat→Except (Int × Nat) (List (ByteArray × ByteArray × ByteArray))
 | []=>.ok []
 | i :: is=>if (bJ l i).kind=1 then
   match owner l aG i with
   | .error e=>.error (e,i)
   | .ok o=>match gZ l aG is with
    | .error e=>.error e
    | .ok os=>.ok (o :: os)
  else gZ l aG is
def qj (l:List Df):Except (Int × Nat) (List (ByteArray × ByteArray × ByteArray)) :=
 if (dx l).1≠0 then .error (dx l)
 else match prog l with
  | some e=>.error e
  | none=>match each (head l) l 0 with
   | .error e=>.error e
   | .ok _=>match each (aV l) l 0 with
    | .error e=>.error e
    | .ok aG=>gZ l aG (List.range l.length)
end Sm
end Go.Proofs.YtolfleeidpeomaaGreatDoor
namespace Go.Proofs.YtolfleeidpeomaaGreatDoor
open Go.RowKit
namespace Ms
abbrev Row:=List (ByteArray × Value)
def at':Row→ByteArray→Nat→Option (Nat × Value)
 | [],_,_=>none
 | p :: l,k,i=>if k=p.1 then some (i,p.2) else at' l k (i+1)
def val (l:Row)(k:ByteArray):Option Value:=(at' l k 0).map (·.2)
def Is (es:List MapEntry)(l:Row):Prop:=es.map (fun e=>(e.key,e.val))=l.map (fun p=>(Value.string p.1,p.2))
def In (w:World)(M:Nat)(l:Row):Prop:=∃ es cl,w.heap[M]?=some (.map es cl)∧Is es.toList l
theorem A9 {k:ByteArray}:∀ {es:List MapEntry} {l:Row} {i:Nat},Is es l→Instr.findNow .string (.string k) es i=some (at' l k i)
 | [],[],i,_=>rfl
 | [],_ :: _,i,h=>by simp [Is] at h
 | _ :: _,[],i,h=>by simp [Is] at h
 | e :: es,p :: l,i,h=>by
  simp only [Is,List.map_cons,List.cons.injEq,Prod.mk.injEq] at h
  obtain ⟨⟨h1,h2⟩,h3⟩:=h
  rw [Instr.findNow,h1,at']
  by_cases hk:k=p.1
  ·have:(k==p.1)=true:=(MapKept.bytes_beq _ _).2 hk
   simp only [Instr.sameNow,this,if_pos hk,h2]
  ·have:(k==p.1)=false:=by
    cases hb:(k==p.1) with
    | false=>rfl
    | true=>exact absurd ((MapKept.bytes_beq _ _).1 hb) hk
   simp only [Instr.sameNow,this,if_neg hk]
   exact A9 (es:=es) (l:=l) h3
theorem Jd (k:ByteArray):∀ (l:Row) (i:Nat),at' l k i=(at' l k 0).map (fun p=>(p.1+i,p.2))
 | [],i=>rfl
 | p :: l,i=>by
  simp only [at']
  by_cases hk:k=p.1
  ·simp [hk]
  ·rw [if_neg hk,if_neg hk,Jd k l (i+1),Jd k l 1]
   cases at' l k 0 with
   | none=>rfl
   | some x=>simp only [Option.map_some];rw [Nat.add_assoc,Nat.add_comm 1 i]
theorem Qp (k:ByteArray):val [] k=none:=rfl
theorem yJ (p:ByteArray × Value)(l:Row)(k:ByteArray):val (p :: l) k=if k=p.1 then some p.2 else val l k:=by
 simp only [val,at']
 by_cases hk:k=p.1
 ·simp [hk]
 ·rw [if_neg hk,if_neg hk,Jd]
  cases at' l k 0 <;> rfl
theorem val_append (k:ByteArray)(m:Row):∀ l:Row,val (l++m) k=(val l k).or (val m k)
 | []=>by simp [Qp]
 | p :: l=>by
  rw [List.cons_append,yJ,yJ,val_append k m l]
  by_cases hk:k=p.1 <;> simp [hk]
theorem Je {k:ByteArray}:∀ {l:Row},val l k=none ↔ ∀ p ∈ l,p.1≠k
 | []=>by simp [Qp]
 | p :: l=>by
  rw [yJ]
  by_cases hk:k=p.1
  ·subst hk;simp
  ·rw [if_neg hk,Je]
   exact ⟨fun h x hx=>by
    rcases List.mem_cons.1 hx with rfl | h1
    ·exact Ne.symm hk
    ·exact h x h1,fun h x hx=>h x (List.mem_cons_of_mem _ hx)⟩
theorem aaP {l:Row}{k:ByteArray}:at' l k 0=none ↔ val l k=none:=by
 unfold val
 cases at' l k 0 <;> simp
theorem Jf {k:ByteArray}{v:Value}:∀ {l:Row} {i j:Nat},at' l k i=some (j,v)→∃ q,j=i+q∧l[q]?=some (k,v)
 | [],i,j,h=>by cases h
 | p :: l,i,j,h=>by
  rw [at'] at h
  by_cases hk:k=p.1
  ·rw [if_pos hk] at h
   simp only [Option.some.injEq,Prod.mk.injEq] at h
   exact ⟨0,by omega,by simp [← h.2,hk]⟩
  ·rw [if_neg hk] at h
   obtain ⟨q,h1,h2⟩:=Jf h
   exact ⟨q+1,by omega,by simpa using h2⟩
theorem Qq {k:ByteArray}:∀ {l m:Row} {v:Value} {i:Nat},(∀ p ∈ l,p.1≠k)→at' (l++(k,v) :: m) k i=some (i+l.length,v)
 | [],m,v,i,_=>by simp [at']
 | p :: l,m,v,i,h=>by
  rw [List.cons_append,at',if_neg (Ne.symm (h p List.mem_cons_self)),Qq (fun x hx=>h x (List.mem_cons_of_mem _ hx))]
  simp;omega
theorem In.new (w:World):In (w.alloc (.map #[] 0)) w.heap.size []:=⟨#[],0,heap_alloc_new w _,rfl⟩
theorem In.keep {w w':World}{M:Nat}{l:Row}(h:In w M l)(hM:w'.heap[M]?=w.heap[M]?):In w' M l:=by
 obtain ⟨es,cl,h1,h2⟩:=h
 exact ⟨es,cl,hM.trans h1,h2⟩
theorem In.lt {w:World}{M:Nat}{l:Row}(h:In w M l):M<w.heap.size:=by
 obtain ⟨es,cl,h1,_⟩:=h
 exact (Array.getElem?_eq_some_iff.1 h1).1
theorem In.grow {w w':World}{M:Nat}{l:Row}(h:In w M l)(hg:w.grownBy w' none):In w' M l:=h.keep (hg.block _ h.lt (by simp))
variable {P:Program} {mt kt et:TypeId} (hm:P.underlying mt=some (.map kt et)) (hs:P.underlying kt=some .string)
include hm hs
theorem wS {w:World}{M:Nat}{l:Row}{k:ByteArray}{z:Value}(h:In w M l)(hz:(zeroValue et).run P w=.ok z w) :
  (Instr.lookup mt (.map (some M)) (.string k) false).run P w=.ok ((val l k).getD z) w ∧
  (Instr.lookup mt (.map (some M)) (.string k) true).run P w=.ok (.tuple #[(val l k).getD z,.bool (val l k).isSome]) w:=by
 obtain ⟨es,cl,h1,h2⟩:=h
 have hf:=A9 (k:=k) (i:=0) h2
 have hg:(getObj M).run P w=.ok (.map es cl) w:=MapKept.run_getObj_map h1
 have hu:=run_underlying (w:=w) hm
 have hkk:=MapKept.run_findKey (w:=w) hs hf
 have hck:∀ b,(Instr.checkKey b 10000 kt (.string k)).run P w=.ok () w:=fun b=>MapKept.run_checkKey (n:=9999) hs (by simp [MapKept.IsKey]) b
 unfold val
 cases ha:at' l k 0 with
 | none =>
  rw [ha] at hkk
  exact ⟨by simp [Instr.lookup,hu,hg,hck,hkk,hz],by simp [Instr.lookup,hu,hg,hck,hkk,hz]⟩
 | some x =>
  rw [ha] at hkk
  exact ⟨by simp [Instr.lookup,hu,hg,hck,hkk],by simp [Instr.lookup,hu,hg,hck,hkk]⟩
theorem Jg {w:World}{M:Nat}{l:Row}{k:ByteArray}{v:Value}(h:In w M l)(hk:val l k=none) :
  ∃ w',(Instr.mapUpdate mt (.map (some M)) (.string k) v).run P w=.ok () w'∧In w' M (l++[(k,v)])∧w.grownBy w' (some M):=by
 obtain ⟨es,cl,h1,h2⟩:=h
 have hf:=A9 (k:=k) (i:=0) h2
 rw [aaP.2 hk] at hf
 have hg:(getObj M).run P w=.ok (.map es cl) w:=MapKept.run_getObj_map h1
 have hu:=run_underlying (w:=w) hm
 have hkk:=MapKept.run_findKey (w:=w) hs hf
 have hck:∀ b,(Instr.checkKey b 10000 kt (.string k)).run P w=.ok () w:=fun b=>MapKept.run_checkKey (n:=9999) hs (by simp [MapKept.IsKey]) b
 have hset:=MapKept.run_setObj_map (P:=P) (.map (es.push { key:=.string k,val:=v,born:=cl }) (cl+1)) h1
 obtain ⟨m1,m2⟩:=MapKept.heap_set (o':=.map (es.push { key:=.string k,val:=v,born:=cl }) (cl+1)) h1
 refine ⟨{ w with heap:=w.heap.setIfInBounds M (.map (es.push { key:=.string k,val:=v,born:=cl }) (cl+1)) },by simp [Instr.mapUpdate,hu,hg,hck,hkk,hset],⟨_,_,m1,?_⟩,⟨rfl,rfl,rfl,by simp,fun b _ hne=>m2 b (fun e=>hne (by rw [e]))⟩⟩
 unfold Is at h2 ⊢
 simp [h2]
theorem run_set {w:World}{M:Nat}{l:Row}{k:ByteArray}{i:Nat}{v v0:Value}(h:In w M l)(hk:at' l k 0=some (i,v0)) :
  ∃ w',(Instr.mapUpdate mt (.map (some M)) (.string k) v).run P w=.ok () w'∧In w' M (l.set i (k,v))∧w.grownBy w' (some M):=by
 obtain ⟨es,cl,h1,h2⟩:=h
 have hf:=A9 (k:=k) (i:=0) h2
 rw [hk] at hf
 have hg:(getObj M).run P w=.ok (.map es cl) w:=MapKept.run_getObj_map h1
 have hu:=run_underlying (w:=w) hm
 have hkk:=MapKept.run_findKey (w:=w) hs hf
 have hck:∀ b,(Instr.checkKey b 10000 kt (.string k)).run P w=.ok () w:=fun b=>MapKept.run_checkKey (n:=9999) hs (by simp [MapKept.IsKey]) b
 obtain ⟨q,hq,hl⟩:=Jf hk
 obtain rfl:i=q:=by omega
 have hle:es.toList.length=l.length:=by simpa using congrArg List.length h2
 obtain ⟨e0,he0,hek⟩:∃ e0,es[i]?=some e0∧e0.key=.string k:=by
  have:=congrArg (fun x=>x[i]?) h2
  simp only [List.getElem?_map,hl,Option.map_some] at this
  cases he:es.toList[i]? with
  | none=>rw [he] at this;cases this
  | some e =>
   rw [he] at this
   simp only [Option.map_some,Option.some.injEq,Prod.mk.injEq] at this
   exact ⟨e,by simpa using he,this.1⟩
 have hst:=MapKept.run_keyThatStays (P:=P) (w:=w) (d:=.string) (k:=.string k) (by simp [MapKept.IsKey])
 have hset:=MapKept.run_setObj_map (P:=P) (.map (es.modify i fun e=>{ e with key:=.string k,val:=v }) cl) h1
 obtain ⟨m1,m2⟩:=MapKept.heap_set (o':=.map (es.modify i fun e=>{ e with key:=.string k,val:=v }) cl) h1
 refine ⟨{ w with heap:=w.heap.setIfInBounds M (.map (es.modify i fun e=>{ e with key:=.string k,val:=v }) cl) },by simp [Instr.mapUpdate,hu,hg,hck,hkk,he0,hek,hst,hset],⟨_,_,m1,?_⟩,⟨rfl,rfl,rfl,by simp,fun b _ hne=>m2 b (fun e=>hne (by rw [e]))⟩⟩
 unfold Is at h2 ⊢
 apply List.ext_getElem?
 intro j
 have hj:=congrArg (fun x=>x[j]?) h2
 simp only [List.getElem?_map] at hj ⊢
 rw [Array.toList_modify,List.getElem?_modify,List.getElem?_set]
 by_cases hij:i=j
 ·subst hij
  have hlt:i<l.length:=(List.getElem?_eq_some_iff.1 hl).1
  have:es.toList[i]?=some e0:=by simpa using he0
  simp [this,hlt]
 ·simpa [hij] using hj
theorem aaR {w:World}{M:Nat}{l:Row}{k:ByteArray}{i:Nat}{v0:Value}{ty:TypeId}{ts:Array TypeId}(h:In w M l)(ht:ts[0]?=some mt)(hk:at' l k 0=some (i,v0)) :
  ∃ w',(Builtin.delete_ ts ty #[.map (some M),.string k]).run P w=.ok (.tuple #[]) w'∧In w' M (l.eraseIdx i)∧w.grownBy w' (some M):=by
 obtain ⟨es,cl,h1,h2⟩:=h
 have hf:=A9 (k:=k) (i:=0) h2
 rw [hk] at hf
 have hg:(getObj M).run P w=.ok (.map es cl) w:=MapKept.run_getObj_map h1
 have hu:=run_underlying (w:=w) hm
 have hkk:=MapKept.run_findKey (w:=w) hs hf
 have hck:∀ b,(Instr.checkKey b 10000 kt (.string k)).run P w=.ok () w:=fun b=>MapKept.run_checkKey (n:=9999) hs (by simp [MapKept.IsKey]) b
 have hset:=MapKept.run_setObj_map (P:=P) (.map (es.eraseIdxIfInBounds i) cl) h1
 obtain ⟨m1,m2⟩:=MapKept.heap_set (o':=.map (es.eraseIdxIfInBounds i) cl) h1
 refine ⟨{ w with heap:=w.heap.setIfInBounds M (.map (es.eraseIdxIfInBounds i) cl) },by simp [Builtin.delete_,ht,hu,hg,hck,hkk,hset],⟨_,_,m1,?_⟩,⟨rfl,rfl,rfl,by simp,fun b _ hne=>m2 b (fun e=>hne (by rw [e]))⟩⟩
 unfold Is at h2 ⊢
 have:(es.eraseIdxIfInBounds i).toList=es.toList.eraseIdx i:=by simp
 have me:∀ {α β:Type} (f:α→β) (x:List α),(x.eraseIdx i).map f=(x.map f).eraseIdx i:=fun f x=>by simp [List.eraseIdx_eq_take_drop_succ,List.map_take,List.map_drop]
 rw [this,me,h2,← me]
end Ms
namespace Sm
abbrev wT (n:Nat) (a:Option Addr) (c M:Nat) (i:Int):Value:=.agg #[.slice a n c,.map (some M),.int .i64 i]
def Fe (num:Int)(r:Except Int Value)(w:World)(e:Ending)(w':World):Prop :=
 w.grownBy w' none∧e=match r with | .ok v=>.returned v | .error er=>.panicked [aH er num]
theorem bn {w:World}(o:Obj):w.grownBy (w.alloc o) none:=⟨rfl,rfl,rfl,by simp,fun k hk _=>Below.heap_alloc _ _ _ (by omega)⟩
theorem Qr (a b:ByteArray):(a.toList==b.toList)=decide (a=b):=by
 rw [Bool.eq_iff_iff]
 simp only [beq_iff_eq,decide_eq_true_eq]
 exact ⟨fun h=>by
  rw [Lib.toList_data,Lib.toList_data] at h
  cases a;cases b;simp at h;rw [h],fun h=>by rw [h]⟩
theorem bu {w:World}(o o':Obj):w.grownBy ((w.alloc o).alloc o') none:=aB (bn o) (bn o')
theorem Qs (a b:Sy.Ty)(w:World)(r:Bool)(hr:Hid (r=Sm.same a b)) :
  Calls Tryz.prog 149 #[aQ a,aQ b] w fun e w'=>e=.returned (.bool r)∧w.grownBy w' none:=by
 obtain ⟨ak,ag⟩:=a
 obtain ⟨bk,bg⟩:=b
 by_cases h1:ak=bk
 ·by_cases h2:ak=3
  ·have HR:Hid ((ag.toList==bg.toList)=r):=by unfold Hid;rw [hr.out,Qr];simp [Sm.same,← h1,h2]
   clear hr
   go_enter Tryz.func149,Tryz.ntmps149
   go_wp2
   go_ret
   exact ⟨lI HR.out,bu _ _⟩
  ·have HR:Hid (true=r):=by unfold Hid;rw [hr.out];simp [Sm.same,← h1,h2]
   clear hr
   go_enter Tryz.func149,Tryz.ntmps149
   go_wp2
   go_ret
   exact ⟨lI HR.out,bu _ _⟩
 ·have HR:Hid (false=r):=by unfold Hid;rw [hr.out];simp [Sm.same,h1]
  clear hr
  go_enter Tryz.func149,Tryz.ntmps149
  go_wp2
  go_ret
  exact ⟨lI HR.out,bu _ _⟩
theorem jy (n:Nat)(a:Option Addr)(c M:Nat)(i er:Int)(w:World) :
  Calls Tryz.prog 76 #[wT n a c M i,.int .i64 er] w fun e w'=>e=.panicked [aH er i]∧w.grownBy w' none:=by
 go_enter Tryz.func76,Tryz.ntmps76
 go_wp2_with fail
 refine (zo i er _).mono ?_
 rintro e w1 ⟨rfl,_,rfl⟩
 go_wp2
 exact ⟨rfl,rfl,bn _⟩
theorem yK (n:Nat)(a:Option Addr)(c M:Nat)(i:Int)(t:Sy.Ty)(w:World)(r:Except Int Value)(hr:Hid (r=match Sm.plain t with | .ok _=>.ok (.tuple #[]) | .error e=>.error e)) :
  Calls Tryz.prog 73 #[wT n a c M i,aQ t] w fun e w'=>Fe i r w e w':=by
 obtain ⟨tk,tg⟩:=t
 by_cases h:tk=3
 ·have HR:Hid (r=.error 9):=by unfold Hid;rw [hr.out];simp [Sm.plain,h]
  clear hr
  go_enter Tryz.func73,Tryz.ntmps73
  go_wp2_with fail
  refine (jy n a c M i 9 _).mono ?_
  rintro e w1 ⟨rfl,hg⟩
  have HE:Hid (Fe i r w (.panicked [aH 9 i]) w1):=by
   refine ⟨aB (bu _ _) hg,?_⟩
   rw [HR.out]
  clear hg
  go_wp2
  exact ⟨rfl,HE.out⟩
 ·have HR:Hid (r=.ok (.tuple #[])):=by unfold Hid;rw [hr.out];simp [Sm.plain,h]
  clear hr
  go_enter Tryz.func73,Tryz.ntmps73
  go_wp2
  go_end0
  exact ⟨bu _ _,by rw [HR.out]⟩
theorem D8 {l:List Sy.Df}{name:ByteArray}{i:Nat}(h:numOf l name=some i):i<l.length:=by
 have:=List.mem_of_find?_eq_some h
 simpa using this
theorem tY (B:Nat)(l:List Sy.Df)(a:Option Addr)(c M:Nat)(num kind:Int)(name:ByteArray)(R:Ms.Row)(w:World)(r:Except Int Value)(hD:Hid (dS B w l a))(hB:B≤w.heap.size)(hM:Hid (Ms.In w M R))(hR:Hid (∀ s,Ms.val R s=(numOf l s).map (fun i=>.int .i64 (i:Int))))
  (hr:Hid (r=match Sm.want l kind name with | .ok i=>.ok (.int .i64 (i:Int)) | .error e=>.error e)) :
  Calls Tryz.prog 107 #[wT l.length a c M num,.int .i64 kind,.string name] w fun e w'=>Fe num r w e w':=by
 have hz:∀ w',(zeroValue 3).run Tryz.prog w'=.ok (.int .i64 0) w':=fun w'=>by kernel_rfl
 have hL:=(Ms.wS Tryz.underlying64 Tryz.underlying9 (k:=name) (hM.out.grow (bn (.cells #[.slice a l.length c,.map (some M),.int .i64 num] 97))) (hz _)).2
 rw [hR.out name] at hL
 cases hn:numOf l name with
 | none =>
  have HR:Hid (r=.error 7):=by unfold Hid;rw [hr.out];simp [Sm.want,hn]
  rw [hn] at hL
  clear hr hn hz
  go_enter Tryz.func107,Tryz.ntmps107
  go_wp2_with fail
  refine (jy l.length a c M num 7 _).mono ?_
  rintro e w1 ⟨rfl,hg⟩
  have HE:Hid (Fe num r w (.panicked [aH 7 num]) w1):=by
   refine ⟨aB (bn _) hg,?_⟩
   rw [HR.out]
  clear hg
  go_wp2
  exact ⟨rfl,HE.out⟩
 | some i =>
  have hi:=D8 hn
  rw [hn] at hL
  obtain ⟨b,off,pa,pc,ba,bc,rfl,hb,k0,_⟩:=hD.out.2 i l[i] (List.getElem?_eq_getElem hi)
  have jk:l.length≤maxLen:=hD.out.1
  have Qt:(w.alloc (.cells #[.slice (some ⟨b,off,none⟩) l.length c,.map (some M),.int .i64 num] 97)).cell? ⟨b,off+i * 9,none⟩=some (.int .i64 l[i].kind):=by
   rw [← k0]
   exact World.cell?_of_block (Below.heap_alloc _ _ _ (by dsimp;omega))
  obtain ⟨dk,hdk⟩:∃ dk,dk=l[i].kind:=⟨_,rfl⟩
  rw [← hdk] at Qt
  have ik:(bJ l i).kind=dk:=by rw [hdk];simp [bJ,List.getElem?_eq_getElem hi]
  obtain ⟨L,hLn⟩:∃ L,L=l.length:=⟨_,rfl⟩
  rw [← hLn] at hi jk hL Qt ⊢
  by_cases hk:dk=kind
  ·have HR:Hid (r=.ok (.int .i64 (i:Int))):=by unfold Hid;rw [hr.out];simp [Sm.want,hn,ik,hk]
   clear hr hn hz ik hdk k0 hLn
   simp only [Option.map_some,Option.getD_some,Option.isSome_some] at hL
   go_enter Tryz.func107,Tryz.ntmps107
   go_wp2
   go_ret
   exact ⟨bn _,by rw [HR.out];rfl⟩
  ·have HR:Hid (r=.error 7):=by unfold Hid;rw [hr.out];simp [Sm.want,hn,ik,hk]
   clear hr hn hz ik hdk k0 hLn
   simp only [Option.map_some,Option.getD_some,Option.isSome_some] at hL
   go_enter Tryz.func107,Tryz.ntmps107
   go_wp2_with fail
   refine (jy L _ c M num 7 _).mono ?_
   rintro e w1 ⟨rfl,hg⟩
   have HE:Hid (Fe num r w (.panicked [aH 7 num]) w1):=by
    refine ⟨aB (bn _) hg,?_⟩
    rw [HR.out]
   clear hg
   go_wp2
   exact ⟨rfl,HE.out⟩
abbrev nZ (n:Nat) (a:Option Addr) (c M:Nat) (num:Int) (T:Nat) (ord sn rc cl:Value):Obj :=
 .cells #[.slice a n c,.map (some M),.int .i64 num,.map (some T),ord,sn,rc,cl] 110 (0,0)
theorem fE {w:World}{F n:Nat}{a:Option Addr}{c M:Nat}{num:Int}{T:Nat}{ord sn rc cl:Value}(h:w.heap[F]?=some (nZ n a c M num T ord sn rc cl)) :
  w.cell? ⟨F,0,none⟩=some (.slice a n c)∧w.cell? ⟨F,1,none⟩=some (.map (some M))∧w.cell? ⟨F,2,none⟩=some (.int .i64 num)∧w.cell? ⟨F,3,none⟩=some (.map (some T))∧w.cell? ⟨F,4,none⟩=some ord∧w.cell? ⟨F,5,none⟩=some sn∧w.cell? ⟨F,6,none⟩=some rc∧w.cell? ⟨F,7,none⟩=some cl:=by
 simp [World.cell?,h]
theorem ql {w:World}{F n:Nat}{a:Option Addr}{c M:Nat}{num:Int}{T:Nat}{ord sn rc cl:Value}(h:w.heap[F]?=some (nZ n a c M num T ord sn rc cl)) :
  w.frozen? ⟨F,4,none⟩=false∧w.frozen? ⟨F,5,none⟩=false∧w.frozen? ⟨F,6,none⟩=false∧w.frozen? ⟨F,7,none⟩=false:=by
 simp [World.frozen?,h]
theorem Jh (F n:Nat)(a:Option Addr)(c M:Nat)(num:Int)(T:Nat)(ord sn rc cl:Value)(b:Bool)(w:World)(r:Except Int Value)(h:Hid (w.heap[F]?=some (nZ n a c M num T ord sn rc cl)))(hr:Hid (r=match Sm.fits b with | .ok _=>.ok (.tuple #[]) | .error e=>.error e)) :
  Calls Tryz.prog 136 #[.pointer (some ⟨F,0,none⟩),.bool b] w fun e w'=>Fe num r w e w':=by
 obtain ⟨c0,c1,c2,_⟩:=fE h.out
 cases b with
 | false =>
  have HR:Hid (r=.error 8):=by unfold Hid;rw [hr.out];rfl
  clear hr
  go_enter Tryz.func136,Tryz.ntmps136
  go_wp2_with fail
  refine (jy n a c M num 8 _).mono ?_
  rintro e w1 ⟨rfl,hg⟩
  have HE:Hid (Fe num r w (.panicked [aH 8 num]) w1):=by
   refine ⟨hg,?_⟩
   rw [HR.out]
  clear hg
  go_wp2
  exact ⟨rfl,HE.out⟩
 | true =>
  have HR:Hid (r=.ok (.tuple #[])):=by unfold Hid;rw [hr.out];rfl
  clear hr
  go_enter Tryz.func136,Tryz.ntmps136
  go_wp2
  go_end0
  exact ⟨mJ _ _,by rw [HR.out]⟩
def Af (B:Nat)(w:World)(d:Sy.Df)(v:Value):Prop:=∃ pa pc ba bc,v=o9 d pa pc ba bc∧jL B w d pa ba
theorem nN (B:Nat)(l:List Sy.Df)(a:Option Addr)(c M i:Nat)(d:Sy.Df)(w:World)(hD:Hid (dS B w l a))(hB:B≤w.heap.size)(hd:Hid (l[i]?=some d)) :
  Calls Tryz.prog 72 #[wT l.length a c M (i:Int)] w fun e w'=>w.grownBy w' none∧∃ v,e=.returned v∧Af B w d v:=by
 have hi:i<l.length:=(List.getElem?_eq_some_iff.1 hd.out).1
 obtain ⟨b,off,pa,pc,ba,bc,rfl,hb,k0,k1,k2,k3,k4,k5,k6,k7,k8,hdf⟩:=hD.out.2 i d hd.out
 have HD:Hid (jL B w d pa ba):=hdf
 have jk:l.length≤maxLen:=hD.out.1
 obtain ⟨L,hLn⟩:∃ L,L=l.length:=⟨_,rfl⟩
 rw [← hLn] at hi jk ⊢
 obtain ⟨W,hW⟩:∃ W,W=(w.alloc (.cells #[.slice (some ⟨b,off,none⟩) L c,.map (some M),.int .i64 (i:Int)] 97)).alloc (.cells #[.int .i64 0,.string ⟨#[]⟩,.int .i64 0,.string ⟨#[]⟩,.int .i64 0,.string ⟨#[]⟩,.int .i64 0,.slice none 0 0,.slice none 0 0] 50):=⟨_,rfl⟩
 have hc:∀ o,W.cell? ⟨b,o,none⟩=w.cell? ⟨b,o,none⟩:=fun o=>by
  rw [hW]
  exact World.cell?_of_block ((Below.heap_alloc _ _ _ (by simp;omega)).trans (Below.heap_alloc _ _ _ (by dsimp;omega)))
 rw [← hc] at k0 k1 k2 k3 k4 k5 k6 k7 k8
 subst hW
 clear hc hdf hLn hD hd
 go_enter Tryz.func72,Tryz.ntmps72
 go_wp2
 refine bodyPost_ret (v:=o9 d pa pc ba bc) (by simp [results,Tryz.results72,go_sem]) rfl ?_
 exact ⟨bu _ _,_,rfl,pa,pc,ba,bc,rfl,HD.out⟩
end Sm
namespace Sm
structure BK where
 l:List Sy.Df
 a:Option Addr
 c:Nat
 M:Nat
 num:Int
 T:Nat
 F:Nat
 B:Nat
 R:Ms.Row
abbrev BK.obj (K:BK) (ord sn rc cl:Value):Obj:=nZ K.l.length K.a K.c K.M K.num K.T ord sn rc cl
abbrev strs (v:Vars):List Value:=v.map (fun p=>.string p.1)
abbrev bF (l:List Nat):List Value:=l.map (fun (n:Nat)=>Value.int .i64 (n:Int))
abbrev kE (v:Vars):Ms.Row:=v.map (fun p=>(p.1,aQ p.2))
structure lY (K:BK) (w:World) (v:Vars) (t:Tk) (ord sn rc cl:Value):Prop where
 blk:w.heap[K.F]?=some (K.obj ord sn rc cl)
 jJ:w.ownsRow K.B 9 1 ord v.length (strs v)
 lZ:w.ownsRow K.B 3 1 sn t.sends.length (bF t.sends)
 lD:w.ownsRow K.B 3 1 rc t.recvs.length (bF t.recvs)
 kS:w.ownsRow K.B 3 1 cl t.calls.length (bF t.calls)
 far:∀ k,(sn.ownBlock=some k→rc.ownBlock≠some k∧cl.ownBlock≠some k)∧(rc.ownBlock=some k→cl.ownBlock≠some k)
def Gl (B:Nat)(w:World):Prop:=(4<B∧1<B)∧w.cell? ⟨4,0,none⟩=some (.int .i64 1)∧w.cell? ⟨4,1,none⟩=some (.string ⟨#[]⟩)∧w.cell? ⟨1,0,none⟩=some (.int .i64 2)∧w.cell? ⟨1,1,none⟩=some (.string ⟨#[]⟩)
def DG (K:BK)(w:World):Prop:=dS K.B w K.l K.a∧Gl K.B w
theorem DG.same {K:BK}{w w':World}(h:DG K w)(hs:Same K.B w w'):DG K w':=by
 obtain ⟨h1,⟨h2,h3⟩,h4,h5,h6,h7⟩:=h
 exact ⟨h1.same hs,⟨h2,h3⟩,(hs _ _ h2).trans h4,(hs _ _ h2).trans h5,(hs _ _ h3).trans h6,(hs _ _ h3).trans h7⟩
structure BW (K:BK) (w:World) (v:Vars) (t:Tk):Prop where
 ja:DG K w
 base:K.B≤K.M∧K.B≤K.T∧K.B≤K.F∧K.M≠K.T
 mp:Ms.In w K.M K.R
 nums:∀ s,Ms.val K.R s=(numOf K.l s).map (fun i=>.int .i64 (i:Int))
 rows:∃ ord sn rc cl,lY K w v t ord sn rc cl
 vars:Ms.In w K.T (kE v)
 once:(v.map (·.1)).Nodup
theorem BW.fH {K:BK}{w:World}{v:Vars}{t:Tk}(h:BW K w v t):dS K.B w K.l K.a:=h.ja.1
def bA (K:BK)(w:World)(k:Nat):Prop:=k≠K.F∧k≠K.T∧∀ ord sn rc cl,w.heap[K.F]?=some (K.obj ord sn rc cl)→ord.ownBlock≠some k∧sn.ownBlock≠some k∧rc.ownBlock≠some k∧cl.ownBlock≠some k
structure af (K:BK) (w w':World):Prop where
 os:w'.os=w.os
 tape:w'.tape=w.tape
 output:w'.output=w.output
 size:w.heap.size≤w'.heap.size
 block:∀ k,k<w.heap.size→bA K w k→w'.heap[k]?=w.heap[k]?∧bA K w' k
theorem af.refl (K:BK)(w:World):af K w w:=⟨rfl,rfl,rfl,Nat.le_refl _,fun _ _ h=>⟨rfl,h⟩⟩
theorem af.trans {K:BK}{a b c:World}(h:af K a b)(h2:af K b c):af K a c :=
 ⟨h2.os.trans h.os,h2.tape.trans h.tape,h2.output.trans h.output,Nat.le_trans h.size h2.size,fun k hk hf=>by
  obtain ⟨h3,h4⟩:=h.block k hk hf
  obtain ⟨h5,h6⟩:=h2.block k (by have:=h.size;omega) h4
  exact ⟨h5.trans h3,h6⟩⟩
theorem af.grown {K:BK}{w w':World}(hg:w.grownBy w' none)(hF:K.F<w.heap.size):af K w w' :=
 ⟨hg.os,hg.tape,hg.output,hg.size,fun k hk hf=>⟨hg.block k hk (by simp),hf.1,hf.2.1,fun o s r c h=>hf.2.2 o s r c ((hg.block _ hF (by simp)).symm.trans h)⟩⟩
theorem bq {w:World}{B e size n:Nat}{v:Value}{xs:List Value}(h:w.ownsRow B e size v n xs):∀ k,v.ownBlock=some k→B≤k∧k<w.heap.size∧∃ cur,w.heap[k]?=some (.cells cur e (0,0)):=by
 rcases h.2 with ⟨rfl,_⟩ | ⟨g',cap,cur,rfl,hB,hh,_⟩
 ·intro k hk;simp [Value.ownBlock] at hk
 ·intro k e1
  simp only [Value.ownBlock,Option.some.injEq] at e1
  subst e1
  exact ⟨hB,lt_of_block hh,cur,hh⟩
theorem fF {w w':World}{B e size n:Nat}{v:Value}{xs:List Value}(h:w.ownsRow B e size v n xs)(hk:∀ k,v.ownBlock=some k→w'.heap[k]?=w.heap[k]?):w'.ownsRow B e size v n xs:=by
 refine ⟨h.1,?_⟩
 rcases h.2 with h2 | ⟨g',cap,cur,rfl,hB,hh,hr⟩
 ·exact .inl h2
 ·exact .inr ⟨g',cap,cur,rfl,hB,(hk g' rfl).trans hh,hr⟩
theorem il {w:World}{B e size n:Nat}{v:Value}{xs:List Value}(h:w.ownsRow B e size v n xs):∃ a c,v=.slice a n c:=by
 rcases h.2 with ⟨rfl,h0⟩ | ⟨g,cp,cur,rfl,_⟩
 ·exact ⟨_,_,by rw [h0]⟩
 ·exact ⟨_,_,rfl⟩
theorem lY.lt {K:BK}{w:World}{v:Vars}{t:Tk}{ord sn rc cl:Value}(h:lY K w v t ord sn rc cl):K.F<w.heap.size:=lt_of_block h.blk
theorem lY.keep {K:BK}{w w':World}{v:Vars}{t:Tk}{ord sn rc cl:Value}(h:lY K w v t ord sn rc cl)(hk:∀ (k:Nat) (cs:Array Value) (e:TypeId),w.heap[k]?=some (Obj.cells cs e (0,0))→w'.heap[k]?=w.heap[k]?):lY K w' v t ord sn rc cl :=
 ⟨(hk _ _ _ h.blk).trans h.blk,fF h.jJ (fun k hb=>by obtain ⟨_,_,cur,hc⟩:=bq h.jJ k hb;exact hk _ _ _ hc),fF h.lZ (fun k hb=>by obtain ⟨_,_,cur,hc⟩:=bq h.lZ k hb;exact hk _ _ _ hc),
  fF h.lD (fun k hb=>by obtain ⟨_,_,cur,hc⟩:=bq h.lD k hb;exact hk _ _ _ hc),fF h.kS (fun k hb=>by obtain ⟨_,_,cur,hc⟩:=bq h.kS k hb;exact hk _ _ _ hc),h.far⟩
theorem BW.lt {K:BK}{w:World}{v:Vars}{t:Tk}(h:BW K w v t):K.F<w.heap.size:=by
 obtain ⟨_,_,_,_,hr⟩:=h.rows
 exact hr.lt
theorem BW.grown {K:BK}{w w':World}{v:Vars}{t:Tk}(h:BW K w v t)(hg:w.grownBy w' none):BW K w' v t:=by
 obtain ⟨o,s,r,c,hr⟩:=h.rows
 have hF:=hr.lt
 exact ⟨h.ja.same (dK hg (by simp) (by have:=h.base;omega)),h.base,h.mp.grow hg,h.nums,⟨o,s,r,c,hr.keep (fun k cs e hb=>hg.block k (lt_of_block hb) (by simp))⟩,h.vars.grow hg,h.once⟩
theorem D9 (s:ByteArray):∀ v:Vars,Ms.val (kE v) s=(Sm.look v s).map aQ
 | []=>rfl
 | p :: v=>by
  unfold kE at *
  rw [List.map_cons,Ms.yJ]
  by_cases h:s=p.1
  ·subst h;simp [Sm.look]
  ·have h':¬ p.1=s:=fun e=>h e.symm
   rw [if_neg h,D9 s v]
   simp [Sm.look,h']
theorem Ji (K:BK)(v:Vars)(t:Tk)(name:ByteArray)(w:World)(r:Except Int Value)(h:Hid (BW K w v t))(hr:Hid (r=match Sm.known v name with | .ok y=>.ok (aQ y) | .error e=>.error e)) :
  Calls Tryz.prog 135 #[.pointer (some ⟨K.F,0,none⟩),.string name] w fun e w'=>Fe K.num r w e w':=by
 obtain ⟨o,s,rr,cc,h4⟩:=h.out.rows
 have hF:=h4.lt
 obtain ⟨Qu,Qv⟩:∃ Qu:Sy.Ty,Qu=⟨0,⟨#[]⟩⟩:=⟨_,rfl⟩
 have hz:∀ w',(zeroValue 46).run Tryz.prog w'=.ok (aQ ⟨0,⟨#[]⟩⟩) w':=fun w'=>by kernel_rfl
 obtain ⟨W,hW⟩:∃ W,W=w.alloc (.cells #[.int .i64 0,.string ⟨#[]⟩] 46):=⟨_,rfl⟩
 have mF:w.grownBy W none:=by rw [hW];exact bn _
 have hL:=(Ms.wS Tryz.underlying106 Tryz.underlying9 (k:=name) (h.out.vars.grow mF) (hz W)).2
 rw [D9] at hL
 obtain ⟨c0,c1,c2,c3,_⟩:=fE ((mF.block _ hF (by simp)).trans h4.blk)
 have HF:=hF
 cases hn:Sm.look v name with
 | none =>
  have HR:Hid (r=.error 7):=by unfold Hid;rw [hr.out];simp [Sm.known,hn]
  rw [hn] at hL
  simp only [Option.map_none,Option.getD_none,Option.isSome_none] at hL
  have k:∀ o:Nat,o<3→(W.alloc (.cells #[.int .i64 0,.string ⟨#[]⟩] 46)).cell? ⟨K.F,o,none⟩=W.cell? ⟨K.F,o,none⟩:=fun o _=>World.cell?_of_block (Below.heap_alloc _ _ _ (by have:=mF.size;dsimp;omega))
  have d0:=(k 0 (by decide)).trans c0
  have d1:=(k 1 (by decide)).trans c1
  have d2:=(k 2 (by decide)).trans c2
  subst hW
  clear hr hn hz h4 k mF Qv
  go_enter Tryz.func135,Tryz.ntmps135
  go_wp2_with fail
  refine (jy K.l.length K.a K.c K.M K.num 7 _).mono ?_
  rintro e w1 ⟨rfl,hg⟩
  have HE:Hid (Fe K.num r w (.panicked [aH 7 K.num]) w1):=by
   refine ⟨aB (bu _ _) hg,?_⟩
   rw [HR.out]
  clear hg
  go_wp2
  exact ⟨rfl,HE.out⟩
 | some y =>
  have HR:Hid (r=.ok (aQ y)):=by unfold Hid;rw [hr.out];simp [Sm.known,hn]
  rw [hn] at hL
  simp only [Option.map_some,Option.getD_some,Option.isSome_some] at hL
  subst hW
  clear hr hn hz h4 mF Qv
  go_enter Tryz.func135,Tryz.ntmps135
  go_wp2
  refine bodyPost_ret (v:=aQ y) (by simp [results,Tryz.results135,go_sem]) rfl ?_
  refine ⟨?_,by rw [HR.out]⟩
  exact bu _ _
end Sm
end Go.Proofs.YtolfleeidpeomaaGreatDoor
