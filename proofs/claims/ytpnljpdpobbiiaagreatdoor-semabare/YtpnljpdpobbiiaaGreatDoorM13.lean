/- The walks of the checker's small methods. -/
import Derived.Test.YtpnljpdpobbiiaaGreatDoorM12
import Derived.Recover
import Derived.MapKept
import Derived.ArgAppend
set_option maxHeartbeats 400000
namespace Go.Proofs.YtpnljpdpobbiiaaGreatDoor
open Go.RowKit
theorem fate0_ok {num er:Int} {w w':World} (hg:w.grownBy w' none) (h:er = 0):Fate0 num er w (.returned (.tuple #[])) w':=⟨hg,by rw [if_pos h]⟩
theorem fate0_bad {num er k:Int} {w w':World} (hg:w.grownBy w' none) (h:er = k) (hk:k ≠ 0):Fate0 num er w (.panicked [fltE k num]) w':=⟨hg,by rw [h,if_neg hk]⟩
theorem fate0_not {num er:Int} {w w':World} {e:Ending} (h:Fate0 num er w e w') (h0:er = 0):e = .returned (.tuple #[]):=by rw [h.2,if_pos h0]
theorem fate0_err {num er:Int} {w w':World} {e:Ending} (h:Fate0 num er w e w') (h0:er ≠ 0):e = .panicked [fltE er num]:=by rw [h.2,if_neg h0]
theorem throw_any (num er:Int) (w:World) :
  Calls Tryz.prog 29 #[.int .i64 er,.int .i64 num] w fun e w' => e = .panicked [fltE er num] ∧ Below w.heap.size w w' ∧ w' = w:=by
 go_enter Tryz.func29,Tryz.ntmps29
 go_wp2
 exact ⟨rfl,rfl,Below.refl _ _,rfl⟩
theorem fail_any (C n:Nat) (num er:Int) (w:World) (hC:CK w C num n) :
  Calls Tryz.prog 44 #[.pointer (some ⟨C,0,none⟩),.int .i64 er] w fun e w' => e = .panicked [fltE er num] ∧ w' = w:=by
 obtain ⟨c0,c1,f0,f1⟩:=hC.cells
 clear hC
 go_enter Tryz.func44,Tryz.ntmps44
 go_wp2_with fail
 refine (throw_any num er _).mono ?_
 rintro e w1 ⟨rfl,_,rfl⟩
 go_wp2
 exact ⟨rfl,rfl,rfl⟩
theorem atMost_any (C n:Nat) (num k most er:Int) (w:World) (hC:Hid (CK w C num n)) (he:Hid (er = if most < k then 5 else 0)) :
  Calls Tryz.prog 26 #[.pointer (some ⟨C,0,none⟩),.int .i64 k,.int .i64 most] w fun e w' => Fate0 num er w e w':=by
 by_cases h:most < k
 ·have HE:Hid (er = 5):=by rw [if_pos h] at he; exact he
  go_enter Tryz.func26,Tryz.ntmps26
  go_wp2_with fail
  refine (fail_any C n num 5 _ hC.out).mono ?_
  rintro e w1 ⟨rfl,rfl⟩
  go_wp2
  exact ⟨rfl,fate0_bad (grown_refl _ _) HE.out (by decide)⟩
 ·have HE:Hid (er = 0):=by rw [if_neg h] at he; exact he
  go_enter Tryz.func26,Tryz.ntmps26
  go_wp2
  go_end0
  exact fate0_ok (grown_refl _ _) HE.out
theorem kind_any (C n:Nat) (num k most er:Int) (w:World) (hC:Hid (CK w C num n)) (he:Hid (er = if k < 1 ∨ most < k then 1 else 0)) :
  Calls Tryz.prog 71 #[.pointer (some ⟨C,0,none⟩),.int .i64 k,.int .i64 most] w fun e w' => Fate0 num er w e w':=by
 by_cases h:k < 1
 ·have HE:Hid (er = 1):=by rw [if_pos (.inl h)] at he; exact he
  go_enter Tryz.func71,Tryz.ntmps71
  go_wp2_with fail
  refine (fail_any C n num 1 _ hC.out).mono ?_
  rintro e w1 ⟨rfl,rfl⟩
  go_wp2
  exact ⟨rfl,fate0_bad (grown_refl _ _) HE.out (by decide)⟩
 ·by_cases h2:most < k
  ·have HE:Hid (er = 1):=by rw [if_pos (.inr h2)] at he; exact he
   go_enter Tryz.func71,Tryz.ntmps71
   go_wp2_with fail
   refine (fail_any C n num 1 _ hC.out).mono ?_
   rintro e w1 ⟨rfl,rfl⟩
   go_wp2
   exact ⟨rfl,fate0_bad (grown_refl _ _) HE.out (by decide)⟩
  ·have HE:Hid (er = 0):=by rw [if_neg (by omega)] at he; exact he
   go_enter Tryz.func71,Tryz.ntmps71
   go_wp2
   go_end0
   exact fate0_ok (grown_refl _ _) HE.out
theorem within_any (C n:Nat) (num k least most er:Int) (w:World) (hC:Hid (CK w C num n)) (he:Hid (er = if k < least ∨ most < k then 3 else 0)) :
  Calls Tryz.prog 49 #[.pointer (some ⟨C,0,none⟩),.int .i64 k,.int .i64 least,.int .i64 most] w fun e w' => Fate0 num er w e w':=by
 by_cases h:k < least
 ·have HE:Hid (er = 3):=by rw [if_pos (.inl h)] at he; exact he
  go_enter Tryz.func49,Tryz.ntmps49
  go_wp2_with fail
  refine (fail_any C n num 3 _ hC.out).mono ?_
  rintro e w1 ⟨rfl,rfl⟩
  go_wp2
  exact ⟨rfl,fate0_bad (grown_refl _ _) HE.out (by decide)⟩
 ·by_cases h2:most < k
  ·have HE:Hid (er = 3):=by rw [if_pos (.inr h2)] at he; exact he
   go_enter Tryz.func49,Tryz.ntmps49
   go_wp2_with fail
   refine (fail_any C n num 3 _ hC.out).mono ?_
   rintro e w1 ⟨rfl,rfl⟩
   go_wp2
   exact ⟨rfl,fate0_bad (grown_refl _ _) HE.out (by decide)⟩
  ·have HE:Hid (er = 0):=by rw [if_neg (by omega)] at he; exact he
   go_enter Tryz.func49,Tryz.ntmps49
   go_wp2
   go_end0
   exact fate0_ok (grown_refl _ _) HE.out
theorem cname_any (C n:Nat) (num er:Int) (s:ByteArray) (w:World) (hC:Hid (CK w C num n)) (hs:s.size ≤ maxLen) (he:Hid (er = if Sy.nm s = false then 7 else 0)) :
  Calls Tryz.prog 46 #[.pointer (some ⟨C,0,none⟩),.string s] w fun e w' => Fate0 num er w e w':=by
 cases h:Sy.nm s
 ·have HE:Hid (er = 7):=by rw [if_pos h] at he; exact he
  have HN:Hid (Lx.named s.toList = false):=h
  clear h
  go_enter Tryz.func46,Tryz.ntmps46
  go_wp2_with fail
  refine (named_any s _ hs).mono ?_
  rintro e w1 ⟨rfl,rfl⟩
  rw [HN.out]
  go_wp2_with fail
  refine (fail_any C n num 7 _ hC.out).mono ?_
  rintro e w1 ⟨rfl,rfl⟩
  go_wp2
  exact ⟨rfl,fate0_bad (grown_refl _ _) HE.out (by decide)⟩
 ·have HE:Hid (er = 0):=by rw [if_neg (by rw [h]; decide)] at he; exact he
  have HN:Hid (Lx.named s.toList = true):=h
  clear h
  go_enter Tryz.func46,Tryz.ntmps46
  go_wp2_with fail
  refine (named_any s _ hs).mono ?_
  rintro e w1 ⟨rfl,rfl⟩
  rw [HN.out]
  go_wp2
  go_end0
  exact fate0_ok (grown_refl _ _) HE.out
end Go.Proofs.YtpnljpdpobbiiaaGreatDoor
namespace Go.Proofs.YtpnljpdpobbiiaaGreatDoor
namespace Sm
open Sy
def num:Ty:=⟨1,⟨#[]⟩⟩
def tru:Ty:=⟨2,⟨#[]⟩⟩
def same (a b:Ty):Bool:=decide (a.kind = b.kind) && (decide (a.kind ≠ 3) || decide (a.gen = b.gen))
structure Tk where
 sends:List Nat
 recvs:List Nat
 calls:List Nat
def Tk.none:Tk:=⟨[],[],[]⟩
def andThen {α β:Type} (r:Except Int α) (f:α → Except Int β):Except Int β:=match r with | .error e => .error e | .ok x => f x
theorem andThen_ok {α β:Type} (x:α) (f:α → Except Int β):andThen (.ok x) f = f x:=rfl
def numOf (l:List Df) (name:ByteArray):Option Nat:=(List.range l.length).reverse.find? (fun i => decide ((l[i]?).map (·.name) = some name))
def defAt (l:List Df) (i:Nat):Df:=(l[i]?).getD ⟨0,⟨#[]⟩,⟨0,⟨#[]⟩⟩,⟨0,⟨#[]⟩⟩,0,[],[]⟩
def want (l:List Df) (kind:Int) (name:ByteArray):Except Int Nat:=match numOf l name with
 | none => .error 7
 | some i => if (defAt l i).kind = kind then .ok i else .error 7
abbrev Vars:=List (ByteArray × Ty)
def look (vars:Vars) (name:ByteArray):Option Ty:=(vars.find? (fun p => decide (p.1 = name))).map (·.2)
def known (vars:Vars) (name:ByteArray):Except Int Ty:=match look vars name with
 | none => .error 7
 | some t => .ok t
def fits (b:Bool):Except Int Unit:=if b = true then .ok () else .error 8
def plain (t:Ty):Except Int Unit:=if t.kind = 3 then .error 9 else .ok ()
def must (ex:Ex → Tk → Except Int (Ty × Tk)) (wt:Ty):List Ex → Tk → Except Int Tk
 | [],t => .ok t
 | x :: l,t => andThen (ex x t) fun p => if same p.1 wt = true then must ex wt l p.2 else .error 9
def args (ex:Ex → Tk → Except Int (Ty × Tk)):List Pm → List Ex → Tk → Except Int Tk
 | [],_,t => .ok t
 | p :: ps,ks,t => andThen (must ex p.ty (ks.take 1) t) fun t => args ex ps (ks.drop 1) t
def call (l:List Df) (ex:Ex → Tk → Except Int (Ty × Tk)) (kind:Int) (x:Ex) (t:Tk):Except Int (Df × Tk) :=
 andThen (want l kind x.name) fun n =>
  if x.kids.length ≠ (defAt l n).params.length then .error 5
  else andThen (args ex (defAt l n).params x.kids ⟨t.sends,t.recvs,t.calls ++ [n]⟩) fun t => .ok (defAt l n,t)
def started (l:List Df) (ex:Ex → Tk → Except Int (Ty × Tk)) (x:Ex) (t:Tk):Except Int (Df × Tk) :=
 andThen (ex x t) fun p => if p.1.kind ≠ 3 then .error 9 else andThen (want l 3 p.1.gen) fun n => .ok (defAt l n,p.2)
def kid (x:Ex) (i:Nat):Ex:=(x.kids[i]?).getD ⟨0,0,⟨#[]⟩,[]⟩
def spoken (l:List Df) (me:Df) (ex:Ex → Tk → Except Int (Ty × Tk)) (x:Ex) (t:Tk):Except Int (Ty × Tk) :=
 if x.kind = 19 then andThen (call l ex 2 x t) fun p => .ok (p.1.ty,p.2)
 else if x.kind = 22 then andThen (call l ex 3 x t) fun p => .ok (⟨3,x.name⟩,p.2)
 else if x.kind = 20 then andThen (want l 1 x.name) fun b => .ok ((defAt l b).ty,⟨t.sends,t.recvs ++ [b],t.calls⟩)
 else if x.kind = 21 then andThen (fits (me.kind == 3)) fun _ => andThen (must ex me.ty [kid x 0] t) fun t => .ok (me.takes,t)
 else andThen (started l ex (kid x 0) t) fun g => andThen (must ex g.1.takes [kid x 1] g.2) fun t => .ok (g.1.ty,t)
def expr (l:List Df) (me:Df) (vars:Vars):Nat → Ex → Tk → Except Int (Ty × Tk)
 | 0,_,_ => .error 4
 | d + 1,x,t =>
  if x.kind = 1 then .ok (num,t)
  else if x.kind = 2 then .ok (tru,t)
  else if x.kind = 3 then andThen (known vars x.name) fun y => .ok (y,t)
  else if x.kind = 4 ∨ 6 ≤ x.kind ∧ x.kind ≤ 10 then andThen (must (expr l me vars d) num x.kids t) fun t => .ok (num,t)
  else if 13 ≤ x.kind ∧ x.kind ≤ 16 then andThen (must (expr l me vars d) num x.kids t) fun t => .ok (tru,t)
  else if x.kind = 5 ∨ x.kind = 17 ∨ x.kind = 18 then andThen (must (expr l me vars d) tru x.kids t) fun t => .ok (tru,t)
  else if x.kind = 11 ∨ x.kind = 12 then
   andThen (expr l me vars d (kid x 0) t) fun a => andThen (expr l me vars d (kid x 1) a.2) fun b =>
    andThen (plain a.1) fun _ => if same a.1 b.1 = true then .ok (tru,b.2) else .error 9
  else if x.kind = 24 then andThen (started l (expr l me vars d) (kid x 0) t) fun p => .ok (tru,p.2)
  else spoken l me (expr l me vars d) x t
def block (st:St → Vars → Tk → Except Int (Vars × Tk)):List St → Vars → Tk → Except Int (Vars × Tk)
 | [],v,t => .ok (v,t)
 | s :: b,v,t => andThen (st s v t) fun p => block st b p.1 p.2
def inner (st:St → Vars → Tk → Except Int (Vars × Tk)) (b:List St) (v:Vars) (t:Tk):Except Int Tk:=andThen (block st b v t) fun p => .ok p.2
def stat (l:List Df) (me:Df):Nat → St → Vars → Tk → Except Int (Vars × Tk)
 | 0,_,_,_ => .error 4
 | d + 1,s,v,t =>
  if s.kind = 1 then andThen (expr l me v d s.x t) fun p => if (look v s.name).isSome = true then .error 7 else .ok (v ++ [(s.name,p.1)],p.2)
  else if s.kind = 2 then andThen (known v s.name) fun y => andThen (must (expr l me v d) y [s.x] t) fun t => .ok (v,t)
  else if s.kind = 3 then andThen (must (expr l me v d) tru [s.x] t) fun t => andThen (inner (stat l me d) s.body v t) fun t => andThen (inner (stat l me d) s.els v t) fun t => .ok (v,t)
  else if s.kind = 4 then andThen (must (expr l me v d) tru [s.x] t) fun t => andThen (inner (stat l me d) s.body v t) fun t => .ok (v,t)
  else if s.kind = 5 then andThen (fits (me.kind == 2)) fun _ => andThen (must (expr l me v d) me.ty [s.x] t) fun t => .ok (v,t)
  else if s.kind = 6 then andThen (fits (me.kind != 2)) fun _ => .ok (v,t)
  else if s.kind = 7 then andThen (want l 1 s.name) fun b => andThen (must (expr l me v d) (defAt l b).ty [s.x] ⟨t.sends ++ [b],t.recvs,t.calls⟩) fun t => .ok (v,t)
  else if s.kind = 8 then andThen (expr l me v d s.x t) fun p => andThen (plain p.1) fun _ => .ok (v,p.2)
  else andThen (expr l me v d s.x t) fun p => .ok (v,p.2)
def bodyT (l:List Df) (me:Df):Except Int Tk :=
 if me.kind = 1 then .ok Tk.none
 else inner (stat l me 39) me.body (if me.kind = 4 then [] else me.params.map (fun p => (p.name,p.ty))) Tk.none
def params (l:List Df):List Pm → List ByteArray → Except Int Unit
 | [],_ => .ok ()
 | p :: ps,seen => if seen.any (fun s => decide (s = p.name)) = true then .error 7 else if p.ty.kind = 3 then andThen (want l 3 p.ty.gen) fun _ => params l ps (seen ++ [p.name]) else params l ps (seen ++ [p.name])
def head (l:List Df) (d:Df):Except Int Unit :=
 if d.kind = 1 then plain d.ty
 else if d.kind = 2 then andThen (params l d.params []) fun _ => plain d.ty
 else if d.kind = 3 then andThen (params l d.params []) fun _ => andThen (plain d.takes) fun _ => plain d.ty
 else .ok ()
def each {α:Type} (f:Df → Except Int α):List Df → Nat → Except (Int × Nat) (List α)
 | [],_ => .ok []
 | d :: l,i => match f d with
  | .error e => .error (e,i)
  | .ok x => match each f l (i + 1) with
   | .error e => .error e
   | .ok xs => .ok (x :: xs)
def names:List Df → Nat → List ByteArray → Option (Int × Nat)
 | [],_,_ => none
 | d :: l,i,seen => if seen.any (fun s => decide (s = d.name)) = true then some (7,i) else names l (i + 1) (seen ++ [d.name])
def prog (l:List Df):Option (Int × Nat):=match names l 0 [] with
 | some e => some e
 | none => if l.any (fun d => d.kind == 4) then none else some (6,l.length)
def reach (talks:List Tk):Nat → Nat → List Nat → List Nat
 | 0,_,out => out
 | f + 1,i,out => match out[i]? with
  | none => out
  | some n => reach talks f (i + 1) (((talks[n]?).getD Tk.none).calls.foldl (fun o c => if c ∈ o then o else o ++ [c]) out)
def reached (talks:List Tk) (task:Nat):Tk :=
 let cs:=reach talks (talks.length + 1) 0 [task]
 ⟨cs.flatMap (fun n => ((talks[n]?).getD Tk.none).sends),cs.flatMap (fun n => ((talks[n]?).getD Tk.none).recvs),cs⟩
def only (l:List Df) (speaks:Nat → Bool):Except Int ByteArray :=
 match (List.range l.length).filter speaks with
 | [] => .ok ⟨#[]⟩
 | [i] => .ok (defAt l i).name
 | _ => .error 8
def tasksT (l:List Df) (talks:List Tk) (i:Nat):Tk:=if (defAt l i).kind = 4 then reached talks i else Tk.none
def owner (l:List Df) (talks:List Tk) (i:Nat):Except Int (ByteArray × ByteArray × ByteArray) :=
 andThen (only l (fun t => decide (i ∈ (tasksT l talks t).sends))) fun w => andThen (only l (fun t => decide (i ∈ (tasksT l talks t).recvs))) fun r => .ok ((defAt l i).name,w,r)
def ownersFrom (l:List Df) (talks:List Tk):List Nat → Except (Int × Nat) (List (ByteArray × ByteArray × ByteArray))
 | [] => .ok []
 | i :: is => if (defAt l i).kind = 1 then
   match owner l talks i with
   | .error e => .error (e,i)
   | .ok o => match ownersFrom l talks is with
    | .error e => .error e
    | .ok os => .ok (o :: os)
  else ownersFrom l talks is
def owners (l:List Df):Except (Int × Nat) (List (ByteArray × ByteArray × ByteArray)) :=
 if (wrongL l).1 ≠ 0 then .error (wrongL l)
 else match prog l with
  | some e => .error e
  | none => match each (head l) l 0 with
   | .error e => .error e
   | .ok _ => match each (bodyT l) l 0 with
    | .error e => .error e
    | .ok talks => ownersFrom l talks (List.range l.length)
end Sm
end Go.Proofs.YtpnljpdpobbiiaaGreatDoor
namespace Go.Proofs.YtpnljpdpobbiiaaGreatDoor
open Go.RowKit
namespace Ms
abbrev Row:=List (ByteArray × Value)
def at':Row → ByteArray → Nat → Option (Nat × Value)
 | [],_,_ => none
 | p :: l,k,i => if k = p.1 then some (i,p.2) else at' l k (i + 1)
def val (l:Row) (k:ByteArray):Option Value:=(at' l k 0).map (·.2)
def Is (es:List MapEntry) (l:Row):Prop:=es.map (fun e => (e.key,e.val)) = l.map (fun p => (Value.string p.1,p.2))
def In (w:World) (M:Nat) (l:Row):Prop:=∃ es cl,w.heap[M]? = some (.map es cl) ∧ Is es.toList l
theorem now_at {k:ByteArray}:∀ {es:List MapEntry} {l:Row} {i:Nat},Is es l → Instr.findNow .string (.string k) es i = some (at' l k i)
 | [],[],i,_ => rfl
 | [],_ :: _,i,h => by simp [Is] at h
 | _ :: _,[],i,h => by simp [Is] at h
 | e :: es,p :: l,i,h => by
  simp only [Is,List.map_cons,List.cons.injEq,Prod.mk.injEq] at h
  obtain ⟨⟨h1,h2⟩,h3⟩:=h
  rw [Instr.findNow,h1,at']
  by_cases hk:k = p.1
  ·have:(k == p.1) = true:=(MapKept.bytes_beq _ _).2 hk
   simp only [Instr.sameNow,this,if_pos hk,h2]
  ·have:(k == p.1) = false:=by
    cases hb:(k == p.1) with
    | false => rfl
    | true => exact absurd ((MapKept.bytes_beq _ _).1 hb) hk
   simp only [Instr.sameNow,this,if_neg hk]
   exact now_at (es:=es) (l:=l) h3
theorem at_shift (k:ByteArray):∀ (l:Row) (i:Nat),at' l k i = (at' l k 0).map (fun p => (p.1 + i,p.2))
 | [],i => rfl
 | p :: l,i => by
  simp only [at']
  by_cases hk:k = p.1
  ·simp [hk]
  ·rw [if_neg hk,if_neg hk,at_shift k l (i + 1),at_shift k l 1]
   cases at' l k 0 with
   | none => rfl
   | some x => simp only [Option.map_some]; rw [Nat.add_assoc,Nat.add_comm 1 i]
theorem val_nil (k:ByteArray):val [] k = none:=rfl
theorem val_cons (p:ByteArray × Value) (l:Row) (k:ByteArray):val (p :: l) k = if k = p.1 then some p.2 else val l k:=by
 simp only [val,at']
 by_cases hk:k = p.1
 ·simp [hk]
 ·rw [if_neg hk,if_neg hk,at_shift]
  cases at' l k 0 <;> rfl
theorem val_append (k:ByteArray) (m:Row):∀ l:Row,val (l ++ m) k = (val l k).or (val m k)
 | [] => by simp [val_nil]
 | p :: l => by
  rw [List.cons_append,val_cons,val_cons,val_append k m l]
  by_cases hk:k = p.1 <;> simp [hk]
theorem val_none {k:ByteArray}:∀ {l:Row},val l k = none ↔ ∀ p ∈ l,p.1 ≠ k
 | [] => by simp [val_nil]
 | p :: l => by
  rw [val_cons]
  by_cases hk:k = p.1
  ·subst hk; simp
  ·rw [if_neg hk,val_none]
   exact ⟨fun h x hx => by
    rcases List.mem_cons.1 hx with rfl | h1
    ·exact Ne.symm hk
    ·exact h x h1,fun h x hx => h x (List.mem_cons_of_mem _ hx)⟩
theorem at_none {l:Row} {k:ByteArray}:at' l k 0 = none ↔ val l k = none:=by
 unfold val
 cases at' l k 0 <;> simp
theorem at_some {k:ByteArray} {v:Value}:∀ {l:Row} {i j:Nat},at' l k i = some (j,v) → ∃ q,j = i + q ∧ l[q]? = some (k,v)
 | [],i,j,h => by cases h
 | p :: l,i,j,h => by
  rw [at'] at h
  by_cases hk:k = p.1
  ·rw [if_pos hk] at h
   simp only [Option.some.injEq,Prod.mk.injEq] at h
   exact ⟨0,by omega,by simp [← h.2,hk]⟩
  ·rw [if_neg hk] at h
   obtain ⟨q,h1,h2⟩:=at_some h
   exact ⟨q + 1,by omega,by simpa using h2⟩
theorem at_first {k:ByteArray}:∀ {l m:Row} {v:Value} {i:Nat},(∀ p ∈ l,p.1 ≠ k) → at' (l ++ (k,v) :: m) k i = some (i + l.length,v)
 | [],m,v,i,_ => by simp [at']
 | p :: l,m,v,i,h => by
  rw [List.cons_append,at',if_neg (Ne.symm (h p List.mem_cons_self)),at_first (fun x hx => h x (List.mem_cons_of_mem _ hx))]
  simp; omega
theorem In.new (w:World):In (w.alloc (.map #[] 0)) w.heap.size []:=⟨#[],0,heap_alloc_new w _,rfl⟩
theorem In.keep {w w':World} {M:Nat} {l:Row} (h:In w M l) (hM:w'.heap[M]? = w.heap[M]?):In w' M l:=by
 obtain ⟨es,cl,h1,h2⟩:=h
 exact ⟨es,cl,hM.trans h1,h2⟩
theorem In.lt {w:World} {M:Nat} {l:Row} (h:In w M l):M < w.heap.size:=by
 obtain ⟨es,cl,h1,_⟩:=h
 exact (Array.getElem?_eq_some_iff.1 h1).1
theorem In.grow {w w':World} {M:Nat} {l:Row} (h:In w M l) (hg:w.grownBy w' none):In w' M l:=h.keep (hg.block _ h.lt (by simp))
variable {P:Program} {mt kt et:TypeId} (hm:P.underlying mt = some (.map kt et)) (hs:P.underlying kt = some .string)
include hm hs
theorem run_lookup {w:World} {M:Nat} {l:Row} {k:ByteArray} {z:Value} (h:In w M l) (hz:(zeroValue et).run P w = .ok z w) :
  (Instr.lookup mt (.map (some M)) (.string k) false).run P w = .ok ((val l k).getD z) w ∧
  (Instr.lookup mt (.map (some M)) (.string k) true).run P w = .ok (.tuple #[(val l k).getD z,.bool (val l k).isSome]) w:=by
 obtain ⟨es,cl,h1,h2⟩:=h
 have hf:=now_at (k:=k) (i:=0) h2
 have hg:(getObj M).run P w = .ok (.map es cl) w:=MapKept.run_getObj_map h1
 have hu:=run_underlying (w:=w) hm
 have hkk:=MapKept.run_findKey (w:=w) hs hf
 have hck:∀ b,(Instr.checkKey b 10000 kt (.string k)).run P w = .ok () w:=fun b => MapKept.run_checkKey (n:=9999) hs (by simp [MapKept.IsKey]) b
 unfold val
 cases ha:at' l k 0 with
 | none =>
  rw [ha] at hkk
  exact ⟨by simp [Instr.lookup,hu,hg,hck,hkk,hz],by simp [Instr.lookup,hu,hg,hck,hkk,hz]⟩
 | some x =>
  rw [ha] at hkk
  exact ⟨by simp [Instr.lookup,hu,hg,hck,hkk],by simp [Instr.lookup,hu,hg,hck,hkk]⟩
theorem run_add {w:World} {M:Nat} {l:Row} {k:ByteArray} {v:Value} (h:In w M l) (hk:val l k = none) :
  ∃ w',(Instr.mapUpdate mt (.map (some M)) (.string k) v).run P w = .ok () w' ∧ In w' M (l ++ [(k,v)]) ∧ w.grownBy w' (some M):=by
 obtain ⟨es,cl,h1,h2⟩:=h
 have hf:=now_at (k:=k) (i:=0) h2
 rw [at_none.2 hk] at hf
 have hg:(getObj M).run P w = .ok (.map es cl) w:=MapKept.run_getObj_map h1
 have hu:=run_underlying (w:=w) hm
 have hkk:=MapKept.run_findKey (w:=w) hs hf
 have hck:∀ b,(Instr.checkKey b 10000 kt (.string k)).run P w = .ok () w:=fun b => MapKept.run_checkKey (n:=9999) hs (by simp [MapKept.IsKey]) b
 have hset:=MapKept.run_setObj_map (P:=P) (.map (es.push { key:=.string k,val:=v,born:=cl }) (cl + 1)) h1
 obtain ⟨m1,m2⟩:=MapKept.heap_set (o':=.map (es.push { key:=.string k,val:=v,born:=cl }) (cl + 1)) h1
 refine ⟨{ w with heap:=w.heap.setIfInBounds M (.map (es.push { key:=.string k,val:=v,born:=cl }) (cl + 1)) },by simp [Instr.mapUpdate,hu,hg,hck,hkk,hset],⟨_,_,m1,?_⟩,⟨rfl,rfl,rfl,by simp,fun b _ hne => m2 b (fun e => hne (by rw [e]))⟩⟩
 unfold Is at h2 ⊢
 simp [h2]
theorem run_set {w:World} {M:Nat} {l:Row} {k:ByteArray} {i:Nat} {v v0:Value} (h:In w M l) (hk:at' l k 0 = some (i,v0)) :
  ∃ w',(Instr.mapUpdate mt (.map (some M)) (.string k) v).run P w = .ok () w' ∧ In w' M (l.set i (k,v)) ∧ w.grownBy w' (some M):=by
 obtain ⟨es,cl,h1,h2⟩:=h
 have hf:=now_at (k:=k) (i:=0) h2
 rw [hk] at hf
 have hg:(getObj M).run P w = .ok (.map es cl) w:=MapKept.run_getObj_map h1
 have hu:=run_underlying (w:=w) hm
 have hkk:=MapKept.run_findKey (w:=w) hs hf
 have hck:∀ b,(Instr.checkKey b 10000 kt (.string k)).run P w = .ok () w:=fun b => MapKept.run_checkKey (n:=9999) hs (by simp [MapKept.IsKey]) b
 obtain ⟨q,hq,hl⟩:=at_some hk
 obtain rfl:i = q:=by omega
 have hle:es.toList.length = l.length:=by simpa using congrArg List.length h2
 obtain ⟨e0,he0,hek⟩:∃ e0,es[i]? = some e0 ∧ e0.key = .string k:=by
  have:=congrArg (fun x => x[i]?) h2
  simp only [List.getElem?_map,hl,Option.map_some] at this
  cases he:es.toList[i]? with
  | none => rw [he] at this; cases this
  | some e =>
   rw [he] at this
   simp only [Option.map_some,Option.some.injEq,Prod.mk.injEq] at this
   exact ⟨e,by simpa using he,this.1⟩
 have hst:=MapKept.run_keyThatStays (P:=P) (w:=w) (d:=.string) (k:=.string k) (by simp [MapKept.IsKey])
 have hset:=MapKept.run_setObj_map (P:=P) (.map (es.modify i fun e => { e with key:=.string k,val:=v }) cl) h1
 obtain ⟨m1,m2⟩:=MapKept.heap_set (o':=.map (es.modify i fun e => { e with key:=.string k,val:=v }) cl) h1
 refine ⟨{ w with heap:=w.heap.setIfInBounds M (.map (es.modify i fun e => { e with key:=.string k,val:=v }) cl) },by simp [Instr.mapUpdate,hu,hg,hck,hkk,he0,hek,hst,hset],⟨_,_,m1,?_⟩,⟨rfl,rfl,rfl,by simp,fun b _ hne => m2 b (fun e => hne (by rw [e]))⟩⟩
 unfold Is at h2 ⊢
 apply List.ext_getElem?
 intro j
 have hj:=congrArg (fun x => x[j]?) h2
 simp only [List.getElem?_map] at hj ⊢
 rw [Array.toList_modify,List.getElem?_modify,List.getElem?_set]
 by_cases hij:i = j
 ·subst hij
  have hlt:i < l.length:=(List.getElem?_eq_some_iff.1 hl).1
  have:es.toList[i]? = some e0:=by simpa using he0
  simp [this,hlt]
 ·simpa [hij] using hj
theorem run_delete {w:World} {M:Nat} {l:Row} {k:ByteArray} {i:Nat} {v0:Value} {ty:TypeId} {ts:Array TypeId} (h:In w M l) (ht:ts[0]? = some mt) (hk:at' l k 0 = some (i,v0)) :
  ∃ w',(Builtin.delete_ ts ty #[.map (some M),.string k]).run P w = .ok (.tuple #[]) w' ∧ In w' M (l.eraseIdx i) ∧ w.grownBy w' (some M):=by
 obtain ⟨es,cl,h1,h2⟩:=h
 have hf:=now_at (k:=k) (i:=0) h2
 rw [hk] at hf
 have hg:(getObj M).run P w = .ok (.map es cl) w:=MapKept.run_getObj_map h1
 have hu:=run_underlying (w:=w) hm
 have hkk:=MapKept.run_findKey (w:=w) hs hf
 have hck:∀ b,(Instr.checkKey b 10000 kt (.string k)).run P w = .ok () w:=fun b => MapKept.run_checkKey (n:=9999) hs (by simp [MapKept.IsKey]) b
 have hset:=MapKept.run_setObj_map (P:=P) (.map (es.eraseIdxIfInBounds i) cl) h1
 obtain ⟨m1,m2⟩:=MapKept.heap_set (o':=.map (es.eraseIdxIfInBounds i) cl) h1
 refine ⟨{ w with heap:=w.heap.setIfInBounds M (.map (es.eraseIdxIfInBounds i) cl) },by simp [Builtin.delete_,ht,hu,hg,hck,hkk,hset],⟨_,_,m1,?_⟩,⟨rfl,rfl,rfl,by simp,fun b _ hne => m2 b (fun e => hne (by rw [e]))⟩⟩
 unfold Is at h2 ⊢
 have:(es.eraseIdxIfInBounds i).toList = es.toList.eraseIdx i:=by simp
 have me:∀ {α β:Type} (f:α → β) (x:List α),(x.eraseIdx i).map f = (x.map f).eraseIdx i:=fun f x => by simp [List.eraseIdx_eq_take_drop_succ,List.map_take,List.map_drop]
 rw [this,me,h2,← me]
end Ms
end Go.Proofs.YtpnljpdpobbiiaaGreatDoor
