/- The walks of the checker's small methods. -/
import Derived.Test.YtbioaoangfiijaaGreatDoorM2
import Derived.Recover
set_option maxHeartbeats 400000
namespace Go.Proofs.YtbioaoangfiijaaGreatDoor
open Go.RowKit
theorem fate0_ok {num er:Int} {w w':World} (hg:w.grownBy w' none) (h:er = 0):Fate0 num er w (.returned (.tuple #[])) w':=⟨hg,by rw [if_pos h]⟩
theorem fate0_bad {num er k:Int} {w w':World} (hg:w.grownBy w' none) (h:er = k) (hk:k ≠ 0):Fate0 num er w (.panicked [fltE k num]) w':=⟨hg,by rw [h,if_neg hk]⟩
theorem fate0_not {num er:Int} {w w':World} {e:Ending} (h:Fate0 num er w e w') (h0:er = 0):e = .returned (.tuple #[]):=by rw [h.2,if_pos h0]
theorem fate0_err {num er:Int} {w w':World} {e:Ending} (h:Fate0 num er w e w') (h0:er ≠ 0):e = .panicked [fltE er num]:=by rw [h.2,if_neg h0]
theorem throw_any (num er:Int) (w:World) :
  Calls Tryz.prog 36 #[.int .i64 er,.int .i64 num] w fun e w' => e = .panicked [fltE er num] ∧ Below w.heap.size w w' ∧ w' = w:=by
 go_enter Tryz.func36,Tryz.ntmps36
 go_wp2
 exact ⟨rfl,rfl,Below.refl _ _,rfl⟩
theorem fail_any (C n:Nat) (num er:Int) (w:World) (hC:CK w C num n) :
  Calls Tryz.prog 56 #[.pointer (some ⟨C,0,none⟩),.int .i64 er] w fun e w' => e = .panicked [fltE er num] ∧ w' = w:=by
 obtain ⟨c0,c1,f0,f1⟩:=hC.cells
 clear hC
 go_enter Tryz.func56,Tryz.ntmps56
 go_wp2_with fail
 refine (throw_any num er _).mono ?_
 rintro e w1 ⟨rfl,_,rfl⟩
 go_wp2
 exact ⟨rfl,rfl,rfl⟩
theorem atMost_any (C n:Nat) (num k most er:Int) (w:World) (hC:Hid (CK w C num n)) (he:Hid (er = if most < k then 5 else 0)) :
  Calls Tryz.prog 33 #[.pointer (some ⟨C,0,none⟩),.int .i64 k,.int .i64 most] w fun e w' => Fate0 num er w e w':=by
 by_cases h:most < k
 ·have HE:Hid (er = 5):=by rw [if_pos h] at he; exact he
  go_enter Tryz.func33,Tryz.ntmps33
  go_wp2_with fail
  refine (fail_any C n num 5 _ hC.out).mono ?_
  rintro e w1 ⟨rfl,rfl⟩
  go_wp2
  exact ⟨rfl,fate0_bad (grown_refl _ _) HE.out (by decide)⟩
 ·have HE:Hid (er = 0):=by rw [if_neg h] at he; exact he
  go_enter Tryz.func33,Tryz.ntmps33
  go_wp2
  go_end0
  exact fate0_ok (grown_refl _ _) HE.out
theorem kind_any (C n:Nat) (num k most er:Int) (w:World) (hC:Hid (CK w C num n)) (he:Hid (er = if k < 1 ∨ most < k then 1 else 0)) :
  Calls Tryz.prog 89 #[.pointer (some ⟨C,0,none⟩),.int .i64 k,.int .i64 most] w fun e w' => Fate0 num er w e w':=by
 by_cases h:k < 1
 ·have HE:Hid (er = 1):=by rw [if_pos (.inl h)] at he; exact he
  go_enter Tryz.func89,Tryz.ntmps89
  go_wp2_with fail
  refine (fail_any C n num 1 _ hC.out).mono ?_
  rintro e w1 ⟨rfl,rfl⟩
  go_wp2
  exact ⟨rfl,fate0_bad (grown_refl _ _) HE.out (by decide)⟩
 ·by_cases h2:most < k
  ·have HE:Hid (er = 1):=by rw [if_pos (.inr h2)] at he; exact he
   go_enter Tryz.func89,Tryz.ntmps89
   go_wp2_with fail
   refine (fail_any C n num 1 _ hC.out).mono ?_
   rintro e w1 ⟨rfl,rfl⟩
   go_wp2
   exact ⟨rfl,fate0_bad (grown_refl _ _) HE.out (by decide)⟩
  ·have HE:Hid (er = 0):=by rw [if_neg (by omega)] at he; exact he
   go_enter Tryz.func89,Tryz.ntmps89
   go_wp2
   go_end0
   exact fate0_ok (grown_refl _ _) HE.out
theorem within_any (C n:Nat) (num k least most er:Int) (w:World) (hC:Hid (CK w C num n)) (he:Hid (er = if k < least ∨ most < k then 3 else 0)) :
  Calls Tryz.prog 61 #[.pointer (some ⟨C,0,none⟩),.int .i64 k,.int .i64 least,.int .i64 most] w fun e w' => Fate0 num er w e w':=by
 by_cases h:k < least
 ·have HE:Hid (er = 3):=by rw [if_pos (.inl h)] at he; exact he
  go_enter Tryz.func61,Tryz.ntmps61
  go_wp2_with fail
  refine (fail_any C n num 3 _ hC.out).mono ?_
  rintro e w1 ⟨rfl,rfl⟩
  go_wp2
  exact ⟨rfl,fate0_bad (grown_refl _ _) HE.out (by decide)⟩
 ·by_cases h2:most < k
  ·have HE:Hid (er = 3):=by rw [if_pos (.inr h2)] at he; exact he
   go_enter Tryz.func61,Tryz.ntmps61
   go_wp2_with fail
   refine (fail_any C n num 3 _ hC.out).mono ?_
   rintro e w1 ⟨rfl,rfl⟩
   go_wp2
   exact ⟨rfl,fate0_bad (grown_refl _ _) HE.out (by decide)⟩
  ·have HE:Hid (er = 0):=by rw [if_neg (by omega)] at he; exact he
   go_enter Tryz.func61,Tryz.ntmps61
   go_wp2
   go_end0
   exact fate0_ok (grown_refl _ _) HE.out
theorem cname_any (C n:Nat) (num er:Int) (s:ByteArray) (w:World) (hC:Hid (CK w C num n)) (hs:s.size ≤ maxLen) (he:Hid (er = if Sy.nm s = false then 7 else 0)) :
  Calls Tryz.prog 58 #[.pointer (some ⟨C,0,none⟩),.string s] w fun e w' => Fate0 num er w e w':=by
 cases h:Sy.nm s
 ·have HE:Hid (er = 7):=by rw [if_pos h] at he; exact he
  have HN:Hid (Lx.named s.toList = false):=h
  clear h
  go_enter Tryz.func58,Tryz.ntmps58
  go_wp2_with fail
  refine (named_any s _ hs).mono ?_
  rintro e w1 ⟨rfl,rfl⟩
  rw [HN.out]
  go_wp2_with fail
  refine (fail_any C n num 7 _ hC.out).mono ?_
  rintro e w1 ⟨rfl,rfl⟩
  go_wp2
  exact ⟨rfl,fate0_bad (grown_refl _ _) HE.out (by decide)⟩
 ·have HE:Hid (er = 0):=by rw [if_neg (by rw [h]; decide)] at he; exact he
  have HN:Hid (Lx.named s.toList = true):=h
  clear h
  go_enter Tryz.func58,Tryz.ntmps58
  go_wp2_with fail
  refine (named_any s _ hs).mono ?_
  rintro e w1 ⟨rfl,rfl⟩
  rw [HN.out]
  go_wp2
  go_end0
  exact fate0_ok (grown_refl _ _) HE.out
end Go.Proofs.YtbioaoangfiijaaGreatDoor
namespace Go.Proofs.YtbioaoangfiijaaGreatDoor
namespace Sm
open Sy
def num:Ty:=⟨1,⟨#[]⟩⟩
def tru:Ty:=⟨2,⟨#[]⟩⟩
def same (a b:Ty):Bool:=decide (a.kind = b.kind) && (decide (a.kind ≠ 3) || decide (a.gen = b.gen))
structure Tk where
 sends:List Nat
 recvs:List Nat
 calls:List Nat
def Tk.none:Tk:=⟨[],[],[]⟩
def andThen {α β:Type} (r:Except Int α) (f:α → Except Int β):Except Int β:=match r with | .error e => .error e | .ok x => f x
theorem andThen_ok {α β:Type} (x:α) (f:α → Except Int β):andThen (.ok x) f = f x:=rfl
def numOf (l:List Df) (name:ByteArray):Option Nat:=(List.range l.length).reverse.find? (fun i => decide ((l[i]?).map (·.name) = some name))
def defAt (l:List Df) (i:Nat):Df:=(l[i]?).getD ⟨0,⟨#[]⟩,⟨0,⟨#[]⟩⟩,⟨0,⟨#[]⟩⟩,0,[],[]⟩
def want (l:List Df) (kind:Int) (name:ByteArray):Except Int Nat:=match numOf l name with
 | none => .error 7
 | some i => if (defAt l i).kind = kind then .ok i else .error 7
abbrev Vars:=List (ByteArray × Ty)
def look (vars:Vars) (name:ByteArray):Option Ty:=(vars.find? (fun p => decide (p.1 = name))).map (·.2)
def known (vars:Vars) (name:ByteArray):Except Int Ty:=match look vars name with
 | none => .error 7
 | some t => .ok t
def fits (b:Bool):Except Int Unit:=if b = true then .ok () else .error 8
def plain (t:Ty):Except Int Unit:=if t.kind = 3 then .error 9 else .ok ()
def must (ex:Ex → Tk → Except Int (Ty × Tk)) (wt:Ty):List Ex → Tk → Except Int Tk
 | [],t => .ok t
 | x :: l,t => andThen (ex x t) fun p => if same p.1 wt = true then must ex wt l p.2 else .error 9
def args (ex:Ex → Tk → Except Int (Ty × Tk)):List Pm → List Ex → Tk → Except Int Tk
 | [],_,t => .ok t
 | p :: ps,ks,t => andThen (must ex p.ty (ks.take 1) t) fun t => args ex ps (ks.drop 1) t
def call (l:List Df) (ex:Ex → Tk → Except Int (Ty × Tk)) (kind:Int) (x:Ex) (t:Tk):Except Int (Df × Tk) :=
 andThen (want l kind x.name) fun n =>
  if x.kids.length ≠ (defAt l n).params.length then .error 5
  else andThen (args ex (defAt l n).params x.kids ⟨t.sends,t.recvs,t.calls ++ [n]⟩) fun t => .ok (defAt l n,t)
def started (l:List Df) (ex:Ex → Tk → Except Int (Ty × Tk)) (x:Ex) (t:Tk):Except Int (Df × Tk) :=
 andThen (ex x t) fun p => if p.1.kind ≠ 3 then .error 9 else andThen (want l 3 p.1.gen) fun n => .ok (defAt l n,p.2)
def kid (x:Ex) (i:Nat):Ex:=(x.kids[i]?).getD ⟨0,0,⟨#[]⟩,[]⟩
def spoken (l:List Df) (me:Df) (ex:Ex → Tk → Except Int (Ty × Tk)) (x:Ex) (t:Tk):Except Int (Ty × Tk) :=
 if x.kind = 19 then andThen (call l ex 2 x t) fun p => .ok (p.1.ty,p.2)
 else if x.kind = 22 then andThen (call l ex 3 x t) fun p => .ok (⟨3,x.name⟩,p.2)
 else if x.kind = 20 then andThen (want l 1 x.name) fun b => .ok ((defAt l b).ty,⟨t.sends,t.recvs ++ [b],t.calls⟩)
 else if x.kind = 21 then andThen (fits (me.kind == 3)) fun _ => andThen (must ex me.ty [kid x 0] t) fun t => .ok (me.takes,t)
 else andThen (started l ex (kid x 0) t) fun g => andThen (must ex g.1.takes [kid x 1] g.2) fun t => .ok (g.1.ty,t)
def expr (l:List Df) (me:Df) (vars:Vars):Nat → Ex → Tk → Except Int (Ty × Tk)
 | 0,_,_ => .error 4
 | d + 1,x,t =>
  if x.kind = 1 then .ok (num,t)
  else if x.kind = 2 then .ok (tru,t)
  else if x.kind = 3 then andThen (known vars x.name) fun y => .ok (y,t)
  else if x.kind = 4 ∨ 6 ≤ x.kind ∧ x.kind ≤ 10 then andThen (must (expr l me vars d) num x.kids t) fun t => .ok (num,t)
  else if 13 ≤ x.kind ∧ x.kind ≤ 16 then andThen (must (expr l me vars d) num x.kids t) fun t => .ok (tru,t)
  else if x.kind = 5 ∨ x.kind = 17 ∨ x.kind = 18 then andThen (must (expr l me vars d) tru x.kids t) fun t => .ok (tru,t)
  else if x.kind = 11 ∨ x.kind = 12 then
   andThen (expr l me vars d (kid x 0) t) fun a => andThen (expr l me vars d (kid x 1) a.2) fun b =>
    andThen (plain a.1) fun _ => if same a.1 b.1 = true then .ok (tru,b.2) else .error 9
  else if x.kind = 24 then andThen (started l (expr l me vars d) (kid x 0) t) fun p => .ok (tru,p.2)
  else spoken l me (expr l me vars d) x t
def block (st:St → Vars → Tk → Except Int (Vars × Tk)):List St → Vars → Tk → Except Int (Vars × Tk)
 | [],v,t => .ok (v,t)
 | s :: b,v,t => andThen (st s v t) fun p => block st b p.1 p.2
def inner (st:St → Vars → Tk → Except Int (Vars × Tk)) (b:List St) (v:Vars) (t:Tk):Except Int Tk:=andThen (block st b v t) fun p => .ok p.2
def stat (l:List Df) (me:Df):Nat → St → Vars → Tk → Except Int (Vars × Tk)
 | 0,_,_,_ => .error 4
 | d + 1,s,v,t =>
  if s.kind = 1 then andThen (expr l me v d s.x t) fun p => if (look v s.name).isSome = true then .error 7 else .ok (v ++ [(s.name,p.1)],p.2)
  else if s.kind = 2 then andThen (known v s.name) fun y => andThen (must (expr l me v d) y [s.x] t) fun t => .ok (v,t)
  else if s.kind = 3 then andThen (must (expr l me v d) tru [s.x] t) fun t => andThen (inner (stat l me d) s.body v t) fun t => andThen (inner (stat l me d) s.els v t) fun t => .ok (v,t)
  else if s.kind = 4 then andThen (must (expr l me v d) tru [s.x] t) fun t => andThen (inner (stat l me d) s.body v t) fun t => .ok (v,t)
  else if s.kind = 5 then andThen (fits (me.kind == 2)) fun _ => andThen (must (expr l me v d) me.ty [s.x] t) fun t => .ok (v,t)
  else if s.kind = 6 then andThen (fits (me.kind != 2)) fun _ => .ok (v,t)
  else if s.kind = 7 then andThen (want l 1 s.name) fun b => andThen (must (expr l me v d) (defAt l b).ty [s.x] ⟨t.sends ++ [b],t.recvs,t.calls⟩) fun t => .ok (v,t)
  else if s.kind = 8 then andThen (expr l me v d s.x t) fun p => andThen (plain p.1) fun _ => .ok (v,p.2)
  else andThen (expr l me v d s.x t) fun p => .ok (v,p.2)
def bodyT (l:List Df) (me:Df):Except Int Tk :=
 if me.kind = 1 then .ok Tk.none
 else inner (stat l me 39) me.body (if me.kind = 4 then [] else me.params.map (fun p => (p.name,p.ty))) Tk.none
def params (l:List Df):List Pm → List ByteArray → Except Int Unit
 | [],_ => .ok ()
 | p :: ps,seen => if seen.any (fun s => decide (s = p.name)) = true then .error 7 else if p.ty.kind = 3 then andThen (want l 3 p.ty.gen) fun _ => params l ps (seen ++ [p.name]) else params l ps (seen ++ [p.name])
def head (l:List Df) (d:Df):Except Int Unit :=
 if d.kind = 1 then plain d.ty
 else if d.kind = 2 then andThen (params l d.params []) fun _ => plain d.ty
 else if d.kind = 3 then andThen (params l d.params []) fun _ => andThen (plain d.takes) fun _ => plain d.ty
 else .ok ()
def each {α:Type} (f:Df → Except Int α):List Df → Nat → Except (Int × Nat) (List α)
 | [],_ => .ok []
 | d :: l,i => match f d with
  | .error e => .error (e,i)
  | .ok x => match each f l (i + 1) with
   | .error e => .error e
   | .ok xs => .ok (x :: xs)
def names:List Df → Nat → List ByteArray → Option (Int × Nat)
 | [],_,_ => none
 | d :: l,i,seen => if seen.any (fun s => decide (s = d.name)) = true then some (7,i) else names l (i + 1) (seen ++ [d.name])
def prog (l:List Df):Option (Int × Nat):=match names l 0 [] with
 | some e => some e
 | none => if l.any (fun d => d.kind == 4) then none else some (6,l.length)
def reach (talks:List Tk):Nat → Nat → List Nat → List Nat
 | 0,_,out => out
 | f + 1,i,out => match out[i]? with
  | none => out
  | some n => reach talks f (i + 1) (((talks[n]?).getD Tk.none).calls.foldl (fun o c => if c ∈ o then o else o ++ [c]) out)
def reached (talks:List Tk) (task:Nat):Tk :=
 let cs:=reach talks (talks.length + 1) 0 [task]
 ⟨cs.flatMap (fun n => ((talks[n]?).getD Tk.none).sends),cs.flatMap (fun n => ((talks[n]?).getD Tk.none).recvs),cs⟩
def only (l:List Df) (speaks:Nat → Bool):Except Int ByteArray :=
 match (List.range l.length).filter speaks with
 | [] => .ok ⟨#[]⟩
 | [i] => .ok (defAt l i).name
 | _ => .error 8
def tasksT (l:List Df) (talks:List Tk) (i:Nat):Tk:=if (defAt l i).kind = 4 then reached talks i else Tk.none
def owner (l:List Df) (talks:List Tk) (i:Nat):Except Int (ByteArray × ByteArray × ByteArray) :=
 andThen (only l (fun t => decide (i ∈ (tasksT l talks t).sends))) fun w => andThen (only l (fun t => decide (i ∈ (tasksT l talks t).recvs))) fun r => .ok ((defAt l i).name,w,r)
def ownersFrom (l:List Df) (talks:List Tk):List Nat → Except (Int × Nat) (List (ByteArray × ByteArray × ByteArray))
 | [] => .ok []
 | i :: is => if (defAt l i).kind = 1 then
   match owner l talks i with
   | .error e => .error (e,i)
   | .ok o => match ownersFrom l talks is with
    | .error e => .error e
    | .ok os => .ok (o :: os)
  else ownersFrom l talks is
def owners (l:List Df):Except (Int × Nat) (List (ByteArray × ByteArray × ByteArray)) :=
 if (wrongL l).1 ≠ 0 then .error (wrongL l)
 else match prog l with
  | some e => .error e
  | none => match each (head l) l 0 with
   | .error e => .error e
   | .ok _ => match each (bodyT l) l 0 with
    | .error e => .error e
    | .ok talks => ownersFrom l talks (List.range l.length)
end Sm
end Go.Proofs.YtbioaoangfiijaaGreatDoor
