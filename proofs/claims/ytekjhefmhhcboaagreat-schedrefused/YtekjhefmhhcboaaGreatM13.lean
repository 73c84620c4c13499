/- The walks of resume, and of putting out. -/
import Derived.Test.YtekjhefmhhcboaaGreatM12
import Derived.Test.YtekjhefmhhcboaaGreatM4
namespace Go.Proofs.YtekjhefmhhcboaaGreat.Vw
open Go.RowKit Vf Vm
section
variable {β : Type} (E : Env β) (c : Cx) (vB : Value) (N : Nat) (caps : Array Value) (hN : Hid (Hears E c N caps)) (o T : Nat) (L : Lab) (P : Nat → Nat) (w : World) (t : Tk) (x : β) (vR vO : Value) (H : Hid (St E c vB (.func (.func N) #[] caps) o T L P w t x vR vO)) (hlog : Hid (t.log.length ≤ 2000001))
include hN H hlog
end
section
variable {β : Type} {E : Env β} {c : Cx} {vB ev : Value} {o T : Nat} {L : Lab} {P : Nat → Nat} {w w4 : World} {t : Tk} {x : β} {vR vO : Value}
end
section
variable {β : Type} (E : Env β) (c : Cx) (vB : Value) (N : Nat) (caps : Array Value) (hN : Hid (Hears E c N caps)) (o T : Nat) (L : Lab) (P : Nat → Nat) (w : World) (t : Tk) (x : β) (vR vO : Value) (H : Hid (St E c vB (.func (.func N) #[] caps) o T L P w t x vR vO)) (hlog : Hid (t.log.length ≤ 2000000))
include hN H hlog
end
end Go.Proofs.YtekjhefmhhcboaaGreat.Vw
namespace Go.Proofs.YtekjhefmhhcboaaGreat.Vw
open Vf Vm
structure Bxs (β : Type) where
 full : β → Nat → Bool
 may : β → Nat → Prop
 empty : β → Nat → Bool
 put : β → Nat → Int → β
 head : β → Nat → Int
 take : β → Nat → β
def stX {β : Type} (X : Bxs β) (i : Ins) (v : Int) (x : β) : β := if i.op = 26 then X.put x i.a.toNat v else if i.op = 27 then X.take x i.a.toNat else x
def stat {β : Type} (X : Bxs β) (m : Md) (t : Tk) (x : β) : Nat × Nat :=
 if t.over ≠ 0 then (t.over, 0)
 else if (t.ins m).op = 26 ∧ X.full x (t.ins m).a.toNat = true then (2, (t.ins m).a.toNat)
 else if (t.ins m).op = 27 ∧ X.empty x (t.ins m).a.toNat = true then (3, (t.ins m).a.toNat)
 else (1, 0)
def one {β : Type} (X : Bxs β) (m : Md) (t : Tk) (x : β) : Tk × β := (t.step m (X.head x (t.ins m).a.toNat), stX X (t.ins m) (t.goto (t.frame.pc + 1)).last x)
def go {β : Type} (X : Bxs β) (m : Md) : Nat → Tk → β → Nat × Tk × β
 | 0, t, x => (0, t, x)
 | n + 1, t, x => if (stat X m t x).1 = 1 then ((go X m n (one X m t x).1 (one X m t x).2).1 + 1, (go X m n (one X m t x).1 (one X m t x).2).2) else (0, t, x)
end Go.Proofs.YtekjhefmhhcboaaGreat.Vw
