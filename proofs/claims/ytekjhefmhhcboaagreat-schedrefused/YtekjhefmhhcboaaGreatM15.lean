/- The walk of step: jumps, boxes, what is put out, what speaks. -/
import Derived.Test.YtekjhefmhhcboaaGreatM14
namespace Go.Proofs.YtekjhefmhhcboaaGreat.Vw
open Go.RowKit Vf Vm
section
variable {β : Type} (E : Env β) (X : Bxs β) (c : Cx) (vB : Value) (N : Nat) (caps : Array Value) (hN : Hid (Hears E c N caps)) (o T : Nat) (L : Lab) (P : Nat → Nat) (w : World) (t : Tk) (x : β) (vR vO : Value) (H : Hid (St E c vB (.func (.func N) #[] caps) o T L P w t x vR vO))
include hN H
end
section
variable {β : Type} {E : Env β} {c : Cx} {vB ev : Value} {o T : Nat} {L L1 : Lab} {P : Nat → Nat} {w w1 w2 : World} {t : Tk} {x : β} {vR vO : Value}
end
section
variable {β : Type} (E : Env β) (X : Bxs β) (c : Cx) (vB : Value) (N : Nat) (caps : Array Value) (hN : Hid (Hears E c N caps)) (o T : Nat) (L : Lab) (P : Nat → Nat) (w : World) (t : Tk) (x : β) (vR vO : Value) (H : Hid (St E c vB (.func (.func N) #[] caps) o T L P w t x vR vO))
include hN H
end
section
variable {β : Type} (E : Env β) (X : Bxs β) (c : Cx) (vB : Value) (N : Nat) (caps : Array Value) (hN : Hid (Hears E c N caps)) (o T : Nat) (L : Lab) (P : Nat → Nat) (w : World) (t : Tk) (x : β) (vR vO : Value) (H : Hid (St E c vB (.func (.func N) #[] caps) o T L P w t x vR vO))
include hN H
end
end Go.Proofs.YtekjhefmhhcboaaGreat.Vw
