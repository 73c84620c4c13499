/- The walk of step: a local comes on top; WHAT A STEP LEAVES. -/
import Derived.Test.YtekjhefmhhcboaaGreatM15
namespace Go.Proofs.YtekjhefmhhcboaaGreat.Vw
open Go.RowKit Vf Vm
section
variable {β : Type} (E : Env β) (X : Bxs β) (c : Cx) (vB : Value) (N : Nat) (caps : Array Value) (hN : Hid (Hears E c N caps)) (o T : Nat) (L : Lab) (P : Nat → Nat) (w : World) (t : Tk) (x : β) (vR vO : Value) (H : Hid (St E c vB (.func (.func N) #[] caps) o T L P w t x vR vO))
include hN H
end
structure AtOk (c : Cx) (t : Tk) (f : Wk) (rs : List Wk) (u : Un) (i : Ins) : Prop where
 fs : t.top.fs = f :: rs
 un : c.m.units[f.u]? = some u
 code : u.code[f.pc]? = some i
 box : i.op = 26 ∨ i.op = 27 → ∃ n : Nat, i.a = n ∧ n < c.m.boxes.length
theorem AtOk.ins {c : Cx} {t : Tk} {f : Wk} {rs : List Wk} {u : Un} {i : Ins} (h : AtOk c t f rs u i) : t.ins c.m = i := by
 have e : t.frame = f := by simp [Tk.frame, h.fs]
 simp [Tk.ins, e, unit_of h.un, h.code]
section
variable {β : Type} (E : Env β) (X : Bxs β) (c : Cx) (vB ev : Value) (o T : Nat) (L : Lab) (P : Nat → Nat) (w : World) (t : Tk) (x : β) (vR vO : Value) (H : Hid (St E c vB ev o T L P w t x vR vO))
include H
end
section
variable {β : Type} (E : Env β) (X : Bxs β) (c : Cx) (vB ev : Value) (o T : Nat) (L : Lab) (P : Nat → Nat) (w : World) (t : Tk) (x : β) (vR vO : Value) (H : Hid (St E c vB ev o T L P w t x vR vO))
include H
end
end Go.Proofs.YtekjhefmhhcboaaGreat.Vw
