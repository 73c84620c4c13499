/- Whether a module is right, plainly. -/
import Derived.Test.YtlicfdligldhdaaDoorChecked
import Derived.WalkKit
namespace Go.Proofs.YtlicfdligldhdaaDoor
namespace Vf

structure Bx where
  ty : Int
  cap : Int
structure Ins where
  op : Int
  a : Int
  n : Int
structure Un where
  kind : Int
  params : Int
  locals : List Int
  result : Int
  takes : Int
  code : List Ins
structure Md where
  boxes : List Bx
  units : List Un

def plain (t : Int) : Bool := t == 1 || t == 2
def is (m : Md) (kind n : Int) : Bool := decide (0 ≤ n) && (m.units[n.toNat]?).any (fun u => u.kind == kind)

/-- Which locals have something. -/
structure Fl where
  a : BitVec 64
  b : BitVec 64
  c : BitVec 64
  d : BitVec 64
def Fl.eq (f g : Fl) : Bool := f.a == g.a && f.b == g.b && f.c == g.c && f.d == g.d
def Fl.word (f : Fl) (k : Nat) : BitVec 64 := if k = 0 then f.a else if k = 1 then f.b else if k = 2 then f.c else f.d
def Fl.has (f : Fl) (n : Nat) : Bool := (f.word (n / 64)).getLsbD (n % 64)
def Fl.fill (f : Fl) (n : Nat) : Fl :=
  ⟨if n / 64 = 0 then f.a ||| BitVec.twoPow 64 (n % 64) else f.a, if n / 64 = 1 then f.b ||| BitVec.twoPow 64 (n % 64) else f.b, if n / 64 = 2 then f.c ||| BitVec.twoPow 64 (n % 64) else f.c, if n / 64 = 3 then f.d ||| BitVec.twoPow 64 (n % 64) else f.d⟩
def Fl.both (f g : Fl) : Fl := ⟨f.a &&& g.a, f.b &&& g.b, f.c &&& g.c, f.d &&& g.d⟩
def Fl.none : Fl := ⟨0, 0, 0, 0⟩
def Fl.first : Nat → Fl
  | 0 => Fl.none
  | n + 1 => (Fl.first n).fill n

/-- What is known at an instruction: types, the top one first. -/
structure Kn where
  st : List Int
  fl : Fl

def put (t : Int) (st : List Int) : Except Int (List Int) := if st.length + 1 ≤ 300 then .ok (t :: st) else .error 4
def andThen {α β : Type} (r : Except Int α) (f : α → Except Int β) : Except Int β := match r with | .error e => .error e | .ok x => f x
def unit (m : Md) (n : Int) : Un := (m.units[n.toNat]?).getD ⟨0, 0, [], 0, 0, []⟩
def params (m : Md) (n : Int) : List Int := (unit m n).locals.take (unit m n).params.toNat
/-- What is known where; the row. -/
structure S where
  come : Nat → Option Kn
  row : List Nat
def S.note (s : S) (n : Nat) (k : Kn) : S := ⟨fun i => if i = n then some k else s.come i, s.row ++ [n]⟩
def start (u : Un) : S := (⟨fun _ => none, []⟩ : S).note 0 ⟨[], Fl.first u.params.toNat⟩

end Vf
end Go.Proofs.YtlicfdligldhdaaDoor

