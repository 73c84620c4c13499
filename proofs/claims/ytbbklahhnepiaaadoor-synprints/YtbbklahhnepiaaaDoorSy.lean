/- Programs as plain data, and what is wrong with their form; nothing of the program. -/
import Derived.Test.YtbbklahhnepiaaaDoorNm
namespace Go.Proofs.YtbbklahhnepiaaaDoor
namespace Sy

structure Ty where
  kind : Int
  gen : ByteArray
structure Ex where
  kind : Int
  n : Int
  name : ByteArray
  kids : List Ex
structure St where
  kind : Int
  name : ByteArray
  x : Ex
  body : List St
  els : List St
structure Pm where
  name : ByteArray
  ty : Ty
structure Df where
  kind : Int
  name : ByteArray
  ty : Ty
  takes : Ty
  cap : Int
  params : List Pm
  body : List St

def nm (s : ByteArray) : Bool := Lx.named s.toList

/-- One behind the other, each with the count of nodes so far. -/
def runs {α : Type} (f : α → Nat → Except Int Nat) : List α → Nat → Except Int Nat
  | [], n => .ok n
  | a :: l, n => match f a n with
    | .ok m => runs f l m
    | .error e => .error e

/-- What is wrong with a node: its kind, how many kinds there are, how many levels are left, how many nodes there were. -/
def nodeW (kind most : Int) (d n : Nat) : Int := if 2000 < n + 1 ∨ d = 0 then 4 else if kind < 1 ∨ most < kind then 1 else 0

def tyW (t : Ty) : Int := if t.kind < 1 ∨ 3 < t.kind then 1 else if t.kind = 3 ∧ nm t.gen = false then 7 else 0

/-- How many kids a kind has: at least, at most. -/
def least (k : Int) : Int := if k = 1 ∨ k = 2 ∨ k = 3 ∨ k = 20 then 0 else if k = 4 ∨ k = 5 ∨ k = 21 ∨ k = 24 then 1 else if k = 19 ∨ k = 22 then 0 else 2
def most (k : Int) : Int := if k = 1 ∨ k = 2 ∨ k = 3 ∨ k = 20 then 0 else if k = 4 ∨ k = 5 ∨ k = 21 ∨ k = 24 then 1 else if k = 19 ∨ k = 22 then 6 else 2

/-- What is wrong with the head of an expression. -/
def exHead (x : Ex) : Int :=
  if x.kind = 1 ∧ (x.n < 0 ∨ 999999999999999 < x.n) ∨ x.kind = 2 ∧ (x.n < 0 ∨ 1 < x.n) then 3
  else if (x.kind = 3 ∨ x.kind = 19 ∨ x.kind = 20 ∨ x.kind = 22) ∧ nm x.name = false then 7
  else if (x.kids.length : Int) < least x.kind ∨ most x.kind < x.kids.length then 5
  else 0

def exW : Nat → Ex → Nat → Except Int Nat
  | 0, _, _ => .error 4
  | d + 1, x, n =>
    if nodeW x.kind 24 (d + 1) n ≠ 0 then .error (nodeW x.kind 24 (d + 1) n)
    else if exHead x ≠ 0 then .error (exHead x)
    else runs (exW d) x.kids (n + 1)

def bodyOf (f : St → Nat → Except Int Nat) (l : List St) (n : Nat) : Except Int Nat := if 50 < l.length then .error 5 else runs f l n

/-- The rest of a statement behind its expression. -/
def stTail (f : St → Nat → Except Int Nat) (s : St) (m : Nat) : Except Int Nat :=
  if s.kind = 3 ∨ s.kind = 4 then
    match bodyOf f s.body m with
    | .error e => .error e
    | .ok m2 => if s.kind = 3 then bodyOf f s.els m2 else .ok m2
  else .ok m

def stW : Nat → St → Nat → Except Int Nat
  | 0, _, _ => .error 4
  | d + 1, s, n =>
    if nodeW s.kind 9 (d + 1) n ≠ 0 then .error (nodeW s.kind 9 (d + 1) n)
    else if (s.kind = 1 ∨ s.kind = 2 ∨ s.kind = 7) ∧ nm s.name = false then .error 7
    else if s.kind = 6 then .ok (n + 1)
    else match exW d s.x (n + 1) with
      | .error e => .error e
      | .ok m => stTail (stW d) s m

def bodyW (d : Nat) (l : List St) (n : Nat) : Except Int Nat := bodyOf (stW d) l n

/-- Parameter by parameter. -/
def pmsW : List Pm → Int
  | [] => 0
  | p :: l => if nm p.name = false then 7 else if tyW p.ty ≠ 0 then tyW p.ty else pmsW l

/-- What is wrong with a definition ahead of its body. -/
def dfHead (d : Df) (n : Nat) : Int :=
  if nodeW d.kind 4 40 n ≠ 0 then nodeW d.kind 4 40 n
  else if nm d.name = false then 7
  else if (d.kind = 2 ∨ d.kind = 3) ∧ 6 < d.params.length then 5
  else if (d.kind = 2 ∨ d.kind = 3) ∧ pmsW d.params ≠ 0 then pmsW d.params
  else if d.kind = 3 ∧ tyW d.takes ≠ 0 then tyW d.takes
  else if d.kind ≠ 4 ∧ tyW d.ty ≠ 0 then tyW d.ty
  else if d.kind = 1 ∧ (d.cap < 1 ∨ 20 < d.cap) then 3
  else 0

def dfW (d : Df) (n : Nat) : Except Int Nat :=
  if dfHead d n ≠ 0 then .error (dfHead d n) else if d.kind = 1 then .ok (n + 1) else bodyW 39 d.body (n + 1)

/-- Definition by definition: the error, and at which. -/
def defsW : List Df → Nat → Nat → Int × Nat
  | [], _, _ => (0, 0)
  | d :: l, i, n => match dfW d n with
    | .error e => (e, i)
    | .ok m => defsW l (i + 1) m

def wrongL (l : List Df) : Int × Nat := if 30 < l.length then (5, 0) else defsW l 0 0

theorem nodeW_zero {kind most : Int} {d n : Nat} (h : nodeW kind most d n = 0) : n + 1 ≤ 2000 ∧ 1 ≤ kind ∧ kind ≤ most ∧ d ≠ 0 := by
  unfold nodeW at h
  split at h
  · omega
  · split at h
    · omega
    · omega

theorem runs_le {α : Type} {f : α → Nat → Except Int Nat} (hf : ∀ a n m, n ≤ 2000 → f a n = .ok m → m ≤ 2000) : ∀ (l : List α) (n m : Nat), n ≤ 2000 → runs f l n = .ok m → m ≤ 2000
  | [], n, m, hn, h => by simp [runs] at h; omega
  | a :: l, n, m, hn, h => by
    unfold runs at h
    cases ha : f a n with
    | error e => rw [ha] at h; simp at h
    | ok k => rw [ha] at h; exact runs_le hf l k m (hf a n k hn ha) h

theorem exW_le : ∀ (d : Nat) (x : Ex) (n m : Nat), n ≤ 2000 → exW d x n = .ok m → m ≤ 2000
  | 0, x, n, m, _, h => by simp [exW] at h
  | d + 1, x, n, m, hn, h => by
    unfold exW at h
    split at h
    · simp at h
    · rename_i h0
      have := nodeW_zero (by simpa using h0 : nodeW x.kind 24 (d + 1) n = 0)
      split at h
      · simp at h
      · exact runs_le (exW_le d) _ _ _ (by omega) h

theorem bodyOf_le {f : St → Nat → Except Int Nat} (hf : ∀ a n m, n ≤ 2000 → f a n = .ok m → m ≤ 2000) {l : List St} {n m : Nat} (hn : n ≤ 2000) (h : bodyOf f l n = .ok m) : m ≤ 2000 := by
  unfold bodyOf at h
  split at h
  · simp at h
  · exact runs_le hf _ _ _ hn h

theorem stW_le : ∀ (d : Nat) (x : St) (n m : Nat), n ≤ 2000 → stW d x n = .ok m → m ≤ 2000
  | 0, x, n, m, _, h => by simp [stW] at h
  | d + 1, x, n, m, hn, h => by
    unfold stW at h
    split at h
    · simp at h
    · rename_i h0
      have := nodeW_zero (by simpa using h0 : nodeW x.kind 9 (d + 1) n = 0)
      split at h
      · simp at h
      · split at h
        · simp at h; omega
        · cases he : exW d x.x (n + 1) with
          | error e => rw [he] at h; simp at h
          | ok k =>
            rw [he] at h
            have hk := exW_le _ _ _ _ (by omega) he
            simp only [stTail] at h
            split at h
            · cases hb : bodyOf (stW d) x.body k with
              | error e => rw [hb] at h; simp at h
              | ok k2 =>
                rw [hb] at h
                have hk2 := bodyOf_le (stW_le d) hk hb
                simp only at h
                split at h
                · exact bodyOf_le (stW_le d) hk2 h
                · simp at h; omega
            · simp at h; omega

theorem runs_at {α : Type} {f : α → Nat → Except Int Nat} {l : List α} {k : Nat} {a : α} (h : l[k]? = some a) (n : Nat) :
    runs f (l.drop k) n = match f a n with
      | .ok m => runs f (l.drop (k + 1)) m
      | .error e => .error e := by
  obtain ⟨hk, rfl⟩ := List.getElem?_eq_some_iff.1 h
  rw [List.drop_eq_getElem_cons hk]
  rfl

end Sy
end Go.Proofs.YtbbklahhnepiaaaDoor
