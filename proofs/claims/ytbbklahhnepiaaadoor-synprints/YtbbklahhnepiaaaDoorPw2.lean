/- Programs as words. -/
import Derived.Test.YtbbklahhnepiaaaDoorPm
import Derived.Lib.ItoaNum
namespace Go.Proofs.YtbbklahhnepiaaaDoor
open Go.RowKit
namespace Sy

/-- A list's things, a comma ahead of all but the first. -/
def listT {α : Type} (f : α → List ByteArray) : Nat → List α → List ByteArray
  | _, [] => []
  | i, a :: l => (if 0 < i then [⟨#[44]⟩] else []) ++ f a ++ listT f (i + 1) l

def tyT (t : Ty) : List ByteArray := [if t.kind = 1 then ⟨#[110, 117, 109]⟩ else if t.kind = 2 then ⟨#[98, 111, 111, 108]⟩ else t.gen]

def numT (n : Int) : ByteArray := ⟨(Go.Lib.itoa n).toArray⟩
def truthT (n : Int) : ByteArray := if n = 1 then ⟨#[116, 114, 117, 101]⟩ else ⟨#[102, 97, 108, 115, 101]⟩

/-- In brackets, if it binds more weakly than level. -/
def brT (f : Ex → List ByteArray) (level : Int) (x : Ex) : List ByteArray := if level ≤ levelOf x.kind then f x else [⟨#[40]⟩] ++ f x ++ [⟨#[41]⟩]
def callT (f : Ex → List ByteArray) (ahead : List ByteArray) (kids : List Ex) : List ByteArray := ahead ++ [⟨#[40]⟩] ++ listT f 0 kids ++ [⟨#[41]⟩]

def exT : Nat → Ex → List ByteArray
  | 0, _ => []
  | d + 1, x =>
    if 0 < lev x.kind then
      match x.kids with
      | a :: b :: _ => brT (exT d) (if lev x.kind = 3 then 4 else lev x.kind) a ++ [sign x.kind] ++ brT (exT d) (lev x.kind + 1) b
      | _ => []
    else if x.kind = 1 then [numT x.n]
    else if x.kind = 2 then [truthT x.n]
    else if x.kind = 3 then [x.name]
    else if x.kind = 4 then [⟨#[45]⟩] ++ brT (exT d) 6 (x.kids.headD ⟨0, 0, ⟨#[]⟩, []⟩)
    else if x.kind = 5 then [⟨#[110, 111, 116]⟩] ++ brT (exT d) 6 (x.kids.headD ⟨0, 0, ⟨#[]⟩, []⟩)
    else if x.kind = 19 then callT (exT d) [x.name] x.kids
    else if x.kind = 20 then [⟨#[114, 101, 99, 118]⟩, ⟨#[40]⟩, x.name, ⟨#[41]⟩]
    else if x.kind = 21 then callT (exT d) [⟨#[121, 105, 101, 108, 100]⟩] x.kids
    else if x.kind = 22 then callT (exT d) [⟨#[115, 116, 97, 114, 116]⟩, x.name] x.kids
    else if x.kind = 23 then callT (exT d) [⟨#[114, 101, 115, 117, 109, 101]⟩] x.kids
    else callT (exT d) [⟨#[97, 108, 105, 118, 101]⟩] x.kids

/-- A body, each statement by f. -/
def bodyT (f : St → List ByteArray) (l : List St) : List ByteArray := [⟨#[123]⟩] ++ l.flatMap f ++ [⟨#[125]⟩]

def stT : Nat → St → List ByteArray
  | 0, _ => []
  | d + 1, s =>
    if s.kind = 1 then [⟨#[108, 101, 116]⟩, s.name, ⟨#[61]⟩] ++ exT d s.x ++ [⟨#[59]⟩]
    else if s.kind = 2 then [s.name, ⟨#[61]⟩] ++ exT d s.x ++ [⟨#[59]⟩]
    else if s.kind = 3 then [⟨#[105, 102]⟩] ++ exT d s.x ++ bodyT (stT d) s.body ++ (if s.els.length = 0 then [] else [⟨#[101, 108, 115, 101]⟩] ++ bodyT (stT d) s.els)
    else if s.kind = 4 then [⟨#[119, 104, 105, 108, 101]⟩] ++ exT d s.x ++ bodyT (stT d) s.body
    else if s.kind = 5 then [⟨#[114, 101, 116, 117, 114, 110]⟩] ++ exT d s.x ++ [⟨#[59]⟩]
    else if s.kind = 6 then [⟨#[115, 116, 111, 112]⟩, ⟨#[59]⟩]
    else if s.kind = 7 then [⟨#[115, 101, 110, 100]⟩, s.name] ++ exT d s.x ++ [⟨#[59]⟩]
    else if s.kind = 8 then [⟨#[111, 117, 116]⟩] ++ exT d s.x ++ [⟨#[59]⟩]
    else [⟨#[100, 111]⟩] ++ exT d s.x ++ [⟨#[59]⟩]

def pmT (p : Pm) : List ByteArray := [p.name] ++ tyT p.ty
def pmsT (l : List Pm) : List ByteArray := [⟨#[40]⟩] ++ listT pmT 0 l ++ [⟨#[41]⟩]

def dfT (d : Df) : List ByteArray :=
  if d.kind = 1 then [⟨#[98, 111, 120]⟩, d.name] ++ tyT d.ty ++ [numT d.cap, ⟨#[59]⟩]
  else if d.kind = 2 then [⟨#[102, 110]⟩, d.name] ++ pmsT d.params ++ tyT d.ty ++ bodyT (stT 39) d.body
  else if d.kind = 3 then [⟨#[103, 101, 110]⟩, d.name] ++ pmsT d.params ++ [⟨#[116, 97, 107, 101, 115]⟩] ++ tyT d.takes ++ [⟨#[121, 105, 101, 108, 100, 115]⟩] ++ tyT d.ty ++ bodyT (stT 39) d.body
  else [⟨#[116, 97, 115, 107]⟩, d.name] ++ bodyT (stT 39) d.body

def progT (l : List Df) : List ByteArray := l.flatMap dfT

/-- What a look that found nothing says of an expression. -/
def ExOk : Nat → Ex → Prop
  | 0, _ => False
  | d + 1, x => 1 ≤ x.kind ∧ x.kind ≤ 24 ∧ exHead x = 0 ∧ ∀ k ∈ x.kids, ExOk d k

theorem runs_mem {α : Type} {f : α → Nat → Except Int Nat} {l : List α} : ∀ {n m : Nat}, runs f l n = .ok m → ∀ a ∈ l, ∃ i j, f a i = .ok j := by
  induction l with
  | nil => intro n m _ a ha; cases ha
  | cons b l ih =>
    intro n m h a ha
    unfold runs at h
    cases hb : f b n with
    | error e => rw [hb] at h; simp at h
    | ok k =>
      rw [hb] at h
      rcases List.mem_cons.1 ha with rfl | ha
      · exact ⟨n, k, hb⟩
      · exact ih h a ha

theorem exOk_of : ∀ (d : Nat) (x : Ex) (n m : Nat), exW d x n = .ok m → ExOk d x
  | 0, _, _, _, h => by simp [exW] at h
  | d + 1, x, n, m, h => by
    unfold exW at h
    split at h
    · simp at h
    · rename_i h0
      have hz := nodeW_zero (by simpa using h0 : nodeW x.kind 24 (d + 1) n = 0)
      split at h
      · simp at h
      · rename_i h1
        exact ⟨hz.2.1, hz.2.2.1, by simpa using h1, fun k hk => by
          obtain ⟨i, j, hij⟩ := runs_mem h k hk
          exact exOk_of d k i j hij⟩

end Sy

/-- What comes of a piece of printing. -/
def Puts (P Bs : Nat) (mv : Value) (ws out : List ByteArray) (w : World) (e : Ending) (w' : World) : Prop := e = .returned (.tuple #[]) ∧ PR w' P Bs (ws ++ out) mv ∧ Fr P Bs w w'

theorem Fr.drew {P Bs : Nat} {w w' : World} (h : Fr P Bs w w') : Fr P Bs w w'.drew := ⟨h.os, h.tape, h.output, h.size, h.block⟩
theorem PR.drew {w : World} {P Bs : Nat} {ws : List ByteArray} {mv : Value} (h : PR w P Bs ws mv) : PR w.drew P Bs ws mv := h

theorem Puts.trans {P Bs : Nat} {mv : Value} {ws o1 o2 : List ByteArray} {w w1 w2 : World} {e1 e2 : Ending} (h : Puts P Bs mv ws o1 w e1 w1) (k : Puts P Bs mv (ws ++ o1) o2 w1 e2 w2) : Puts P Bs mv ws (o1 ++ o2) w e2 w2 :=
  ⟨k.1, by rw [← List.append_assoc]; exact k.2.1, h.2.2.trans k.2.2⟩

theorem put_lit (P Bs : Nat) (ws xs : List ByteArray) (mv : Value) (c N : Nat) (w : World) (hN : w.heap.size = N) (hPR : Hid (PR w P Bs ws mv)) (hPB : P < Bs) (hBs : Bs ≤ w.heap.size) (hn : ws.length + xs.length ≤ 1000000) :
    Calls Tryd.prog 19 #[.pointer (some ⟨P, 0, none⟩), .slice (some ⟨N, 0, none⟩) xs.length c] (w.alloc (.cells (xs.map Value.string).toArray 9)) fun e w' => Puts P Bs mv ws xs w e w' := by
  subst hN
  refine (put_any P Bs ws xs mv ⟨w.heap.size, 0, none⟩ c _ (hPR.out.alloc _) hPB (by simp; omega) ?_ hn).mono ?_
  · intro j x hx
    have : (⟨w.heap.size, 0, none⟩ : Addr).add j = ⟨w.heap.size, j, none⟩ := by unfold Addr.add; split <;> simp_all
    rw [this, World.cell?_alloc_mark]
    simp [hx]
  · rintro e w' ⟨h1, h2, h3⟩
    exact ⟨h1, h2, (Fr.alloc P Bs w _).trans h3⟩

theorem put_litD (P Bs : Nat) (ws xs : List ByteArray) (mv : Value) (c N : Nat) (w : World) (hN : w.heap.size = N) (hPR : Hid (PR w P Bs ws mv)) (hPB : P < Bs) (hBs : Bs ≤ w.heap.size) (hn : ws.length + xs.length ≤ 1000000) :
    Calls Tryd.prog 19 #[.pointer (some ⟨P, 0, none⟩), .slice (some ⟨N, 0, none⟩) xs.length c] (w.alloc (.cells (xs.map Value.string).toArray 9)).drew fun e w' => Puts P Bs mv ws xs w e w' := by
  subst hN
  refine (put_any P Bs ws xs mv ⟨w.heap.size, 0, none⟩ c _ (hPR.out.alloc _).drew hPB (by show Bs ≤ (w.alloc _).heap.size; simp; omega) ?_ hn).mono ?_
  · intro j x hx
    have : (⟨w.heap.size, 0, none⟩ : Addr).add j = ⟨w.heap.size, j, none⟩ := by unfold Addr.add; split <;> simp_all
    rw [this]
    show (w.alloc _).cell? _ = _
    rw [World.cell?_alloc_mark]
    simp [hx]
  · rintro e w' ⟨h1, h2, h3⟩
    exact ⟨h1, h2, (Fr.alloc P Bs w _).drew.trans h3⟩

end Go.Proofs.YtbbklahhnepiaaaDoor
