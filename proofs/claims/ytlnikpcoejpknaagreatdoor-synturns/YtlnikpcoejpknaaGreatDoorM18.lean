/- The reader as a plain function of tokens: statements, definitions, programs. -/
import Derived.Test.YtlnikpcoejpknaaGreatDoorM12
import Derived.Lib.ItoaNum
import Derived.Test.YtlnikpcoejpknaaGreatDoorM17
namespace Go.Proofs.YtlnikpcoejpknaaGreatDoor
open Go.RowKit
namespace Rp

def bgSt (t : Lx.Tk) : Bool := Lx.named t.text.toList || oneOf t.text statW
def bgPm (t : Lx.Tk) : Bool := Lx.named t.text.toList
def bgDf (t : Lx.Tk) : Bool := oneOf t.text defW

/-- An expression, d levels being left. -/
abbrev ex (l : List Lx.Tk) (en d : Nat) (p : Nat) : Res Sy.Ex := expr l en d (prevOf l en d) p
theorem ex_adv (l : List Lx.Tk) (en d : Nat) : Adv l (ex l en d) := expr_adv (prev_adv l en d)

abbrev X0 : Sy.Ex := ⟨0, 0, ⟨#[]⟩, []⟩

def setting (l : List Lx.Tk) (en d : Nat) (kind : Int) (p : Nat) : Res Sy.St :=
  andThen (name l en p) fun q1 s => andThen (want l en ⟨#[61]⟩ q1) fun q2 _ => andThen (ex l en d q2) fun q3 x => andThen (want l en ⟨#[59]⟩ q3) fun q4 _ => .ok (q4, ⟨kind, s, x, [], []⟩)
def saying (l : List Lx.Tk) (en d : Nat) (kind : Int) (p : Nat) : Res Sy.St :=
  andThen (ex l en d p) fun q1 x => andThen (want l en ⟨#[59]⟩ q1) fun q2 _ => .ok (q2, ⟨kind, ⟨#[]⟩, x, [], []⟩)
def choice (l : List Lx.Tk) (en d : Nat) (bd : Nat → Res (List Sy.St)) (p : Nat) : Res Sy.St :=
  andThen (ex l en d p) fun q1 x => andThen (bd q1) fun q2 b => if tk l q2 ⟨#[101, 108, 115, 101]⟩ then andThen (bd (q2 + 1)) fun q3 e => .ok (q3, ⟨3, ⟨#[]⟩, x, b, e⟩) else .ok (q2, ⟨3, ⟨#[]⟩, x, b, []⟩)
def looping (l : List Lx.Tk) (en d : Nat) (bd : Nat → Res (List Sy.St)) (p : Nat) : Res Sy.St :=
  andThen (ex l en d p) fun q1 x => andThen (bd q1) fun q2 b => .ok (q2, ⟨4, ⟨#[]⟩, x, b, []⟩)
def stopping (l : List Lx.Tk) (en : Nat) (p : Nat) : Res Sy.St := andThen (want l en ⟨#[59]⟩ p) fun q _ => .ok (q, ⟨6, ⟨#[]⟩, X0, [], []⟩)
def sending (l : List Lx.Tk) (en d : Nat) (p : Nat) : Res Sy.St :=
  andThen (name l en p) fun q1 s => andThen (ex l en d q1) fun q2 x => andThen (want l en ⟨#[59]⟩ q2) fun q3 _ => .ok (q3, ⟨7, s, x, [], []⟩)

def stat (l : List Lx.Tk) (en d : Nat) (bd : Nat → Res (List Sy.St)) (p : Nat) : Res Sy.St :=
  if tk l p ⟨#[108, 101, 116]⟩ then setting l en d 1 (p + 1)
  else if tk l p ⟨#[105, 102]⟩ then choice l en d bd (p + 1)
  else if tk l p ⟨#[119, 104, 105, 108, 101]⟩ then looping l en d bd (p + 1)
  else if tk l p ⟨#[115, 116, 111, 112]⟩ then stopping l en (p + 1)
  else if tk l p ⟨#[115, 101, 110, 100]⟩ then sending l en d (p + 1)
  else if tk l p ⟨#[114, 101, 116, 117, 114, 110]⟩ then saying l en d 5 (p + 1)
  else if tk l p ⟨#[111, 117, 116]⟩ then saying l en d 8 (p + 1)
  else if tk l p ⟨#[100, 111]⟩ then saying l en d 9 (p + 1)
  else setting l en d 2 p

/-- Statements up to a bracket. -/
def stats (l : List Lx.Tk) (en : Nat) (st : Nat → Res Sy.St) : Nat → List Sy.St → Nat → Res (List Sy.St)
  | 0, out, p => .ok (p, out)
  | f + 1, out, p => if tk l p ⟨#[125]⟩ then .ok (p + 1, out) else match limitL bgSt out.length 50 (pk l p en) p with
    | .error e => .error e
    | .ok _ => andThen (st p) fun q s => stats l en st f (out ++ [s]) q

/-- A body, d levels being left. -/
def body (l : List Lx.Tk) (en : Nat) : Nat → Nat → Res (List Sy.St)
  | 0, p => andThen (want l en ⟨#[123]⟩ p) fun q _ => .error (4, (pk l q en).pos)
  | d + 1, p => andThen (want l en ⟨#[123]⟩ p) fun q _ => stats l en (stat l en d (body l en d)) (l.length + 1) [] q

def typ (l : List Lx.Tk) (en : Nat) (p : Nat) : Res Sy.Ty := match typL l p en with
  | .ok q => .ok (q, tyAt l p en)
  | .error e => .error e
def places (l : List Lx.Tk) (en : Nat) (p : Nat) : Res Int := match placesL l p en with
  | .ok q => .ok (q, (pk l p en).num)
  | .error e => .error e
def param (l : List Lx.Tk) (en : Nat) (p : Nat) : Res Sy.Pm := andThen (name l en p) fun q1 s => andThen (typ l en q1) fun q2 t => .ok (q2, ⟨s, t⟩)
def params (l : List Lx.Tk) (en : Nat) (p : Nat) : Res (List Sy.Pm) := list l en bgPm (param l en) p

abbrev T0 : Sy.Ty := ⟨0, ⟨#[]⟩⟩

def box (l : List Lx.Tk) (en : Nat) (p : Nat) : Res Sy.Df :=
  andThen (want l en ⟨#[98, 111, 120]⟩ p) fun q1 _ => andThen (name l en q1) fun q2 s => andThen (typ l en q2) fun q3 t => andThen (places l en q3) fun q4 n => andThen (want l en ⟨#[59]⟩ q4) fun q5 _ => .ok (q5, ⟨1, s, t, T0, n, [], []⟩)
def function (l : List Lx.Tk) (en : Nat) (p : Nat) : Res Sy.Df :=
  andThen (want l en ⟨#[102, 110]⟩ p) fun q1 _ => andThen (name l en q1) fun q2 s => andThen (params l en q2) fun q3 ps => andThen (typ l en q3) fun q4 t => andThen (body l en 200 q4) fun q5 b => .ok (q5, ⟨2, s, t, T0, 0, ps, b⟩)
def generator (l : List Lx.Tk) (en : Nat) (p : Nat) : Res Sy.Df :=
  andThen (want l en ⟨#[103, 101, 110]⟩ p) fun q1 _ => andThen (name l en q1) fun q2 s => andThen (params l en q2) fun q3 ps => andThen (want l en ⟨#[116, 97, 107, 101, 115]⟩ q3) fun q4 _ => andThen (typ l en q4) fun q5 t =>
    andThen (want l en ⟨#[121, 105, 101, 108, 100, 115]⟩ q5) fun q6 _ => andThen (typ l en q6) fun q7 u => andThen (body l en 200 q7) fun q8 b => .ok (q8, ⟨3, s, u, t, 0, ps, b⟩)
def task (l : List Lx.Tk) (en : Nat) (p : Nat) : Res Sy.Df :=
  andThen (want l en ⟨#[116, 97, 115, 107]⟩ p) fun q1 _ => andThen (name l en q1) fun q2 s => andThen (body l en 200 q2) fun q3 b => .ok (q3, ⟨4, s, T0, T0, 0, [], b⟩)
def df (l : List Lx.Tk) (en : Nat) (p : Nat) : Res Sy.Df :=
  if (pk l p en).text = ⟨#[98, 111, 120]⟩ then box l en p
  else if (pk l p en).text = ⟨#[102, 110]⟩ then function l en p
  else if (pk l p en).text = ⟨#[103, 101, 110]⟩ then generator l en p
  else task l en p

/-- Definitions up to the end. -/
def dfs (l : List Lx.Tk) (en : Nat) : Nat → List Sy.Df → Nat → Res (List Sy.Df)
  | 0, out, p => .ok (p, out)
  | f + 1, out, p => if l.length ≤ p then .ok (p, out) else match limitL bgDf out.length 30 (pk l p en) p with
    | .error e => .error e
    | .ok _ => andThen (df l en p) fun q d => dfs l en f (out ++ [d]) q
def program (l : List Lx.Tk) (en : Nat) : Res (List Sy.Df) := dfs l en (l.length + 1) [] 0

/-! Where the reader then stands. -/

theorem typ_adv (l : List Lx.Tk) (en : Nat) : Adv l (typ l en) := by
  intro p q x hp h
  unfold typ at h
  cases ht : typL l p en with
  | error e => rw [ht] at h; simp at h
  | ok q' =>
    rw [ht] at h
    simp at h
    have := typL_le ht
    omega
theorem places_adv (l : List Lx.Tk) (en : Nat) : Adv l (places l en) := by
  intro p q x hp h
  unfold places at h
  cases ht : placesL l p en with
  | error e => rw [ht] at h; simp at h
  | ok q' =>
    rw [ht] at h
    simp at h
    have := placesL_le ht
    omega

theorem then_adv {α β : Type} {l : List Lx.Tk} {f : Nat → Res α} {g : Nat → α → Res β} (hf : Adv l f) {p q : Nat} {y : β} (hp : p ≤ l.length) (h : andThen (f p) g = .ok (q, y)) : ∃ q1 x, f p = .ok (q1, x) ∧ p < q1 ∧ q1 ≤ l.length ∧ g q1 x = .ok (q, y) := by
  obtain ⟨q1, x, h1, h2⟩ := ok_andThen h
  have := hf p q1 x hp h1
  exact ⟨q1, x, h1, this.1, this.2, h2⟩

theorem setting_adv (l : List Lx.Tk) (en d : Nat) (kind : Int) : Adv l (setting l en d kind) := by
  intro p q x hp h
  obtain ⟨q1, x1, _, a1, b1, h⟩ := then_adv (name_adv l en) hp h
  obtain ⟨q2, x2, _, a2, b2, h⟩ := then_adv (want_adv l en _) b1 h
  obtain ⟨q3, x3, _, a3, b3, h⟩ := then_adv (ex_adv l en d) b2 h
  obtain ⟨q4, x4, _, a4, b4, h⟩ := then_adv (want_adv l en _) b3 h
  simp at h
  omega
theorem saying_adv (l : List Lx.Tk) (en d : Nat) (kind : Int) : Adv l (saying l en d kind) := by
  intro p q x hp h
  obtain ⟨q1, x1, _, a1, b1, h⟩ := then_adv (ex_adv l en d) hp h
  obtain ⟨q2, x2, _, a2, b2, h⟩ := then_adv (want_adv l en _) b1 h
  simp at h
  omega
theorem sending_adv (l : List Lx.Tk) (en d : Nat) : Adv l (sending l en d) := by
  intro p q x hp h
  obtain ⟨q1, x1, _, a1, b1, h⟩ := then_adv (name_adv l en) hp h
  obtain ⟨q2, x2, _, a2, b2, h⟩ := then_adv (ex_adv l en d) b1 h
  obtain ⟨q3, x3, _, a3, b3, h⟩ := then_adv (want_adv l en _) b2 h
  simp at h
  omega
theorem stopping_adv (l : List Lx.Tk) (en : Nat) : Adv l (stopping l en) := by
  intro p q x hp h
  obtain ⟨q1, x1, _, a1, b1, h⟩ := then_adv (want_adv l en _) hp h
  simp at h
  omega
theorem looping_adv {l : List Lx.Tk} {en d : Nat} {bd : Nat → Res (List Sy.St)} (hb : Adv l bd) : Adv l (looping l en d bd) := by
  intro p q x hp h
  obtain ⟨q1, x1, _, a1, b1, h⟩ := then_adv (ex_adv l en d) hp h
  obtain ⟨q2, x2, _, a2, b2, h⟩ := then_adv hb b1 h
  simp at h
  omega
theorem choice_adv {l : List Lx.Tk} {en d : Nat} {bd : Nat → Res (List Sy.St)} (hb : Adv l bd) : Adv l (choice l en d bd) := by
  intro p q x hp h
  obtain ⟨q1, x1, _, a1, b1, h⟩ := then_adv (ex_adv l en d) hp h
  obtain ⟨q2, x2, _, a2, b2, h⟩ := then_adv hb b1 h
  split at h
  · rename_i ht
    obtain ⟨q3, x3, _, a3, b3, h⟩ := then_adv hb (tk_step ht) h
    simp at h
    omega
  · simp at h
    omega
theorem stat_adv {l : List Lx.Tk} {en d : Nat} {bd : Nat → Res (List Sy.St)} (hb : Adv l bd) : Adv l (stat l en d bd) := by
  intro p q x hp h
  unfold stat at h
  split at h
  · rename_i ht; have := setting_adv l en d 1 _ _ _ (tk_step ht) h; omega
  split at h
  · rename_i ht; have := choice_adv hb _ _ _ (tk_step ht) h; omega
  split at h
  · rename_i ht; have := looping_adv hb _ _ _ (tk_step ht) h; omega
  split at h
  · rename_i ht; have := stopping_adv l en _ _ _ (tk_step ht) h; omega
  split at h
  · rename_i ht; have := sending_adv l en d _ _ _ (tk_step ht) h; omega
  split at h
  · rename_i ht; have := saying_adv l en d 5 _ _ _ (tk_step ht) h; omega
  split at h
  · rename_i ht; have := saying_adv l en d 8 _ _ _ (tk_step ht) h; omega
  split at h
  · rename_i ht; have := saying_adv l en d 9 _ _ _ (tk_step ht) h; omega
  exact setting_adv l en d 2 _ _ _ hp h

/-- The end, and how many there are. -/
theorem stats_adv {l : List Lx.Tk} {en : Nat} {st : Nat → Res Sy.St} (hs : Adv l st) : ∀ (f : Nat) (out : List Sy.St) (p q : Nat) (y : List Sy.St), p ≤ l.length → out.length ≤ p → l.length < p + f → stats l en st f out p = .ok (q, y) → p < q ∧ q ≤ l.length ∧ y.length ≤ q
  | 0, out, p, q, y, hp, ho, hf, h => by omega
  | f + 1, out, p, q, y, hp, ho, hf, h => by
    rw [stats] at h
    split at h
    · rename_i ht
      have := tk_step ht
      simp at h
      obtain ⟨rfl, rfl⟩ := h
      omega
    · split at h
      · simp at h
      · obtain ⟨q1, x1, _, a1, b1, h⟩ := then_adv hs hp h
        have := stats_adv hs f _ q1 q y b1 (by simp; omega) (by omega) h
        omega
theorem body_adv (l : List Lx.Tk) (en : Nat) : ∀ d, Adv l (body l en d)
  | 0 => by
    intro p q x hp h
    obtain ⟨q1, x1, _, a1, b1, h⟩ := then_adv (want_adv l en _) hp h
    simp at h
  | d + 1 => by
    intro p q x hp h
    obtain ⟨q1, x1, _, a1, b1, h⟩ := then_adv (want_adv l en _) hp h
    have := stats_adv (stat_adv (body_adv l en d)) _ _ q1 q x b1 (by simp) (by omega) h
    omega
theorem param_adv (l : List Lx.Tk) (en : Nat) : Adv l (param l en) := by
  intro p q x hp h
  obtain ⟨q1, x1, _, a1, b1, h⟩ := then_adv (name_adv l en) hp h
  obtain ⟨q2, x2, _, a2, b2, h⟩ := then_adv (typ_adv l en) b1 h
  simp at h
  omega
theorem params_adv (l : List Lx.Tk) (en : Nat) : Adv l (params l en) := list_adv (param_adv l en)

end Rp
end Go.Proofs.YtlnikpcoejpknaaGreatDoor

/- Programs as words. -/
namespace Go.Proofs.YtlnikpcoejpknaaGreatDoor
open Go.RowKit
namespace Sy

/-- A list's things, a comma ahead of all but the first. -/
def listT {α : Type} (f : α → List ByteArray) : Nat → List α → List ByteArray
  | _, [] => []
  | i, a :: l => (if 0 < i then [⟨#[44]⟩] else []) ++ f a ++ listT f (i + 1) l

def tyT (t : Ty) : List ByteArray := [if t.kind = 1 then ⟨#[110, 117, 109]⟩ else if t.kind = 2 then ⟨#[98, 111, 111, 108]⟩ else t.gen]

def numT (n : Int) : ByteArray := ⟨(Go.Lib.itoa n).toArray⟩
def truthT (n : Int) : ByteArray := if n = 1 then ⟨#[116, 114, 117, 101]⟩ else ⟨#[102, 97, 108, 115, 101]⟩

/-- In brackets, if it binds more weakly than level. -/
def brT (f : Ex → List ByteArray) (level : Int) (x : Ex) : List ByteArray := if level ≤ levelOf x.kind then f x else [⟨#[40]⟩] ++ f x ++ [⟨#[41]⟩]
def callT (f : Ex → List ByteArray) (ahead : List ByteArray) (kids : List Ex) : List ByteArray := ahead ++ [⟨#[40]⟩] ++ listT f 0 kids ++ [⟨#[41]⟩]

def exT : Nat → Ex → List ByteArray
  | 0, _ => []
  | d + 1, x =>
    if 0 < lev x.kind then
      match x.kids with
      | a :: b :: _ => brT (exT d) (if lev x.kind = 3 then 4 else lev x.kind) a ++ [sign x.kind] ++ brT (exT d) (lev x.kind + 1) b
      | _ => []
    else if x.kind = 1 then [numT x.n]
    else if x.kind = 2 then [truthT x.n]
    else if x.kind = 3 then [x.name]
    else if x.kind = 4 then [⟨#[45]⟩] ++ brT (exT d) 6 (x.kids.headD ⟨0, 0, ⟨#[]⟩, []⟩)
    else if x.kind = 5 then [⟨#[110, 111, 116]⟩] ++ brT (exT d) 6 (x.kids.headD ⟨0, 0, ⟨#[]⟩, []⟩)
    else if x.kind = 19 then callT (exT d) [x.name] x.kids
    else if x.kind = 20 then [⟨#[114, 101, 99, 118]⟩, ⟨#[40]⟩, x.name, ⟨#[41]⟩]
    else if x.kind = 21 then callT (exT d) [⟨#[121, 105, 101, 108, 100]⟩] x.kids
    else if x.kind = 22 then callT (exT d) [⟨#[115, 116, 97, 114, 116]⟩, x.name] x.kids
    else if x.kind = 23 then callT (exT d) [⟨#[114, 101, 115, 117, 109, 101]⟩] x.kids
    else callT (exT d) [⟨#[97, 108, 105, 118, 101]⟩] x.kids

/-- A body, each statement by f. -/
def bodyT (f : St → List ByteArray) (l : List St) : List ByteArray := [⟨#[123]⟩] ++ l.flatMap f ++ [⟨#[125]⟩]

def stT : Nat → St → List ByteArray
  | 0, _ => []
  | d + 1, s =>
    if s.kind = 1 then [⟨#[108, 101, 116]⟩, s.name, ⟨#[61]⟩] ++ exT d s.x ++ [⟨#[59]⟩]
    else if s.kind = 2 then [s.name, ⟨#[61]⟩] ++ exT d s.x ++ [⟨#[59]⟩]
    else if s.kind = 3 then [⟨#[105, 102]⟩] ++ exT d s.x ++ bodyT (stT d) s.body ++ (if s.els.length = 0 then [] else [⟨#[101, 108, 115, 101]⟩] ++ bodyT (stT d) s.els)
    else if s.kind = 4 then [⟨#[119, 104, 105, 108, 101]⟩] ++ exT d s.x ++ bodyT (stT d) s.body
    else if s.kind = 5 then [⟨#[114, 101, 116, 117, 114, 110]⟩] ++ exT d s.x ++ [⟨#[59]⟩]
    else if s.kind = 6 then [⟨#[115, 116, 111, 112]⟩, ⟨#[59]⟩]
    else if s.kind = 7 then [⟨#[115, 101, 110, 100]⟩, s.name] ++ exT d s.x ++ [⟨#[59]⟩]
    else if s.kind = 8 then [⟨#[111, 117, 116]⟩] ++ exT d s.x ++ [⟨#[59]⟩]
    else [⟨#[100, 111]⟩] ++ exT d s.x ++ [⟨#[59]⟩]

def pmT (p : Pm) : List ByteArray := [p.name] ++ tyT p.ty
def pmsT (l : List Pm) : List ByteArray := [⟨#[40]⟩] ++ listT pmT 0 l ++ [⟨#[41]⟩]

def dfT (d : Df) : List ByteArray :=
  if d.kind = 1 then [⟨#[98, 111, 120]⟩, d.name] ++ tyT d.ty ++ [numT d.cap, ⟨#[59]⟩]
  else if d.kind = 2 then [⟨#[102, 110]⟩, d.name] ++ pmsT d.params ++ tyT d.ty ++ bodyT (stT 39) d.body
  else if d.kind = 3 then [⟨#[103, 101, 110]⟩, d.name] ++ pmsT d.params ++ [⟨#[116, 97, 107, 101, 115]⟩] ++ tyT d.takes ++ [⟨#[121, 105, 101, 108, 100, 115]⟩] ++ tyT d.ty ++ bodyT (stT 39) d.body
  else [⟨#[116, 97, 115, 107]⟩, d.name] ++ bodyT (stT 39) d.body

def progT (l : List Df) : List ByteArray := l.flatMap dfT

/-- What a look that found nothing says of an expression. -/
def ExOk : Nat → Ex → Prop
  | 0, _ => False
  | d + 1, x => 1 ≤ x.kind ∧ x.kind ≤ 24 ∧ exHead x = 0 ∧ ∀ k ∈ x.kids, ExOk d k

theorem runs_mem {α : Type} {f : α → Nat → Except Int Nat} {l : List α} : ∀ {n m : Nat}, runs f l n = .ok m → ∀ a ∈ l, ∃ i j, f a i = .ok j := by
  induction l with
  | nil => intro n m _ a ha; cases ha
  | cons b l ih =>
    intro n m h a ha
    unfold runs at h
    cases hb : f b n with
    | error e => rw [hb] at h; simp at h
    | ok k =>
      rw [hb] at h
      rcases List.mem_cons.1 ha with rfl | ha
      · exact ⟨n, k, hb⟩
      · exact ih h a ha

theorem exOk_of : ∀ (d : Nat) (x : Ex) (n m : Nat), exW d x n = .ok m → ExOk d x
  | 0, _, _, _, h => by simp [exW] at h
  | d + 1, x, n, m, h => by
    unfold exW at h
    split at h
    · simp at h
    · rename_i h0
      have hz := nodeW_zero (by simpa using h0 : nodeW x.kind 24 (d + 1) n = 0)
      split at h
      · simp at h
      · rename_i h1
        exact ⟨hz.2.1, hz.2.2.1, by simpa using h1, fun k hk => by
          obtain ⟨i, j, hij⟩ := runs_mem h k hk
          exact exOk_of d k i j hij⟩

end Sy

/-- What comes of a piece of printing. -/
def Puts (P Bs : Nat) (mv : Value) (ws out : List ByteArray) (w : World) (e : Ending) (w' : World) : Prop := e = .returned (.tuple #[]) ∧ PR w' P Bs (ws ++ out) mv ∧ Fr P Bs w w'

theorem Fr.drew {P Bs : Nat} {w w' : World} (h : Fr P Bs w w') : Fr P Bs w w'.drew := ⟨h.os, h.tape, h.output, h.size, h.block⟩
theorem PR.drew {w : World} {P Bs : Nat} {ws : List ByteArray} {mv : Value} (h : PR w P Bs ws mv) : PR w.drew P Bs ws mv := h

theorem Puts.trans {P Bs : Nat} {mv : Value} {ws o1 o2 : List ByteArray} {w w1 w2 : World} {e1 e2 : Ending} (h : Puts P Bs mv ws o1 w e1 w1) (k : Puts P Bs mv (ws ++ o1) o2 w1 e2 w2) : Puts P Bs mv ws (o1 ++ o2) w e2 w2 :=
  ⟨k.1, by rw [← List.append_assoc]; exact k.2.1, h.2.2.trans k.2.2⟩

theorem put_lit (P Bs : Nat) (ws xs : List ByteArray) (mv : Value) (c N : Nat) (w : World) (hN : w.heap.size = N) (hPR : Hid (PR w P Bs ws mv)) (hPB : P < Bs) (hBs : Bs ≤ w.heap.size) (hn : ws.length + xs.length ≤ 1000000) :
    Calls Tryz.prog 49 #[.pointer (some ⟨P, 0, none⟩), .slice (some ⟨N, 0, none⟩) xs.length c] (w.alloc (.cells (xs.map Value.string).toArray 9)) fun e w' => Puts P Bs mv ws xs w e w' := by
  subst hN
  refine (put_any P Bs ws xs mv ⟨w.heap.size, 0, none⟩ c _ (hPR.out.alloc _) hPB (by simp; omega) ?_ hn).mono ?_
  · intro j x hx
    have : (⟨w.heap.size, 0, none⟩ : Addr).add j = ⟨w.heap.size, j, none⟩ := by unfold Addr.add; split <;> simp_all
    rw [this, World.cell?_alloc_mark]
    simp [hx]
  · rintro e w' ⟨h1, h2, h3⟩
    exact ⟨h1, h2, (Fr.alloc P Bs w _).trans h3⟩

theorem put_litD (P Bs : Nat) (ws xs : List ByteArray) (mv : Value) (c N : Nat) (w : World) (hN : w.heap.size = N) (hPR : Hid (PR w P Bs ws mv)) (hPB : P < Bs) (hBs : Bs ≤ w.heap.size) (hn : ws.length + xs.length ≤ 1000000) :
    Calls Tryz.prog 49 #[.pointer (some ⟨P, 0, none⟩), .slice (some ⟨N, 0, none⟩) xs.length c] (w.alloc (.cells (xs.map Value.string).toArray 9)).drew fun e w' => Puts P Bs mv ws xs w e w' := by
  subst hN
  refine (put_any P Bs ws xs mv ⟨w.heap.size, 0, none⟩ c _ (hPR.out.alloc _).drew hPB (by show Bs ≤ (w.alloc _).heap.size; simp; omega) ?_ hn).mono ?_
  · intro j x hx
    have : (⟨w.heap.size, 0, none⟩ : Addr).add j = ⟨w.heap.size, j, none⟩ := by unfold Addr.add; split <;> simp_all
    rw [this]
    show (w.alloc _).cell? _ = _
    rw [World.cell?_alloc_mark]
    simp [hx]
  · rintro e w' ⟨h1, h2, h3⟩
    exact ⟨h1, h2, (Fr.alloc P Bs w _).drew.trans h3⟩

end Go.Proofs.YtlnikpcoejpknaaGreatDoor

/- What is written is read: expressions. -/
namespace Go.Proofs.YtlnikpcoejpknaaGreatDoor
open Go.RowKit
namespace Sy

/-- An expression with what its kind has alone. -/
def exB : Nat → Ex → Ex
  | 0, x => x
  | d + 1, x => ⟨x.kind, if x.kind = 1 ∨ x.kind = 2 then x.n else 0, if x.kind = 3 ∨ x.kind = 19 ∨ x.kind = 20 ∨ x.kind = 22 then x.name else ⟨#[]⟩, x.kids.map (exB d)⟩

theorem lev_bin {k : Int} (h : 0 < lev k) : (k = 18 ∨ k = 17 ∨ (11 ≤ k ∧ k ≤ 16) ∨ k = 6 ∨ k = 7 ∨ (8 ≤ k ∧ k ≤ 10)) ∧ lev k ≤ 5 := by
  unfold lev at h ⊢
  repeat' split at h
  all_goals first | omega | (constructor; omega; repeat' split) <;> omega

theorem sign_lev {k : Int} (h : 0 < lev k) : Rp.sign (sign k) = (k, lev k) := by
  have hk := (lev_bin h).1
  have hc : k = 6 ∨ k = 7 ∨ k = 8 ∨ k = 9 ∨ k = 10 ∨ k = 11 ∨ k = 12 ∨ k = 13 ∨ k = 14 ∨ k = 15 ∨ k = 16 ∨ k = 17 ∨ k = 18 := by omega
  rcases hc with rfl | rfl | rfl | rfl | rfl | rfl | rfl | rfl | rfl | rfl | rfl | rfl | rfl <;> decide

/-- A kind with two kids. -/
theorem two_kids {x : Ex} (h : exHead x = 0) (hl : 0 < lev x.kind ∨ x.kind = 23) : ∃ a b, x.kids = [a, b] := by
  have hk : 0 < lev x.kind → _ := fun h => (lev_bin h).1
  unfold exHead at h
  split at h
  · omega
  split at h
  · omega
  split at h
  · omega
  rename_i h3
  have hn : x.kids.length = 2 := by
    unfold least most at h3
    have h1 : ¬ (x.kind = 1 ∨ x.kind = 2 ∨ x.kind = 3 ∨ x.kind = 20) := by omega
    have h2 : ¬ (x.kind = 4 ∨ x.kind = 5 ∨ x.kind = 21 ∨ x.kind = 24) := by omega
    have h4 : ¬ (x.kind = 19 ∨ x.kind = 22) := by omega
    rw [if_neg h1, if_neg h2, if_neg h4, if_neg h1, if_neg h2, if_neg h4] at h3
    omega
  match hks : x.kids with
  | [a, b] => exact ⟨a, b, rfl⟩
  | [] => rw [hks] at hn; simp at hn
  | [a] => rw [hks] at hn; simp at hn
  | a :: b :: c :: r => rw [hks] at hn; simp at hn
theorem one_kid {x : Ex} (h : exHead x = 0) (hl : x.kind = 4 ∨ x.kind = 5 ∨ x.kind = 21 ∨ x.kind = 24) : ∃ a, x.kids = [a] := by
  unfold exHead at h
  split at h
  · omega
  split at h
  · omega
  split at h
  · omega
  rename_i h3
  have hn : x.kids.length = 1 := by
    unfold least most at h3
    have h1 : ¬ (x.kind = 1 ∨ x.kind = 2 ∨ x.kind = 3 ∨ x.kind = 20) := by omega
    rw [if_neg h1, if_pos hl, if_neg h1, if_pos hl] at h3
    omega
  match hks : x.kids with
  | [a] => exact ⟨a, rfl⟩
  | [] => rw [hks] at hn; simp at hn
  | a :: b :: r => rw [hks] at hn; simp at hn
theorem no_kids {x : Ex} (h : exHead x = 0) (hl : x.kind = 1 ∨ x.kind = 2 ∨ x.kind = 3 ∨ x.kind = 20) : x.kids = [] := by
  unfold exHead at h
  split at h
  · omega
  split at h
  · omega
  split at h
  · omega
  rename_i h3
  unfold least most at h3
  rw [if_pos hl, if_pos hl] at h3
  exact List.eq_nil_of_length_eq_zero (by omega)
theorem few_kids {x : Ex} (h : exHead x = 0) (hl : x.kind = 19 ∨ x.kind = 22) : x.kids.length ≤ 6 := by
  unfold exHead at h
  split at h
  · omega
  split at h
  · omega
  split at h
  · omega
  rename_i h3
  unfold least most at h3
  have h1 : ¬ (x.kind = 1 ∨ x.kind = 2 ∨ x.kind = 3 ∨ x.kind = 20) := by omega
  have h2 : ¬ (x.kind = 4 ∨ x.kind = 5 ∨ x.kind = 21 ∨ x.kind = 24) := by omega
  rw [if_neg h1, if_neg h2, if_pos hl, if_neg h1, if_neg h2, if_pos hl] at h3
  omega

end Sy

namespace Rp
section
variable {l : List Lx.Tk} {en : Nat}

theorem then_ok {α β : Type} {r : Res α} {q : Nat} {x : α} {f : Nat → α → Res β} (h : r = .ok (q, x)) : andThen r f = f q x := by rw [h]; rfl

/-- Words stand among the tokens, from p on. -/
def At (l : List Lx.Tk) (p : Nat) (ws : List ByteArray) : Prop := ∀ i w, ws[i]? = some w → ∃ t, l[p + i]? = some t ∧ Lx.tri t = Lx.triW w

theorem at_app {p : Nat} {a b : List ByteArray} (h : At l p (a ++ b)) : At l p a ∧ At l (p + a.length) b :=
  ⟨fun i w hi => h i w (by rw [List.getElem?_append_left (List.getElem?_eq_some_iff.1 hi).1]; exact hi),
   fun i w hi => by
    have := h (a.length + i) w (by rw [List.getElem?_append_right (by omega), Nat.add_sub_cancel_left]; exact hi)
    rwa [← Nat.add_assoc] at this⟩

/-- A word at p. -/
structure Wd (l : List Lx.Tk) (en p : Nat) (w : ByteArray) : Prop where
  text : (pk l p en).text = w
  kind : (pk l p en).kind = Lx.kd w
  num : (pk l p en).num = Lx.nu w
  tk : ∀ s, tk l p s = decide (w = s)
  lt : p < l.length

theorem at_cons {p : Nat} {w : ByteArray} {ws : List ByteArray} (h : At l p (w :: ws)) : Wd l en p w ∧ At l (p + 1) ws := by
  refine ⟨?_, fun i v hi => by
    have := h (i + 1) v (by simpa using hi)
    rwa [show p + (i + 1) = p + 1 + i by omega] at this⟩
  obtain ⟨t, ht, e⟩ := h 0 w rfl
  rw [Nat.add_zero] at ht
  simp only [Lx.tri, Lx.triW, Prod.mk.injEq] at e
  obtain ⟨e1, e2, e3⟩ := e
  have hp : pk l p en = t := by unfold pk; rw [ht]; rfl
  exact ⟨by rw [hp, e2], by rw [hp, e1], by rw [hp, e3], fun s => by unfold Go.Proofs.YtlnikpcoejpknaaGreatDoor.tk; rw [ht]; simp only [e2], (List.getElem?_eq_some_iff.1 ht).1⟩

theorem wd_want {p : Nat} {w : ByteArray} (h : Wd l en p w) : want l en w p = .ok (p + 1, ()) := by
  unfold want wantL
  rw [h.tk]
  simp
theorem wd_name {p : Nat} {w : ByteArray} (h : Wd l en p w) (hn : Sy.nm w = true) (hk : Lx.kd w = 1) : name l en p = .ok (p + 1, w) := by
  unfold name nameL
  rw [h.kind, h.text, hk]
  have : Lx.named w.toList = true := hn
  simp [this]

/-- How strongly what comes next binds; and no bracket opens there. -/
def Fol (l : List Lx.Tk) (en q : Nat) (L : Int) : Prop := (sign (pk l q en).text).2 < L ∧ (pk l q en).text ≠ ⟨#[40]⟩

theorem Fol.mono {q : Nat} {L L' : Int} (h : Fol l en q L) (hL : L ≤ L') : Fol l en q L' := ⟨by have := h.1; omega, h.2⟩
theorem wd_fol {p : Nat} {w : ByteArray} (h : Wd l en p w) {L : Int} (h1 : (sign w).2 < L) (h2 : w ≠ ⟨#[40]⟩) : Fol l en p L := ⟨by rw [h.text]; exact h1, by rw [h.text]; exact h2⟩

/-- What is read ahead of all signs is read so by every level, if a weaker sign follows. -/
theorem from_pass {ah : Nat → Res Sy.Ex} {p q : Nat} {x : Sy.Ex} (h : ah p = .ok (q, x)) : ∀ k : Nat, k ≤ 5 → (sign (pk l q en).text).2 < 6 - (k : Int) → from' l en ah k p = .ok (q, x)
  | 0, _, _ => h
  | k + 1, hk, hs => by
    rw [from', from_pass h k (by omega) (by omega)]
    show loop l en _ (5 - k) (l.length + 1) x q = _
    rw [loop, if_pos (by omega)]

/-- An expression that is written is read. -/
def Mx (l : List Lx.Tk) (en d : Nat) (x : Sy.Ex) : Prop := ∀ D k p : Nat, 2 * d ≤ D → k ≤ 5 → 6 - (k : Int) ≤ Sy.levelOf x.kind → At l p (Sy.exT d x) → Fol l en (p + (Sy.exT d x).length) (6 - k) → from' l en (ahead l en D) k p = .ok (p + (Sy.exT d x).length, Sy.exB d x)
/-- As the beginning of a row of signs of one level. -/
def Cx (l : List Lx.Tk) (en d : Nat) (x : Sy.Ex) : Prop := ∀ D k p F : Nat, 2 * d ≤ D → k ≤ 4 → k ≠ 2 → 5 - (k : Int) ≤ Sy.levelOf x.kind → At l p (Sy.exT d x) → Fol l en (p + (Sy.exT d x).length) (6 - k) → l.length < p + F →
  ∃ F', l.length < p + (Sy.exT d x).length + F' ∧ andThen (from' l en (ahead l en D) k p) (fun q z => loop l en (from' l en (ahead l en D) k) (5 - k) F z q) = loop l en (from' l en (ahead l en D) k) (5 - k) F' (Sy.exB d x) (p + (Sy.exT d x).length)

theorem levelOf_pos (k : Int) : 1 ≤ Sy.levelOf k ∧ Sy.levelOf k ≤ 6 := by
  unfold Sy.levelOf
  split
  · rename_i h; have := (Sy.lev_bin h).2; omega
  · omega
theorem sign_le (t : ByteArray) : (sign t).2 ≤ 5 := by
  unfold sign
  split
  · rename_i x h
    have hm := List.mem_of_find?_eq_some h
    have : ∀ x ∈ Sy.table, x.2.2 ≤ 5 := by decide
    exact this x hm
  · decide

/-- In brackets. -/
theorem br_ahead {d : Nat} {x : Sy.Ex} (hM : Mx l en d x) {D p : Nat} (hD : 2 * d + 1 ≤ D) (h : At l p ([⟨#[40]⟩] ++ Sy.exT d x ++ [⟨#[41]⟩])) : ahead l en D p = .ok (p + (Sy.exT d x).length + 2, Sy.exB d x) := by
  obtain ⟨h1, h2⟩ := at_app h
  rw [List.singleton_append] at h1
  obtain ⟨w1, h1⟩ := at_cons (en := en) h1
  have hl2 : ([(⟨#[40]⟩ : ByteArray)] ++ Sy.exT d x).length = 1 + (Sy.exT d x).length := by simp; omega
  rw [hl2] at h2
  obtain ⟨w2, _⟩ := at_cons (en := en) h2
  rw [← Nat.add_assoc] at w2
  have hD0 : D ≠ 0 := by omega
  rw [ahead_eq]
  unfold aheadS piece
  have e1 := w1.tk ⟨#[45]⟩
  have e2 := w1.tk ⟨#[110, 111, 116]⟩
  have e3 := w1.tk ⟨#[40]⟩
  have k1 : Lx.kd ⟨#[40]⟩ = 3 := by decide
  rw [e1, e2, e3, w1.kind, k1]
  rw [if_neg (by decide), if_neg (by decide), if_neg (by decide), if_pos (by decide)]
  have hx : expr l en D (prevOf l en D) (p + 1) = .ok (p + 1 + (Sy.exT d x).length, Sy.exB d x) := by
    unfold expr
    rw [if_neg hD0]
    obtain ⟨D', rfl⟩ : ∃ D', D = D' + 1 := ⟨D - 1, by omega⟩
    exact hM D' 5 (p + 1) (by omega) (by omega) (by have := (levelOf_pos x.kind).1; omega) h1 (wd_fol w2 (by decide) (by decide))
  refine (then_ok hx).trans ?_
  refine (then_ok (wd_want w2)).trans ?_
  rw [show p + 1 + (Sy.exT d x).length + 1 = p + (Sy.exT d x).length + 2 by omega]

end
end Rp
end Go.Proofs.YtlnikpcoejpknaaGreatDoor

