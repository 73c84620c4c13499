/- Expressions, by induction on the levels that are left. -/
import Derived.Test.YtlnikpcoejpknaaDoorM26
import Derived.Test.YtlnikpcoejpknaaDoorM27
import Derived.Test.YtlnikpcoejpknaaDoorM18
namespace Go.Proofs.YtlnikpcoejpknaaDoor
open Go.RowKit

theorem ahead_of (E : Env) (G : Good E) (d : Nat) (hX : CExpr E d) (hT : CTurned E d) : CAhead E d :=
  have hK := kids_f E G d (hide2 (kid_f E G d (hide2 hX)))
  ahead_f E G d (hide2 hT) (hide2 (piece_f E G d (hide2 hX) (hide2 hK) (hide2 (exactly1_f E G d (hide2 hX))) (hide2 (exactly2_f E G d (hide2 hX))) (hide2 (named_f E G d (hide2 hK)))))

theorem both_f (E : Env) (G : Good E) : ∀ d, d ≤ 200 → CExpr E d ∧ CAhead E d
  | 0, _ => ⟨expr_none E G, ahead_of E G 0 (expr_none E G) (turned_none E G)⟩
  | d + 1, hd => by
    obtain ⟨_, hA⟩ := both_f E G d (by omega)
    have f0 := from_zero E G d (hide2 hA)
    have f1 := from_succ E G d 0 (by omega) (hide2 f0)
    have f2 := from_succ E G d 1 (by omega) (hide2 f1)
    have f3 := from_succ E G d 2 (by omega) (hide2 f2)
    have f4 := from_succ E G d 3 (by omega) (hide2 f3)
    have f5 := from_succ E G d 4 (by omega) (hide2 f4)
    have hX := expr_more E G d (by omega) (hide2 f5)
    exact ⟨hX, ahead_of E G (d + 1) hX (turned_more E G d (by omega) (hide2 hA))⟩

/-- WHAT reader.expr ANSWERS. -/
theorem expr_f (E : Env) (G : Good E) (d : Nat) (hd : d ≤ 200) : CExpr E d := (both_f E G d hd).1

end Go.Proofs.YtlnikpcoejpknaaDoor

/- The reader as a plain function of tokens: statements, definitions, programs. -/
namespace Go.Proofs.YtlnikpcoejpknaaDoor
open Go.RowKit
namespace Rp

def bgSt (t : Lx.Tk) : Bool := Lx.named t.text.toList || oneOf t.text statW
def bgPm (t : Lx.Tk) : Bool := Lx.named t.text.toList
def bgDf (t : Lx.Tk) : Bool := oneOf t.text defW

/-- An expression, d levels being left. -/
abbrev ex (l : List Lx.Tk) (en d : Nat) (p : Nat) : Res Sy.Ex := expr l en d (prevOf l en d) p
theorem ex_adv (l : List Lx.Tk) (en d : Nat) : Adv l (ex l en d) := expr_adv (prev_adv l en d)

abbrev X0 : Sy.Ex := ⟨0, 0, ⟨#[]⟩, []⟩

def setting (l : List Lx.Tk) (en d : Nat) (kind : Int) (p : Nat) : Res Sy.St :=
  andThen (name l en p) fun q1 s => andThen (want l en ⟨#[61]⟩ q1) fun q2 _ => andThen (ex l en d q2) fun q3 x => andThen (want l en ⟨#[59]⟩ q3) fun q4 _ => .ok (q4, ⟨kind, s, x, [], []⟩)
def saying (l : List Lx.Tk) (en d : Nat) (kind : Int) (p : Nat) : Res Sy.St :=
  andThen (ex l en d p) fun q1 x => andThen (want l en ⟨#[59]⟩ q1) fun q2 _ => .ok (q2, ⟨kind, ⟨#[]⟩, x, [], []⟩)
def choice (l : List Lx.Tk) (en d : Nat) (bd : Nat → Res (List Sy.St)) (p : Nat) : Res Sy.St :=
  andThen (ex l en d p) fun q1 x => andThen (bd q1) fun q2 b => if tk l q2 ⟨#[101, 108, 115, 101]⟩ then andThen (bd (q2 + 1)) fun q3 e => .ok (q3, ⟨3, ⟨#[]⟩, x, b, e⟩) else .ok (q2, ⟨3, ⟨#[]⟩, x, b, []⟩)
def looping (l : List Lx.Tk) (en d : Nat) (bd : Nat → Res (List Sy.St)) (p : Nat) : Res Sy.St :=
  andThen (ex l en d p) fun q1 x => andThen (bd q1) fun q2 b => .ok (q2, ⟨4, ⟨#[]⟩, x, b, []⟩)
def stopping (l : List Lx.Tk) (en : Nat) (p : Nat) : Res Sy.St := andThen (want l en ⟨#[59]⟩ p) fun q _ => .ok (q, ⟨6, ⟨#[]⟩, X0, [], []⟩)
def sending (l : List Lx.Tk) (en d : Nat) (p : Nat) : Res Sy.St :=
  andThen (name l en p) fun q1 s => andThen (ex l en d q1) fun q2 x => andThen (want l en ⟨#[59]⟩ q2) fun q3 _ => .ok (q3, ⟨7, s, x, [], []⟩)

def stat (l : List Lx.Tk) (en d : Nat) (bd : Nat → Res (List Sy.St)) (p : Nat) : Res Sy.St :=
  if tk l p ⟨#[108, 101, 116]⟩ then setting l en d 1 (p + 1)
  else if tk l p ⟨#[105, 102]⟩ then choice l en d bd (p + 1)
  else if tk l p ⟨#[119, 104, 105, 108, 101]⟩ then looping l en d bd (p + 1)
  else if tk l p ⟨#[115, 116, 111, 112]⟩ then stopping l en (p + 1)
  else if tk l p ⟨#[115, 101, 110, 100]⟩ then sending l en d (p + 1)
  else if tk l p ⟨#[114, 101, 116, 117, 114, 110]⟩ then saying l en d 5 (p + 1)
  else if tk l p ⟨#[111, 117, 116]⟩ then saying l en d 8 (p + 1)
  else if tk l p ⟨#[100, 111]⟩ then saying l en d 9 (p + 1)
  else setting l en d 2 p

/-- Statements up to a bracket. -/
def stats (l : List Lx.Tk) (en : Nat) (st : Nat → Res Sy.St) : Nat → List Sy.St → Nat → Res (List Sy.St)
  | 0, out, p => .ok (p, out)
  | f + 1, out, p => if tk l p ⟨#[125]⟩ then .ok (p + 1, out) else match limitL bgSt out.length 50 (pk l p en) p with
    | .error e => .error e
    | .ok _ => andThen (st p) fun q s => stats l en st f (out ++ [s]) q

/-- A body, d levels being left. -/
def body (l : List Lx.Tk) (en : Nat) : Nat → Nat → Res (List Sy.St)
  | 0, p => andThen (want l en ⟨#[123]⟩ p) fun q _ => .error (4, (pk l q en).pos)
  | d + 1, p => andThen (want l en ⟨#[123]⟩ p) fun q _ => stats l en (stat l en d (body l en d)) (l.length + 1) [] q

def typ (l : List Lx.Tk) (en : Nat) (p : Nat) : Res Sy.Ty := match typL l p en with
  | .ok q => .ok (q, tyAt l p en)
  | .error e => .error e
def places (l : List Lx.Tk) (en : Nat) (p : Nat) : Res Int := match placesL l p en with
  | .ok q => .ok (q, (pk l p en).num)
  | .error e => .error e
def param (l : List Lx.Tk) (en : Nat) (p : Nat) : Res Sy.Pm := andThen (name l en p) fun q1 s => andThen (typ l en q1) fun q2 t => .ok (q2, ⟨s, t⟩)
def params (l : List Lx.Tk) (en : Nat) (p : Nat) : Res (List Sy.Pm) := list l en bgPm (param l en) p

abbrev T0 : Sy.Ty := ⟨0, ⟨#[]⟩⟩

def box (l : List Lx.Tk) (en : Nat) (p : Nat) : Res Sy.Df :=
  andThen (want l en ⟨#[98, 111, 120]⟩ p) fun q1 _ => andThen (name l en q1) fun q2 s => andThen (typ l en q2) fun q3 t => andThen (places l en q3) fun q4 n => andThen (want l en ⟨#[59]⟩ q4) fun q5 _ => .ok (q5, ⟨1, s, t, T0, n, [], []⟩)
def function (l : List Lx.Tk) (en : Nat) (p : Nat) : Res Sy.Df :=
  andThen (want l en ⟨#[102, 110]⟩ p) fun q1 _ => andThen (name l en q1) fun q2 s => andThen (params l en q2) fun q3 ps => andThen (typ l en q3) fun q4 t => andThen (body l en 200 q4) fun q5 b => .ok (q5, ⟨2, s, t, T0, 0, ps, b⟩)
def generator (l : List Lx.Tk) (en : Nat) (p : Nat) : Res Sy.Df :=
  andThen (want l en ⟨#[103, 101, 110]⟩ p) fun q1 _ => andThen (name l en q1) fun q2 s => andThen (params l en q2) fun q3 ps => andThen (want l en ⟨#[116, 97, 107, 101, 115]⟩ q3) fun q4 _ => andThen (typ l en q4) fun q5 t =>
    andThen (want l en ⟨#[121, 105, 101, 108, 100, 115]⟩ q5) fun q6 _ => andThen (typ l en q6) fun q7 u => andThen (body l en 200 q7) fun q8 b => .ok (q8, ⟨3, s, u, t, 0, ps, b⟩)
def task (l : List Lx.Tk) (en : Nat) (p : Nat) : Res Sy.Df :=
  andThen (want l en ⟨#[116, 97, 115, 107]⟩ p) fun q1 _ => andThen (name l en q1) fun q2 s => andThen (body l en 200 q2) fun q3 b => .ok (q3, ⟨4, s, T0, T0, 0, [], b⟩)
def df (l : List Lx.Tk) (en : Nat) (p : Nat) : Res Sy.Df :=
  if (pk l p en).text = ⟨#[98, 111, 120]⟩ then box l en p
  else if (pk l p en).text = ⟨#[102, 110]⟩ then function l en p
  else if (pk l p en).text = ⟨#[103, 101, 110]⟩ then generator l en p
  else task l en p

/-- Definitions up to the end. -/
def dfs (l : List Lx.Tk) (en : Nat) : Nat → List Sy.Df → Nat → Res (List Sy.Df)
  | 0, out, p => .ok (p, out)
  | f + 1, out, p => if l.length ≤ p then .ok (p, out) else match limitL bgDf out.length 30 (pk l p en) p with
    | .error e => .error e
    | .ok _ => andThen (df l en p) fun q d => dfs l en f (out ++ [d]) q
def program (l : List Lx.Tk) (en : Nat) : Res (List Sy.Df) := dfs l en (l.length + 1) [] 0

/-! Where the reader then stands. -/

theorem typ_adv (l : List Lx.Tk) (en : Nat) : Adv l (typ l en) := by
  intro p q x hp h
  unfold typ at h
  cases ht : typL l p en with
  | error e => rw [ht] at h; simp at h
  | ok q' =>
    rw [ht] at h
    simp at h
    have := typL_le ht
    omega
theorem places_adv (l : List Lx.Tk) (en : Nat) : Adv l (places l en) := by
  intro p q x hp h
  unfold places at h
  cases ht : placesL l p en with
  | error e => rw [ht] at h; simp at h
  | ok q' =>
    rw [ht] at h
    simp at h
    have := placesL_le ht
    omega

theorem then_adv {α β : Type} {l : List Lx.Tk} {f : Nat → Res α} {g : Nat → α → Res β} (hf : Adv l f) {p q : Nat} {y : β} (hp : p ≤ l.length) (h : andThen (f p) g = .ok (q, y)) : ∃ q1 x, f p = .ok (q1, x) ∧ p < q1 ∧ q1 ≤ l.length ∧ g q1 x = .ok (q, y) := by
  obtain ⟨q1, x, h1, h2⟩ := ok_andThen h
  have := hf p q1 x hp h1
  exact ⟨q1, x, h1, this.1, this.2, h2⟩

theorem setting_adv (l : List Lx.Tk) (en d : Nat) (kind : Int) : Adv l (setting l en d kind) := by
  intro p q x hp h
  obtain ⟨q1, x1, _, a1, b1, h⟩ := then_adv (name_adv l en) hp h
  obtain ⟨q2, x2, _, a2, b2, h⟩ := then_adv (want_adv l en _) b1 h
  obtain ⟨q3, x3, _, a3, b3, h⟩ := then_adv (ex_adv l en d) b2 h
  obtain ⟨q4, x4, _, a4, b4, h⟩ := then_adv (want_adv l en _) b3 h
  simp at h
  omega
theorem saying_adv (l : List Lx.Tk) (en d : Nat) (kind : Int) : Adv l (saying l en d kind) := by
  intro p q x hp h
  obtain ⟨q1, x1, _, a1, b1, h⟩ := then_adv (ex_adv l en d) hp h
  obtain ⟨q2, x2, _, a2, b2, h⟩ := then_adv (want_adv l en _) b1 h
  simp at h
  omega
theorem sending_adv (l : List Lx.Tk) (en d : Nat) : Adv l (sending l en d) := by
  intro p q x hp h
  obtain ⟨q1, x1, _, a1, b1, h⟩ := then_adv (name_adv l en) hp h
  obtain ⟨q2, x2, _, a2, b2, h⟩ := then_adv (ex_adv l en d) b1 h
  obtain ⟨q3, x3, _, a3, b3, h⟩ := then_adv (want_adv l en _) b2 h
  simp at h
  omega
theorem stopping_adv (l : List Lx.Tk) (en : Nat) : Adv l (stopping l en) := by
  intro p q x hp h
  obtain ⟨q1, x1, _, a1, b1, h⟩ := then_adv (want_adv l en _) hp h
  simp at h
  omega
theorem looping_adv {l : List Lx.Tk} {en d : Nat} {bd : Nat → Res (List Sy.St)} (hb : Adv l bd) : Adv l (looping l en d bd) := by
  intro p q x hp h
  obtain ⟨q1, x1, _, a1, b1, h⟩ := then_adv (ex_adv l en d) hp h
  obtain ⟨q2, x2, _, a2, b2, h⟩ := then_adv hb b1 h
  simp at h
  omega
theorem choice_adv {l : List Lx.Tk} {en d : Nat} {bd : Nat → Res (List Sy.St)} (hb : Adv l bd) : Adv l (choice l en d bd) := by
  intro p q x hp h
  obtain ⟨q1, x1, _, a1, b1, h⟩ := then_adv (ex_adv l en d) hp h
  obtain ⟨q2, x2, _, a2, b2, h⟩ := then_adv hb b1 h
  split at h
  · rename_i ht
    obtain ⟨q3, x3, _, a3, b3, h⟩ := then_adv hb (tk_step ht) h
    simp at h
    omega
  · simp at h
    omega
theorem stat_adv {l : List Lx.Tk} {en d : Nat} {bd : Nat → Res (List Sy.St)} (hb : Adv l bd) : Adv l (stat l en d bd) := by
  intro p q x hp h
  unfold stat at h
  split at h
  · rename_i ht; have := setting_adv l en d 1 _ _ _ (tk_step ht) h; omega
  split at h
  · rename_i ht; have := choice_adv hb _ _ _ (tk_step ht) h; omega
  split at h
  · rename_i ht; have := looping_adv hb _ _ _ (tk_step ht) h; omega
  split at h
  · rename_i ht; have := stopping_adv l en _ _ _ (tk_step ht) h; omega
  split at h
  · rename_i ht; have := sending_adv l en d _ _ _ (tk_step ht) h; omega
  split at h
  · rename_i ht; have := saying_adv l en d 5 _ _ _ (tk_step ht) h; omega
  split at h
  · rename_i ht; have := saying_adv l en d 8 _ _ _ (tk_step ht) h; omega
  split at h
  · rename_i ht; have := saying_adv l en d 9 _ _ _ (tk_step ht) h; omega
  exact setting_adv l en d 2 _ _ _ hp h

/-- The end, and how many there are. -/
theorem stats_adv {l : List Lx.Tk} {en : Nat} {st : Nat → Res Sy.St} (hs : Adv l st) : ∀ (f : Nat) (out : List Sy.St) (p q : Nat) (y : List Sy.St), p ≤ l.length → out.length ≤ p → l.length < p + f → stats l en st f out p = .ok (q, y) → p < q ∧ q ≤ l.length ∧ y.length ≤ q
  | 0, out, p, q, y, hp, ho, hf, h => by omega
  | f + 1, out, p, q, y, hp, ho, hf, h => by
    rw [stats] at h
    split at h
    · rename_i ht
      have := tk_step ht
      simp at h
      obtain ⟨rfl, rfl⟩ := h
      omega
    · split at h
      · simp at h
      · obtain ⟨q1, x1, _, a1, b1, h⟩ := then_adv hs hp h
        have := stats_adv hs f _ q1 q y b1 (by simp; omega) (by omega) h
        omega
theorem body_adv (l : List Lx.Tk) (en : Nat) : ∀ d, Adv l (body l en d)
  | 0 => by
    intro p q x hp h
    obtain ⟨q1, x1, _, a1, b1, h⟩ := then_adv (want_adv l en _) hp h
    simp at h
  | d + 1 => by
    intro p q x hp h
    obtain ⟨q1, x1, _, a1, b1, h⟩ := then_adv (want_adv l en _) hp h
    have := stats_adv (stat_adv (body_adv l en d)) _ _ q1 q x b1 (by simp) (by omega) h
    omega
theorem body_len {l : List Lx.Tk} {en d p q : Nat} {y : List Sy.St} (hp : p ≤ l.length) (h : body l en d p = .ok (q, y)) : y.length ≤ l.length := by
  cases d with
  | zero =>
    obtain ⟨q1, x1, _, a1, b1, h⟩ := then_adv (want_adv l en _) hp h
    simp at h
  | succ d =>
    obtain ⟨q1, x1, _, a1, b1, h⟩ := then_adv (want_adv l en _) hp h
    have := stats_adv (stat_adv (body_adv l en d)) _ _ q1 q y b1 (by simp) (by omega) h
    omega
theorem param_adv (l : List Lx.Tk) (en : Nat) : Adv l (param l en) := by
  intro p q x hp h
  obtain ⟨q1, x1, _, a1, b1, h⟩ := then_adv (name_adv l en) hp h
  obtain ⟨q2, x2, _, a2, b2, h⟩ := then_adv (typ_adv l en) b1 h
  simp at h
  omega
theorem params_adv (l : List Lx.Tk) (en : Nat) : Adv l (params l en) := list_adv (param_adv l en)

end Rp
end Go.Proofs.YtlnikpcoejpknaaDoor

