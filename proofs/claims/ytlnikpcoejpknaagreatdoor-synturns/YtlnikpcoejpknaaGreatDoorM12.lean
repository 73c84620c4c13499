/- The walk of pairsByKind; the map in later worlds. -/
import Derived.Test.YtlnikpcoejpknaaGreatDoorM11
import Derived.Deep.LoopGhost
import Derived.Test.YtlnikpcoejpknaaGreatDoorM8
namespace Go.Proofs.YtlnikpcoejpknaaGreatDoor
open Go.RowKit

/-- The table as the program's variable holds it: 39 cells. -/
def tableCells : List Value := Sy.table.flatMap fun p => [.int .i64 p.1, .string p.2.1, .int .i64 p.2.2]

/-- The package-level variable holds the table. -/
def TabK (w : World) (G : Nat) : Prop := ∃ fr, w.heap[G]? = some (.cells tableCells.toArray 88 fr)

theorem upd_run (M k : Nat) (w : World) (p : Int × ByteArray × Int) (hp : Sy.table[k]? = some p) (h : w.heap[M]? = some (.map (entries.take k).toArray k)) :
    (Instr.mapUpdate 67 (.map (some M)) (.int .i64 p.1) (pairV p)).run Tryz.prog w = .ok () { w with heap := w.heap.setIfInBounds M (.map (entries.take (k + 1)).toArray (k + 1)) } := by
  have hg : (getObj M).run Tryz.prog w = .ok (.map (entries.take k).toArray k) w := by simp [getObj, Sem.run, h]
  have hc : ∀ b, (Instr.checkKey b 10000 3 (.int .i64 p.1)).run Tryz.prog w = .ok () w := fun b => MapKept.run_checkKey (n := 9999) Tryz.underlying3 (by simp [MapKept.IsKey]) b
  have hu := run_underlying (w := w) Tryz.underlying67
  have hk13 : k < 13 := by have := (List.getElem?_eq_some_iff.1 hp).1; simpa [Sy.table] using this
  have hf : Instr.findNow (.int .i64) (.int .i64 p.1) (entries.take k) 0 = some none := by
    rcases (show k = 0 ∨ k = 1 ∨ k = 2 ∨ k = 3 ∨ k = 4 ∨ k = 5 ∨ k = 6 ∨ k = 7 ∨ k = 8 ∨ k = 9 ∨ k = 10 ∨ k = 11 ∨ k = 12 by omega) with rfl | rfl | rfl | rfl | rfl | rfl | rfl | rfl | rfl | rfl | rfl | rfl | rfl <;>
      (simp only [Sy.table, List.getElem?_cons_zero, List.getElem?_cons_succ, Option.some.injEq] at hp; subst hp; rfl)
  have he : (entries.take (k + 1)) = entries.take k ++ [{ key := .int .i64 p.1, val := pairV p, born := k }] := by
    rcases (show k = 0 ∨ k = 1 ∨ k = 2 ∨ k = 3 ∨ k = 4 ∨ k = 5 ∨ k = 6 ∨ k = 7 ∨ k = 8 ∨ k = 9 ∨ k = 10 ∨ k = 11 ∨ k = 12 by omega) with rfl | rfl | rfl | rfl | rfl | rfl | rfl | rfl | rfl | rfl | rfl | rfl | rfl <;>
      (simp only [Sy.table, List.getElem?_cons_zero, List.getElem?_cons_succ, Option.some.injEq] at hp; subst hp; rfl)
  have hk := MapKept.run_findKey (P := Tryz.prog) (w := w) (kt := 3) Tryz.underlying3 hf
  have hs := MapKept.run_setObj_map (P := Tryz.prog) (.map (entries.take (k + 1)).toArray (k + 1)) h
  rw [he] at hs
  simp [Instr.mapUpdate, hu, hg, hc, hk, hs, he]

theorem TabK.keep {w w' : World} {G B : Nat} (h : TabK w G) (hb : Below B w w') (hG : G < B) : TabK w' G := h.elim fun fr h => ⟨fr, (hb.block G hG).trans h⟩

theorem TabK.lt {w : World} {G : Nat} (h : TabK w G) : G < w.heap.size := h.elim fun _ h => lt_of_block h

theorem index_table (k : Nat) (p : Int × ByteArray × Int) (hp : Sy.table[k]? = some p) (w : World) : (Instr.index 88 (.agg tableCells.toArray) (.int .i64 (k : Int))).run Tryz.prog w = .ok (pairV p) w := by
  have hk13 : k < 13 := by have := (List.getElem?_eq_some_iff.1 hp).1; simpa [Sy.table] using this
  rcases (show k = 0 ∨ k = 1 ∨ k = 2 ∨ k = 3 ∨ k = 4 ∨ k = 5 ∨ k = 6 ∨ k = 7 ∨ k = 8 ∨ k = 9 ∨ k = 10 ∨ k = 11 ∨ k = 12 by omega) with rfl | rfl | rfl | rfl | rfl | rfl | rfl | rfl | rfl | rfl | rfl | rfl | rfl <;>
    (simp only [Sy.table, List.getElem?_cons_zero, List.getElem?_cons_succ, Option.some.injEq] at hp; subst hp; simp [Instr.index, go_sem, tableCells, Sy.table, part])

theorem map_set {w : World} {M : Nat} {o o' : Obj} (h : w.heap[M]? = some o) (B : Nat) (hB : B ≤ M) : ({ w with heap := w.heap.setIfInBounds M o' } : World).heap[M]? = some o' ∧ Below B w { w with heap := w.heap.setIfInBounds M o' } := by
  obtain ⟨h1, h2⟩ := MapKept.heap_set (o' := o') h
  exact ⟨h1, rfl, rfl, rfl, by simp, fun k hk => h2 k (by omega)⟩

end Go.Proofs.YtlnikpcoejpknaaGreatDoor

/- The reader as a plain function of tokens: expressions. -/
namespace Go.Proofs.YtlnikpcoejpknaaGreatDoor
open Go.RowKit

/-- Something, and where the reader then stands; or a fault. -/
abbrev Res (α : Type) := Except (Int × Nat) (Nat × α)

namespace Rp

def bytes (l : List UInt8) : ByteArray := ⟨l.toArray⟩

/-- Something behind something. -/
def andThen {α β : Type} (r : Res α) (f : Nat → α → Res β) : Res β := match r with
  | .ok (q, x) => f q x
  | .error e => .error e

/-- A sign, or a word. -/
def want (l : List Lx.Tk) (en : Nat) (s : ByteArray) (p : Nat) : Res Unit := match wantL l p en s with
  | .ok q => .ok (q, ())
  | .error e => .error e
def name (l : List Lx.Tk) (en : Nat) (p : Nat) : Res ByteArray := match nameL l p en with
  | .ok q => .ok (q, (pk l p en).text)
  | .error e => .error e

/-- The kind and the level of a sign between two. -/
def sign (t : ByteArray) : Int × Int := match Sy.table.find? (fun x => decide (x.2.1 = t)) with
  | some x => (x.1, x.2.2)
  | none => (0, 0)

/-- Signs of one level, one behind the other. -/
def loop (l : List Lx.Tk) (en : Nat) (next : Nat → Res Sy.Ex) (level : Int) : Nat → Sy.Ex → Nat → Res Sy.Ex
  | 0, x, p => .ok (p, x)
  | f + 1, x, p =>
    if (sign (pk l p en).text).2 ≠ level then .ok (p, x)
    else andThen (next (p + 1)) fun q y =>
      if level = 3 then .ok (q, ⟨(sign (pk l p en).text).1, 0, ⟨#[]⟩, [x, y]⟩)
      else loop l en next level f ⟨(sign (pk l p en).text).1, 0, ⟨#[]⟩, [x, y]⟩ q

/-- Expressions whose signs bind at least as strongly as level 6 - k says. -/
def from' (l : List Lx.Tk) (en : Nat) (ah : Nat → Res Sy.Ex) : Nat → Nat → Res Sy.Ex
  | 0, p => ah p
  | k + 1, p => andThen (from' l en ah k p) fun q x => loop l en (from' l en ah k) (5 - k) (l.length + 1) x q

/-- Up to six things in brackets. -/
def items {α : Type} (l : List Lx.Tk) (en : Nat) (bg : Lx.Tk → Bool) (one : Nat → Res α) : Nat → List α → Nat → Res (List α)
  | 0, out, p => .ok (p, out)
  | f + 1, out, p => match limitL bg out.length 6 (pk l p en) p with
    | .error e => .error e
    | .ok _ => andThen (one p) fun q x =>
      if tk l q ⟨#[41]⟩ then .ok (q + 1, out ++ [x])
      else andThen (want l en ⟨#[44]⟩ q) fun q2 _ => items l en bg one f (out ++ [x]) q2
def list {α : Type} (l : List Lx.Tk) (en : Nat) (bg : Lx.Tk → Bool) (one : Nat → Res α) (p : Nat) : Res (List α) :=
  andThen (want l en ⟨#[40]⟩ p) fun q _ => if tk l q ⟨#[41]⟩ then .ok (q + 1, []) else items l en bg one (l.length + 1) [] q

def bgEx (t : Lx.Tk) : Bool := decide (t.kind = 2) || (Lx.named t.text.toList || oneOf t.text exprW)

/-- An expression of those that count as open, d levels being left; prev: what is read one level further in. -/
def expr (l : List Lx.Tk) (en d : Nat) (prev : Nat → Res Sy.Ex) (p : Nat) : Res Sy.Ex := if d = 0 then .error (4, (pk l p en).pos) else from' l en prev 5 p

def turned (l : List Lx.Tk) (en d : Nat) (prev : Nat → Res Sy.Ex) (kind : Int) (p : Nat) : Res Sy.Ex :=
  if d = 0 then .error (4, (pk l p en).pos) else andThen (prev p) fun q y => .ok (q, ⟨kind, 0, ⟨#[]⟩, [y]⟩)

def kids (l : List Lx.Tk) (en d : Nat) (prev : Nat → Res Sy.Ex) (p : Nat) : Res (List Sy.Ex) := list l en bgEx (expr l en d prev) p

def receiving (l : List Lx.Tk) (en p : Nat) : Res Sy.Ex :=
  andThen (want l en ⟨#[40]⟩ p) fun q1 _ => andThen (name l en q1) fun q2 s => andThen (want l en ⟨#[41]⟩ q2) fun q3 _ => .ok (q3, ⟨20, 0, s, []⟩)

def named (l : List Lx.Tk) (en d : Nat) (prev : Nat → Res Sy.Ex) (p : Nat) : Res Sy.Ex :=
  andThen (name l en p) fun q s => if (pk l q en).text = ⟨#[40]⟩ then andThen (kids l en d prev q) fun q2 ks => .ok (q2, ⟨19, 0, s, ks⟩) else .ok (q, ⟨3, 0, s, []⟩)

def exactly1 (l : List Lx.Tk) (en d : Nat) (prev : Nat → Res Sy.Ex) (p : Nat) : Res (List Sy.Ex) :=
  andThen (want l en ⟨#[40]⟩ p) fun q1 _ => andThen (expr l en d prev q1) fun q2 x => andThen (want l en ⟨#[41]⟩ q2) fun q3 _ => .ok (q3, [x])
def exactly2 (l : List Lx.Tk) (en d : Nat) (prev : Nat → Res Sy.Ex) (p : Nat) : Res (List Sy.Ex) :=
  andThen (want l en ⟨#[40]⟩ p) fun q1 _ => andThen (expr l en d prev q1) fun q2 x => andThen (want l en ⟨#[44]⟩ q2) fun q3 _ =>
    andThen (expr l en d prev q3) fun q4 y => andThen (want l en ⟨#[41]⟩ q4) fun q5 _ => .ok (q5, [x, y])

def piece (l : List Lx.Tk) (en d : Nat) (prev : Nat → Res Sy.Ex) (p : Nat) : Res Sy.Ex :=
  if (pk l p en).kind = 2 then .ok (p + 1, ⟨1, (pk l p en).num, ⟨#[]⟩, []⟩)
  else if tk l p ⟨#[40]⟩ then andThen (expr l en d prev (p + 1)) fun q x => andThen (want l en ⟨#[41]⟩ q) fun q2 _ => .ok (q2, x)
  else if tk l p ⟨#[116, 114, 117, 101]⟩ then .ok (p + 1, ⟨2, 1, ⟨#[]⟩, []⟩)
  else if tk l p ⟨#[102, 97, 108, 115, 101]⟩ then .ok (p + 1, ⟨2, 0, ⟨#[]⟩, []⟩)
  else if tk l p ⟨#[115, 116, 97, 114, 116]⟩ then andThen (name l en (p + 1)) fun q s => andThen (kids l en d prev q) fun q2 ks => .ok (q2, ⟨22, 0, s, ks⟩)
  else if tk l p ⟨#[114, 101, 99, 118]⟩ then receiving l en (p + 1)
  else if tk l p ⟨#[121, 105, 101, 108, 100]⟩ then andThen (exactly1 l en d prev (p + 1)) fun q ks => .ok (q, ⟨21, 0, ⟨#[]⟩, ks⟩)
  else if tk l p ⟨#[97, 108, 105, 118, 101]⟩ then andThen (exactly1 l en d prev (p + 1)) fun q ks => .ok (q, ⟨24, 0, ⟨#[]⟩, ks⟩)
  else if tk l p ⟨#[114, 101, 115, 117, 109, 101]⟩ then andThen (exactly2 l en d prev (p + 1)) fun q ks => .ok (q, ⟨23, 0, ⟨#[]⟩, ks⟩)
  else named l en d prev p

def aheadS (l : List Lx.Tk) (en d : Nat) (prev : Nat → Res Sy.Ex) (p : Nat) : Res Sy.Ex :=
  if tk l p ⟨#[45]⟩ then turned l en d prev 4 (p + 1)
  else if tk l p ⟨#[110, 111, 116]⟩ then turned l en d prev 5 (p + 1)
  else piece l en d prev p

/-- What stands ahead of a piece, and the piece, d levels being left. -/
def ahead (l : List Lx.Tk) (en : Nat) : Nat → Nat → Res Sy.Ex
  | 0 => aheadS l en 0 (fun _ => .error (0, 0))
  | d + 1 => aheadS l en (d + 1) (ahead l en d)

/-- What is read one level further in. -/
def prevOf (l : List Lx.Tk) (en : Nat) : Nat → Nat → Res Sy.Ex
  | 0 => fun _ => .error (0, 0)
  | d + 1 => ahead l en d

theorem ahead_eq (l : List Lx.Tk) (en d : Nat) : ahead l en d = aheadS l en d (prevOf l en d) := by cases d <;> rfl

/-! Where the reader then stands: further on, and no further than the tokens' end. -/

/-- What is read from p on ends behind p, at most at the tokens' end. -/
def Adv {α : Type} (l : List Lx.Tk) (f : Nat → Res α) : Prop := ∀ p q x, p ≤ l.length → f p = .ok (q, x) → p < q ∧ q ≤ l.length

theorem ok_andThen {α β : Type} {r : Res α} {f : Nat → α → Res β} {q : Nat} {y : β} (h : andThen r f = .ok (q, y)) : ∃ q1 x, r = .ok (q1, x) ∧ f q1 x = .ok (q, y) := by
  unfold andThen at h
  split at h
  · rename_i q1 x; exact ⟨q1, x, rfl, h⟩
  · simp at h

theorem want_adv (l : List Lx.Tk) (en : Nat) (s : ByteArray) : Adv l (want l en s) := by
  intro p q x hp h
  unfold want at h
  cases hw : wantL l p en s with
  | ok q' =>
    rw [hw] at h
    simp at h
    have := wantL_le hw
    omega
  | error e => rw [hw] at h; simp at h
theorem name_adv (l : List Lx.Tk) (en : Nat) : Adv l (name l en) := by
  intro p q x hp h
  unfold name at h
  cases hw : nameL l p en with
  | ok q' =>
    rw [hw] at h
    simp at h
    have := nameL_le hw
    omega
  | error e => rw [hw] at h; simp at h
theorem loop_adv {l : List Lx.Tk} {en : Nat} {next : Nat → Res Sy.Ex} (hn : Adv l next) (level : Int) (h0 : level ≠ 0) : ∀ (f : Nat) (x : Sy.Ex) (p q : Nat) (y : Sy.Ex), p ≤ l.length → loop l en next level f x p = .ok (q, y) → p ≤ q ∧ q ≤ l.length
  | 0, x, p, q, y, hp, h => by simp [loop] at h; omega
  | f + 1, x, p, q, y, hp, h => by
    rw [loop] at h
    by_cases hs : (sign (pk l p en).text).2 ≠ level
    · rw [if_pos hs] at h; simp at h; omega
    · rw [if_neg hs] at h
      have hlt : p < l.length := by
        by_cases hlt : p < l.length
        · exact hlt
        · exfalso
          apply hs
          have e : (pk l p en).text = ⟨#[]⟩ := by unfold pk; rw [List.getElem?_eq_none (by omega)]; rfl
          rw [e]
          have : (sign ⟨#[]⟩).2 = 0 := by decide
          rw [this]
          exact fun e => h0 e.symm
      obtain ⟨q1, z, h1, h2⟩ := ok_andThen h
      have := hn (p + 1) q1 z hlt h1
      split at h2
      · simp at h2; omega
      · have := loop_adv hn level h0 f _ q1 q y (by omega) h2
        omega
theorem from_adv {l : List Lx.Tk} {en : Nat} {ah : Nat → Res Sy.Ex} (ha : Adv l ah) : ∀ k, k ≤ 5 → Adv l (from' l en ah k)
  | 0, _ => ha
  | k + 1, hk => by
    intro p q x hp h
    rw [from'] at h
    obtain ⟨q1, z, h1, h2⟩ := ok_andThen h
    have i1 := from_adv ha k (by omega) p q1 z hp h1
    have i2 := loop_adv (from_adv ha k (by omega)) (5 - k) (by omega) _ z q1 q x (by omega) h2
    omega
theorem tk_step {l : List Lx.Tk} {p : Nat} {s : ByteArray} (h : tk l p s = true) : p + 1 ≤ l.length := tk_lt h
theorem items_adv {α : Type} {l : List Lx.Tk} {en : Nat} {bg : Lx.Tk → Bool} {one : Nat → Res α} (ho : Adv l one) : ∀ (f : Nat) (out : List α) (p q : Nat) (y : List α), p ≤ l.length → items l en bg one f out p = .ok (q, y) → p ≤ q ∧ q ≤ l.length
  | 0, out, p, q, y, hp, h => by simp [items] at h; omega
  | f + 1, out, p, q, y, hp, h => by
    rw [items] at h
    split at h
    · simp at h
    · obtain ⟨q1, z, h1, h2⟩ := ok_andThen h
      have := ho p q1 z hp h1
      split at h2
      · rename_i ht
        have := tk_step ht
        simp at h2; omega
      · obtain ⟨q2, u, h3, h4⟩ := ok_andThen h2
        have := want_adv l en _ q1 q2 u (by omega) h3
        have := items_adv ho f _ q2 q y (by omega) h4
        omega
theorem list_adv {α : Type} {l : List Lx.Tk} {en : Nat} {bg : Lx.Tk → Bool} {one : Nat → Res α} (ho : Adv l one) : Adv l (list l en bg one) := by
  intro p q x hp h
  obtain ⟨q1, u, h1, h2⟩ := ok_andThen h
  have := want_adv l en _ p q1 u hp h1
  split at h2
  · rename_i ht
    have := tk_step ht
    simp at h2; omega
  · have := items_adv ho _ _ q1 q x (by omega) h2
    omega

theorem expr_adv {l : List Lx.Tk} {en d : Nat} {prev : Nat → Res Sy.Ex} (h : Adv l prev) : Adv l (expr l en d prev) := by
  intro p q x hp he
  unfold expr at he
  split at he
  · simp at he
  · exact from_adv h 5 (by omega) p q x hp he
theorem receiving_adv (l : List Lx.Tk) (en : Nat) : Adv l (receiving l en) := by
  intro p q x hp h
  obtain ⟨q1, u, h1, h2⟩ := ok_andThen h
  obtain ⟨q2, s, h3, h4⟩ := ok_andThen h2
  obtain ⟨q3, v, h5, h6⟩ := ok_andThen h4
  have := want_adv l en _ p q1 u hp h1
  have := name_adv l en q1 q2 s (by omega) h3
  have := want_adv l en _ q2 q3 v (by omega) h5
  simp at h6; omega
theorem named_adv {l : List Lx.Tk} {en d : Nat} {prev : Nat → Res Sy.Ex} (h : Adv l prev) : Adv l (named l en d prev) := by
  intro p q x hp hn
  obtain ⟨q1, s, h1, h2⟩ := ok_andThen hn
  have := name_adv l en p q1 s hp h1
  split at h2
  · obtain ⟨q2, ks, h3, h4⟩ := ok_andThen h2
    have := list_adv (bg := bgEx) (expr_adv (en := en) (d := d) h) q1 q2 ks (by omega) h3
    simp at h4; omega
  · simp at h2; omega
theorem exactly1_adv {l : List Lx.Tk} {en d : Nat} {prev : Nat → Res Sy.Ex} (h : Adv l prev) : Adv l (exactly1 l en d prev) := by
  intro p q x hp hn
  obtain ⟨q1, u, h1, h2⟩ := ok_andThen hn
  obtain ⟨q2, s, h3, h4⟩ := ok_andThen h2
  obtain ⟨q3, v, h5, h6⟩ := ok_andThen h4
  have := want_adv l en _ p q1 u hp h1
  have := expr_adv (en := en) (d := d) h q1 q2 s (by omega) h3
  have := want_adv l en _ q2 q3 v (by omega) h5
  simp at h6; omega
theorem exactly2_adv {l : List Lx.Tk} {en d : Nat} {prev : Nat → Res Sy.Ex} (h : Adv l prev) : Adv l (exactly2 l en d prev) := by
  intro p q x hp hn
  obtain ⟨q1, u, h1, h2⟩ := ok_andThen hn
  obtain ⟨q2, s, h3, h4⟩ := ok_andThen h2
  obtain ⟨q3, v, h5, h6⟩ := ok_andThen h4
  obtain ⟨q4, t, h7, h8⟩ := ok_andThen h6
  obtain ⟨q5, y, h9, h10⟩ := ok_andThen h8
  have := want_adv l en _ p q1 u hp h1
  have := expr_adv (en := en) (d := d) h q1 q2 s (by omega) h3
  have := want_adv l en _ q2 q3 v (by omega) h5
  have := expr_adv (en := en) (d := d) h q3 q4 t (by omega) h7
  have := want_adv l en _ q4 q5 y (by omega) h9
  simp at h10; omega

theorem piece_adv {l : List Lx.Tk} {en d : Nat} {prev : Nat → Res Sy.Ex} (h : Adv l prev) : Adv l (piece l en d prev) := by
  intro p q x hp hn
  unfold piece at hn
  split at hn
  · rename_i hk
    have := pk_kind (l := l) (p := p) (en := en) (by omega)
    simp at hn; omega
  split at hn
  · rename_i ht
    have := tk_step ht
    obtain ⟨q1, u, h1, h2⟩ := ok_andThen hn
    obtain ⟨q2, s, h3, h4⟩ := ok_andThen h2
    have := expr_adv (en := en) (d := d) h _ q1 u (by omega) h1
    have := want_adv l en _ q1 q2 s (by omega) h3
    simp at h4; omega
  split at hn
  · rename_i ht
    have := tk_step ht
    simp at hn; omega
  split at hn
  · rename_i ht
    have := tk_step ht
    simp at hn; omega
  split at hn
  · rename_i ht
    have := tk_step ht
    obtain ⟨q1, u, h1, h2⟩ := ok_andThen hn
    obtain ⟨q2, s, h3, h4⟩ := ok_andThen h2
    have := name_adv l en _ q1 u (by omega) h1
    have := list_adv (bg := bgEx) (expr_adv (en := en) (d := d) h) q1 q2 s (by omega) h3
    simp at h4; omega
  split at hn
  · rename_i ht
    have := tk_step ht
    have := receiving_adv l en _ q x (by omega) hn
    omega
  split at hn
  · rename_i ht
    have := tk_step ht
    obtain ⟨q1, u, h1, h2⟩ := ok_andThen hn
    have := exactly1_adv h _ q1 u (by omega) h1
    simp at h2; omega
  split at hn
  · rename_i ht
    have := tk_step ht
    obtain ⟨q1, u, h1, h2⟩ := ok_andThen hn
    have := exactly1_adv h _ q1 u (by omega) h1
    simp at h2; omega
  split at hn
  · rename_i ht
    have := tk_step ht
    obtain ⟨q1, u, h1, h2⟩ := ok_andThen hn
    have := exactly2_adv h _ q1 u (by omega) h1
    simp at h2; omega
  · exact named_adv h p q x hp hn

theorem turned_adv {l : List Lx.Tk} {en d : Nat} {prev : Nat → Res Sy.Ex} (h : Adv l prev) (kind : Int) : Adv l (turned l en d prev kind) := by
  intro p q x hp hn
  unfold turned at hn
  split at hn
  · simp at hn
  · obtain ⟨q1, u, h1, h2⟩ := ok_andThen hn
    have := h p q1 u hp h1
    simp at h2; omega

theorem aheadS_adv {l : List Lx.Tk} {en d : Nat} {prev : Nat → Res Sy.Ex} (h : Adv l prev) : Adv l (aheadS l en d prev) := by
  intro p q x hp hn
  unfold aheadS at hn
  split at hn
  · rename_i ht
    have := tk_step ht
    have := turned_adv h 4 _ q x (by omega) hn
    omega
  split at hn
  · rename_i ht
    have := tk_step ht
    have := turned_adv h 5 _ q x (by omega) hn
    omega
  · exact piece_adv h p q x hp hn

theorem ahead_adv (l : List Lx.Tk) (en : Nat) : ∀ d, Adv l (ahead l en d)
  | 0 => aheadS_adv (fun p q x _ h => by simp at h)
  | d + 1 => aheadS_adv (ahead_adv l en d)
theorem prev_adv (l : List Lx.Tk) (en : Nat) : ∀ d, Adv l (prevOf l en d)
  | 0 => fun p q x _ h => by simp [prevOf] at h
  | d + 1 => ahead_adv l en d

end Rp
end Go.Proofs.YtlnikpcoejpknaaGreatDoor

/- The reader's surroundings; what comes of reading something; expressions in new memory. -/
namespace Go.Proofs.YtlnikpcoejpknaaGreatDoor
open Go.RowKit

/-- What the reader reads from, and where it lies. -/
structure Env where
  B : Nat
  R : Nat
  M : Nat
  ta : Option Addr
  tc : Nat
  l : List Lx.Tk
  en : Nat

/-- The entries of the map of signs by text. -/
def entriesT : List MapEntry := (Sy.table.zipIdx).map fun (p, i) => { key := .string p.2.1, val := pairV p, born := i }

structure Good (E : Env) : Prop where
  below : E.B ≤ E.R
  toks : TkOk E.l
  few : E.l.length ≤ 6000
  apart : E.M ≠ E.R

/-- The reader stands at p, so many levels being open. -/
structure Rdy (E : Env) (w : World) (p : Nat) (op : Int) : Prop where
  rd : RD w E.R E.ta E.tc E.l p E.en (.map (some E.M)) op
  tk : TkIn E.B w E.l E.ta
  mp : w.heap[E.M]? = some (.map entriesT.toArray 13)

theorem Rdy.lt {E : Env} {w : World} {p : Nat} {op : Int} (h : Rdy E w p op) : E.R < w.heap.size := h.rd.lt
theorem Rdy.grown {E : Env} {w w' : World} {p q : Nat} {op op' : Int} (h : Rdy E w p op) (G : Good E) (hg : w.grownBy w' (some E.R)) (hr : RD w' E.R E.ta E.tc E.l q E.en (.map (some E.M)) op') : Rdy E w' q op' :=
  ⟨hr, h.tk.grown hg G.below h.lt, (hg.block E.M (lt_of_block h.mp) (fun e => G.apart (by simpa using e))).trans h.mp⟩
theorem Rdy.on {E : Env} {w w' : World} {p : Nat} {op : Int} (h : Rdy E w p op) (G : Good E) (hb : Below w.heap.size w w') : Rdy E w' p op :=
  ⟨h.rd.on hb, h.tk.on (below_same hb (by have := h.lt; have := G.below; omega)), (hb.block E.M (lt_of_block h.mp)).trans h.mp⟩
theorem Rdy.alloc {E : Env} {w : World} {p : Nat} {op : Int} (h : Rdy E w p op) (G : Good E) (o : Obj) : Rdy E (w.alloc o) p op := h.on G ((Below.refl _ w).alloc (Nat.le_refl _) o)
theorem grown_alloc {w u : World} {R : Nat} (h : w.grownBy u (some R)) (o : Obj) : w.grownBy (u.alloc o) (some R) :=
  ⟨h.os, h.tape, h.output, by have := h.size; simp; omega, fun i hi hn => (Below.heap_alloc _ _ _ (by have := h.size; omega)).trans (h.block i hi hn)⟩
theorem grown_set' {w u : World} {R : Nat} (h : w.grownBy u (some R)) {a : Addr} (ha : w.heap.size ≤ a.block) (x : Value) : w.grownBy (u.setCell a x) (some R) :=
  ⟨h.os, h.tape, h.output, by simpa [World.setCell] using h.size, fun i hi hn => (Below.heap_setCell _ _ _ _ (by omega)).trans (h.block i hi hn)⟩
theorem RD.set {w : World} {R : Nat} {ta : Option Addr} {tc : Nat} {l : List Lx.Tk} {p en : Nat} {mv : Value} {op : Int} (h : RD w R ta tc l p en mv op) {a : Addr} (ha : R ≠ a.block) (x : Value) : RD (w.setCell a x) R ta tc l p en mv op := (Below.heap_setCell _ _ _ _ ha).trans h

/-- What comes of reading something. -/
def Ends {α : Type} (E : Env) (op : Int) (w : World) (r : Res α) (M : World → α → Value → Prop) (e : Ending) (w' : World) : Prop :=
  w.grownBy w' (some E.R) ∧ match r with
    | .ok (q, x) => (∃ v, e = .returned v ∧ M w' x v) ∧ Rdy E w' q op
    | .error (er, at') => e = .panicked [fltE er at'] ∧ ∃ (q : Nat) (o : Int), Rdy E w' q o ∧ op ≤ o ∧ o ≤ op + 2

def atP {α : Type} (x : α) : Except (Int × Nat) Nat → Res α
  | .ok q => .ok (q, x)
  | .error e => .error e

theorem ends_mk {α : Type} {E : Env} (G : Good E) {p : Nat} {op : Int} {w w' : World} {r : Res α} {r' : Except (Int × Nat) Nat} {x : α} {v : Value} {M : World → α → Value → Prop} {e : Ending} (h : Rdy E w p op)
    (hf : RFate E.R E.ta E.tc E.l E.en (.map (some E.M)) op w v r' e w') (hr : r = atP x r') (hM : M w' x v) : Ends E op w r M e w' := by
  refine ⟨hf.1, ?_⟩
  cases r' with
  | ok q =>
    rw [hr]
    exact ⟨⟨v, hf.2.1, hM⟩, h.grown G hf.1 hf.2.2⟩
  | error er =>
    rw [hr]
    obtain ⟨h1, q, o, hd, h2, h3⟩ := hf.2
    exact ⟨h1, q, o, h.grown G hf.1 hd, h2, by omega⟩

abbrev UnitV : World → Unit → Value → Prop := fun _ _ v => v = .tuple #[]
abbrev NameV : World → ByteArray → Value → Prop := fun _ x v => v = .string x ∧ x.size ≤ 6000

theorem want_f (E : Env) (G : Good E) (p : Nat) (op : Int) (s : ByteArray) (r : Res Unit) (w : World) (h : Hid (Rdy E w p op)) (hp : p ≤ E.l.length) (hr : Hid (r = Rp.want E.l E.en s p)) :
    Calls Tryz.prog 72 #[.pointer (some ⟨E.R, 0, none⟩), .string s] w fun e w' => Ends E op w r UnitV e w' := by
  refine (want_any E.B E.R E.ta E.tc E.l p E.en _ op s (wantL E.l p E.en s) w h.out.rd h.out.tk G.below hp rfl).mono ?_
  intro e w' hf
  exact ends_mk (x := ()) G h.out hf (by rw [hr.out]; unfold Rp.want; cases wantL E.l p E.en s <;> rfl) rfl

theorem name_f (E : Env) (G : Good E) (p : Nat) (op : Int) (r : Res ByteArray) (w : World) (h : Hid (Rdy E w p op)) (hp : p ≤ E.l.length) (hr : Hid (r = Rp.name E.l E.en p)) :
    Calls Tryz.prog 73 #[.pointer (some ⟨E.R, 0, none⟩)] w fun e w' => Ends E op w r NameV e w' := by
  have hz := (G.toks.pk p E.en).1
  refine (name_any E.B E.R E.ta E.tc E.l p E.en _ op (nameL E.l p E.en) (pk E.l p E.en) w h.out.rd h.out.tk G.below hp rfl (by unfold maxLen; omega) rfl).mono ?_
  intro e w' hf
  exact ends_mk (x := (pk E.l p E.en).text) G h.out hf (by rw [hr.out]; unfold Rp.name; cases nameL E.l p E.en <;> rfl) ⟨rfl, hz⟩

theorem take_f (E : Env) (G : Good E) (p : Nat) (op : Int) (s : ByteArray) (b : Bool) (q : Nat) (w : World) (h : Hid (Rdy E w p op)) (hp : p ≤ E.l.length) (hb : Hid (b = tk E.l p s)) (hq : Hid (q = if b then p + 1 else p)) :
    Calls Tryz.prog 104 #[.pointer (some ⟨E.R, 0, none⟩), .string s] w fun e w' => e = .returned (.bool b) ∧ Rdy E w' q op ∧ w.grownBy w' (some E.R) := by
  refine (take_any E.B E.R E.ta E.tc E.l p E.en _ op s b q w h.out.rd h.out.tk G.below hp hb hq).mono ?_
  rintro e w' ⟨rfl, hd, hg⟩
  exact ⟨rfl, h.out.grown G hg hd, hg⟩

theorem peek_f (E : Env) (G : Good E) (p : Nat) (op : Int) (t : Lx.Tk) (w : World) (h : Hid (Rdy E w p op)) (hp : p ≤ E.l.length) (ht : Hid (t = pk E.l p E.en)) :
    Calls Tryz.prog 66 #[.pointer (some ⟨E.R, 0, none⟩)] w fun e w' => e = .returned (tkV t) ∧ Below w.heap.size w w' :=
  peek_any E.B E.R E.ta E.tc E.l p E.en _ op t w h.out.rd h.out.tk G.below hp ht

theorem skip_f (E : Env) (G : Good E) (p : Nat) (op : Int) (w : World) (h : Hid (Rdy E w p op)) (hp : p ≤ E.l.length) :
    Calls Tryz.prog 105 #[.pointer (some ⟨E.R, 0, none⟩)] w fun e w' => e = .returned (.tuple #[]) ∧ Rdy E w' (p + 1) op ∧ w.grownBy w' (some E.R) := by
  refine (skip_any E.R E.ta E.tc E.l p E.en _ op w h.out.rd (by have := G.few; omega)).mono ?_
  rintro e w' ⟨rfl, hd, hg⟩
  exact ⟨rfl, h.out.grown G hg hd, hg⟩

/-- No level is left. -/
theorem enter_no (E : Env) (G : Good E) (p : Nat) (w : World) (h : Hid (Rdy E w p 200)) (hp : p ≤ E.l.length) :
    Calls Tryz.prog 106 #[.pointer (some ⟨E.R, 0, none⟩)] w fun e w' => e = .panicked [fltE 4 (pk E.l p E.en).pos] ∧ w.grownBy w' (some E.R) ∧ ∃ (q : Nat) (o : Int), Rdy E w' q o ∧ 200 ≤ o ∧ o ≤ 202 := by
  refine (enter_any E.B E.R E.ta E.tc E.l p E.en _ 200 (pk E.l p E.en) w h.out.rd h.out.tk G.below hp rfl (by omega) (by omega)).mono ?_
  intro e w' hf
  have h2 := hf.2
  rw [if_pos rfl] at h2
  obtain ⟨h1, q, o, hd, h3, h4⟩ := h2
  exact ⟨h1, hf.1, q, o, h.out.grown G hf.1 hd, by omega, by omega⟩

/-- One level more. -/
theorem enter_yes (E : Env) (G : Good E) (p : Nat) (op : Int) (w : World) (h : Hid (Rdy E w p op)) (hp : p ≤ E.l.length) (h0 : 0 ≤ op) (h1 : op < 200) :
    Calls Tryz.prog 106 #[.pointer (some ⟨E.R, 0, none⟩)] w fun e w' => e = .returned (.tuple #[]) ∧ Rdy E w' p (op + 1) ∧ w.grownBy w' (some E.R) := by
  refine (enter_any E.B E.R E.ta E.tc E.l p E.en _ op (pk E.l p E.en) w h.out.rd h.out.tk G.below hp rfl (by omega) (by omega)).mono ?_
  intro e w' hf
  have h2 := hf.2
  rw [if_neg (by omega)] at h2
  exact ⟨h2.1, h.out.grown G hf.1 h2.2, hf.1⟩

/-- An expression's kids lie in blocks of which Q holds. -/
def ExQ (Q : Nat → Prop) (w : World) : Nat → Sy.Ex → Option Addr → Prop
  | 0, _, _ => False
  | h + 1, x, a => x.name.size ≤ 6000 ∧ x.kids.length ≤ 6000 ∧ ∀ i k, x.kids[i]? = some k → ∃ b off a' c', a = some ⟨b, off, none⟩ ∧ Q b ∧
      w.cell? ⟨b, off + i * 4, none⟩ = some (.int .i64 k.kind) ∧ w.cell? ⟨b, off + i * 4 + 1, none⟩ = some (.int .i64 k.n) ∧ w.cell? ⟨b, off + i * 4 + 2, none⟩ = some (.string k.name) ∧
      w.cell? ⟨b, off + i * 4 + 3, none⟩ = some (.slice a' k.kids.length c') ∧ ExQ Q w h k a'

theorem ExQ.keep {Q Q' : Nat → Prop} {w w' : World} (hk : ∀ b, Q b → Q' b ∧ w'.heap[b]? = w.heap[b]?) : ∀ {h : Nat} {x : Sy.Ex} {a : Option Addr}, ExQ Q w h x a → ExQ Q' w' h x a
  | 0, _, _, h => h
  | h + 1, x, a, ⟨h1, h2, h3⟩ => ⟨h1, h2, fun i k hi => by
      obtain ⟨b, off, a', c', ha, hb, c0, c1, c2, c3, hin⟩ := h3 i k hi
      have hc : ∀ o, w'.cell? ⟨b, o, none⟩ = w.cell? ⟨b, o, none⟩ := fun o => World.cell?_of_block (w := w) (hk b hb).2
      exact ⟨b, off, a', c', ha, (hk b hb).1, (hc _).trans c0, (hc _).trans c1, (hc _).trans c2, (hc _).trans c3, ExQ.keep hk hin⟩⟩

theorem ExQ.up {Q : Nat → Prop} {w : World} : ∀ {h h' : Nat} {x : Sy.Ex} {a : Option Addr}, h ≤ h' → ExQ Q w h x a → ExQ Q w h' x a
  | 0, _, _, _, _, hx => hx.elim
  | h + 1, 0, _, _, hh, _ => by omega
  | h + 1, h' + 1, x, a, hh, hx => ⟨hx.1, hx.2.1, fun i k hk => by
    obtain ⟨b, off, a', c', e, hb, c0, c1, c2, c3, hin⟩ := hx.2.2 i k hk
    exact ⟨b, off, a', c', e, hb, c0, c1, c2, c3, hin.up (by omega)⟩⟩

theorem ExQ.toIn {Q : Nat → Prop} {w : World} {B : Nat} (hQ : ∀ b, Q b → b < B) : ∀ {h : Nat} {x : Sy.Ex} {a : Option Addr}, ExQ Q w h x a → ExIn B w h x a
  | 0, _, _, h => h
  | h + 1, x, a, ⟨h1, h2, h3⟩ => ⟨by unfold maxLen; omega, by unfold maxLen; omega, fun i k hi => by
      obtain ⟨b, off, a', c', ha, hb, c0, c1, c2, c3, hin⟩ := h3 i k hi
      exact ⟨b, off, a', c', ha, hQ b hb, c0, c1, c2, c3, ExQ.toIn hQ hin⟩⟩

/-- An expression without kids. -/
theorem ExQ.leaf (Q : Nat → Prop) (w : World) (k n : Int) (s : ByteArray) (hs : s.size ≤ 6000) (a : Option Addr) : ExQ Q w 1 ⟨k, n, s, []⟩ a := ⟨hs, Nat.zero_le _, fun i k hk => by simp at hk⟩

/-- What was made between two worlds. -/
abbrev Mad (w w' : World) : Nat → Prop := fun b => w.heap.size ≤ b ∧ b < w'.heap.size

/-- An expression as a value, its kids in what was made since w. -/
def ExV (w : World) : World → Sy.Ex → Value → Prop := fun w' x v => ∃ a c h, v = exV x a c ∧ ExQ (Mad w w') w' h x a

end Go.Proofs.YtlnikpcoejpknaaGreatDoor

