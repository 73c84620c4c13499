/- The listing, plainly: lines. -/
import Derived.Test.YtbdcmkmeljddmaaGreatDoorM1
namespace Go.Proofs.YtbdcmkmeljddmaaGreatDoor.As
open Vf

def tab : List (By × Nat) := [([112, 117, 115, 104], 2), ([116, 114, 117, 116, 104], 1), ([108, 111, 97, 100], 1), ([115, 116, 111, 114, 101], 1), ([100, 114, 111, 112], 0), ([110, 101, 103], 0), ([110, 111, 116], 0), ([97, 100, 100], 0), ([115, 117, 98], 0), ([109, 117, 108], 0), ([100, 105, 118], 0), ([109, 111, 100], 0), ([101, 113], 0), ([110, 101], 0), ([108, 116], 0), ([108, 101], 0), ([103, 116], 0), ([103, 101], 0), ([97, 110, 100], 0), ([111, 114], 0), ([106, 117, 109, 112], 1), ([101, 108, 115, 101], 1), ([99, 97, 108, 108], 1), ([114, 101, 116], 0), ([101, 110, 100], 0), ([115, 101, 110, 100], 1), ([114, 101, 99, 118], 1), ([111, 117, 116], 0), ([115, 116, 97, 114, 116], 1), ([114, 101, 115, 117, 109, 101], 0), ([121, 105, 101, 108, 100], 0), ([97, 108, 105, 118, 101], 0)]
def wordOf (op : Int) : Option (By × Nat) := if 1 ≤ op then tab[(op - 1).toNat]? else none
def findW (w : By) : Nat → List (By × Nat) → Option (Int × Nat)
  | _, [] => none
  | k, x :: t => if x.1 = w then some ((k : Int), x.2) else findW w (k + 1) t
def opOf (w : By) : Option (Int × Nat) := findW w 1 tab
theorem find_some {w : By} : ∀ (t : List (By × Nat)) (k : Nat) {op : Int} {h : Nat}, findW w k t = some (op, h) → ∃ j : Nat, op = ((k + j : Nat) : Int) ∧ t[j]? = some (w, h)
  | [], _, _, _, e => by cases e
  | x :: t, k, op, h, e => by
    unfold findW at e
    split at e
    · rename_i hx
      cases e
      exact ⟨0, rfl, by rw [← hx]; rfl⟩
    · obtain ⟨j, h1, h2⟩ := find_some t (k + 1) e
      exact ⟨j + 1, by rw [h1]; congr 1; omega, h2⟩
theorem op_word {w : By} {op : Int} {h : Nat} (e : opOf w = some (op, h)) : wordOf op = some (w, h) := by
  obtain ⟨j, rfl, h2⟩ := find_some tab 1 e
  unfold wordOf
  rw [if_pos (by omega), show (((1 + j : Nat) : Int) - 1).toNat = j by omega]
  exact h2
theorem tab_all : ∀ j : Nat, j < 32 → (tab[j]?).all (fun x => decide (opOf x.1 = some (((j : Nat) : Int) + 1, x.2))) = true := by decide
theorem word_op {w : By} {op : Int} {h : Nat} (e : wordOf op = some (w, h)) : opOf w = some (op, h) := by
  unfold wordOf at e
  split at e
  · have hl := (List.getElem?_eq_some_iff.1 e).1
    have := tab_all _ hl
    rw [e] at this
    simp at this
    rw [this]
    congr 2
    omega
  · cases e
theorem tab_wordy : ∀ x ∈ tab, ∀ c ∈ x.1, c ≠ 32 ∧ c ≠ 10 ∧ c ≠ 9 := by decide
theorem word_wordy {w : By} {op : Int} {h : Nat} (e : wordOf op = some (w, h)) : wordy w := by
  unfold wordOf at e
  split at e
  · exact tab_wordy _ (List.mem_of_getElem? e)
  · cases e
theorem tab_has : ∀ x ∈ tab, x.2 = 0 ∨ x.2 = 1 ∨ x.2 = 2 := by decide
theorem word_has {w : By} {op : Int} {h : Nat} (e : wordOf op = some (w, h)) : h = 0 ∨ h = 1 ∨ h = 2 := by
  unfold wordOf at e
  split at e
  · exact tab_has _ (List.mem_of_getElem? e)
  · cases e

def nums : List By → Option (List Int)
  | [] => some []
  | w :: ws => match numOf w, nums ws with
    | some n, some l => some (n :: l)
    | _, _ => none
theorem nums_dig : ∀ {l : List Int}, (∀ n ∈ l, i64 n = true) → nums (l.map dig) = some l
  | [], _ => rfl
  | n :: l, h => by
    rw [List.map_cons, nums, num_dig (h n List.mem_cons_self), nums_dig (fun x hx => h x (List.mem_cons_of_mem _ hx))]
theorem nums_some : ∀ {ws : List By} {l : List Int}, nums ws = some l → l.map dig = ws ∧ ∀ n ∈ l, i64 n = true
  | [], l, e => by cases e; exact ⟨rfl, fun _ h => by cases h⟩
  | w :: ws, l, e => by
    unfold nums at e
    split at e
    · rename_i n l' h1 h2
      cases e
      obtain ⟨a, b⟩ := num_some h1
      obtain ⟨c, d⟩ := nums_some h2
      refine ⟨by rw [List.map_cons, a, c], fun x hx => ?_⟩
      rcases List.mem_cons.1 hx with rfl | hx
      · exact b
      · exact d x hx
    · cases e

def args (h : Nat) (i : Ins) : List Int := if h = 0 then [] else if h = 1 then [i.a] else [i.n]
def bareI (i : Ins) : Ins := match wordOf i.op with
  | some (_, h) => if h = 0 then ⟨i.op, 0, 0⟩ else if h = 1 then ⟨i.op, i.a, 0⟩ else ⟨i.op, 0, i.n⟩
  | none => i
def mkI (op : Int) (h : Nat) (l : List Int) : Option Ins := match h, l with
  | 0, [] => some ⟨op, 0, 0⟩
  | 1, [a] => some ⟨op, a, 0⟩
  | 2, [n] => some ⟨op, 0, n⟩
  | _, _ => none
def fnW : By := [102, 110]
def genW : By := [103, 101, 110]
def taskW : By := [116, 97, 115, 107]
def boxW : By := [98, 111, 120]
def headW (k : Int) : Option By := if k = 2 then some fnW else if k = 3 then some genW else if k = 4 then some taskW else none
def kindOf (w : By) : Int := if w = fnW then 2 else if w = genW then 3 else if w = taskW then 4 else 0

def bxL (b : Bx) : By := boxW ++ join ([b.ty, b.cap].map dig)
def unL (u : Un) : By := (headW u.kind).getD [] ++ join ((u.params :: u.result :: u.takes :: u.locals).map dig)
def inL (i : Ins) : By := match wordOf i.op with
  | some (w, h) => 9 :: (w ++ join ((args h i).map dig))
  | none => []
def linesU (u : Un) : List By := unL u :: u.code.map inL
def lines (m : Md) : List By := m.boxes.map bxL ++ m.units.flatMap linesU

def addI : List Un → Ins → Option (List Un)
  | [], _ => none
  | [u], i => some [{ u with code := u.code ++ [i] }]
  | u :: v :: us, i => (addI (v :: us) i).map (u :: ·)
def lineI (us : List Un) (r : By) : Option (List Un) := match words r with
  | [] => none
  | w :: ws => match opOf w, nums ws with
    | some (op, h), some l => (mkI op h l).bind (addI us)
    | _, _ => none
def lineU (m : Md) (s : By) : Option Md := match words s with
  | [] => none
  | w :: ws => match nums ws with
    | none => none
    | some l => if w = boxW then (match l, m.units with
        | [a, b], [] => some ⟨m.boxes ++ [⟨a, b⟩], []⟩
        | _, _ => none)
      else if kindOf w = 0 then none
      else match l with
        | p :: r :: t :: ls => some ⟨m.boxes, m.units ++ [⟨kindOf w, p, ls, r, t, []⟩]⟩
        | _ => none
def line (m : Md) (s : By) : Option Md := match s with
  | [] => lineU m []
  | c :: r => if c = 9 then (lineI m.units r).map (fun us => ⟨m.boxes, us⟩) else lineU m (c :: r)
theorem line_tab (m : Md) (r : By) : line m (9 :: r) = (lineI m.units r).map (fun us => ⟨m.boxes, us⟩) := by
  unfold line
  exact if_pos rfl
theorem line_not (m : Md) {c : UInt8} (r : By) (h : c ≠ 9) : line m (c :: r) = lineU m (c :: r) := by
  unfold line
  exact if_neg h
def runL : Md → List By → Option Md
  | m, [] => some m
  | m, s :: ls => (line m s).bind (runL · ls)

/-- That it can be written. -/
structure OkI (i : Ins) : Prop where
  word : (wordOf i.op).isSome = true
  a : i64 i.a = true
  n : i64 i.n = true
structure OkU (u : Un) : Prop where
  head : (headW u.kind).isSome = true
  nums : ∀ n ∈ u.params :: u.result :: u.takes :: u.locals, i64 n = true
  code : ∀ i ∈ u.code, OkI i
structure OkM (m : Md) : Prop where
  boxes : ∀ b ∈ m.boxes, i64 b.ty = true ∧ i64 b.cap = true
  units : ∀ u ∈ m.units, OkU u
def bareU (u : Un) : Un := { u with code := u.code.map bareI }
def bare (m : Md) : Md := ⟨m.boxes, m.units.map bareU⟩

theorem digs_wordy (l : List Int) : ∀ x ∈ l.map dig, ∀ c ∈ x, c ≠ 32 := fun x hx c hc => by
  obtain ⟨n, _, rfl⟩ := List.mem_map.1 hx
  exact (dig_wordy n c hc).1
theorem line_box (bs : List Bx) {b : Bx} (h : i64 b.ty = true ∧ i64 b.cap = true) : line ⟨bs, []⟩ (bxL b) = some ⟨bs ++ [b], []⟩ := by
  have e : line ⟨bs, []⟩ (bxL b) = lineU ⟨bs, []⟩ (bxL b) := line_not _ _ (by decide)
  have hn : nums ([b.ty, b.cap].map dig) = some [b.ty, b.cap] := nums_dig (fun n hn => by
    rcases List.mem_cons.1 hn with rfl | hn
    · exact h.1
    · rcases List.mem_cons.1 hn with rfl | hn
      · exact h.2
      · cases hn)
  rw [e]
  unfold lineU bxL
  rw [words_join _ (by decide) (digs_wordy _)]
  simp only [hn, if_true]
theorem head_kind {k : Int} {w : By} (h : headW k = some w) : kindOf w = k ∧ (∀ c ∈ w, c ≠ 32) ∧ w ≠ boxW ∧ k ≠ 0 ∧ ∃ c r, w = c :: r ∧ c ≠ 9 := by
  unfold headW at h
  split at h
  · rename_i e; cases h; subst e; exact ⟨by decide, by decide, by decide, by decide, _, _, rfl, by decide⟩
  split at h
  · rename_i e; cases h; subst e; exact ⟨by decide, by decide, by decide, by decide, _, _, rfl, by decide⟩
  split at h
  · rename_i e; cases h; subst e; exact ⟨by decide, by decide, by decide, by decide, _, _, rfl, by decide⟩
  · cases h
theorem line_unit (bs : List Bx) (us : List Un) {u : Un} (h : OkU u) : line ⟨bs, us⟩ (unL u) = some ⟨bs, us ++ [{ u with code := [] }]⟩ := by
  obtain ⟨w, hw⟩ := Option.isSome_iff_exists.1 h.head
  obtain ⟨h1, h2, h3, h4, c, r, rfl, h5⟩ := head_kind hw
  have e : line ⟨bs, us⟩ (unL u) = lineU ⟨bs, us⟩ (unL u) := by
    unfold unL
    rw [hw]
    exact line_not _ _ h5
  rw [e]
  unfold lineU unL
  rw [hw, Option.getD_some, words_join _ h2 (digs_wordy _)]
  simp only [nums_dig h.nums, if_neg h3, h1, if_neg h4]
theorem add_last : ∀ (us : List Un) (u : Un) (i : Ins), addI (us ++ [u]) i = some (us ++ [{ u with code := u.code ++ [i] }])
  | [], _, _ => rfl
  | [v], u, i => rfl
  | v :: v' :: us, u, i => by
    show (addI ((v' :: us) ++ [u]) i).map (v :: ·) = _
    rw [add_last (v' :: us) u i]
    rfl
theorem line_ins (bs : List Bx) (us : List Un) (u : Un) {i : Ins} (h : OkI i) : line ⟨bs, us ++ [u]⟩ (inL i) = some ⟨bs, us ++ [{ u with code := u.code ++ [bareI i] }]⟩ := by
  obtain ⟨⟨w, k⟩, hw⟩ := Option.isSome_iff_exists.1 h.word
  have hwy := word_wordy hw
  unfold inL bareI
  rw [hw]
  simp only [line_tab]
  unfold lineI
  rw [words_join _ (fun c hc => (hwy c hc).1) (digs_wordy _)]
  have hn : nums ((args k i).map dig) = some (args k i) := nums_dig (fun n hn => by
    unfold args at hn
    split at hn
    · cases hn
    · split at hn
      · simp at hn; subst hn; exact h.a
      · simp at hn; subst hn; exact h.n)
  simp only [word_op hw, hn]
  rcases word_has hw with rfl | rfl | rfl
  · simp [args, mkI, add_last]
  · simp [args, mkI, add_last]
  · simp [args, mkI, add_last]
theorem run_app : ∀ (a b : List By) (m : Md), runL m (a ++ b) = (runL m a).bind (runL · b)
  | [], b, m => rfl
  | s :: a, b, m => by
    show (line m s).bind (runL · (a ++ b)) = ((line m s).bind (runL · a)).bind (runL · b)
    cases line m s with
    | none => rfl
    | some m' => exact run_app a b m'
theorem run_boxes : ∀ (l bs : List Bx), (∀ b ∈ l, i64 b.ty = true ∧ i64 b.cap = true) → runL ⟨bs, []⟩ (l.map bxL) = some ⟨bs ++ l, []⟩
  | [], bs, _ => by simp [runL]
  | b :: l, bs, h => by
    rw [List.map_cons, runL, line_box bs (h b List.mem_cons_self)]
    show runL ⟨bs ++ [b], []⟩ (l.map bxL) = _
    rw [run_boxes l _ (fun x hx => h x (List.mem_cons_of_mem _ hx)), List.append_assoc]
    rfl
theorem run_code (bs : List Bx) (us : List Un) : ∀ (l : List Ins) (u : Un), (∀ i ∈ l, OkI i) → runL ⟨bs, us ++ [u]⟩ (l.map inL) = some ⟨bs, us ++ [{ u with code := u.code ++ l.map bareI }]⟩
  | [], u, _ => by simp [runL]
  | i :: l, u, h => by
    rw [List.map_cons, runL, line_ins bs us u (h i List.mem_cons_self)]
    show runL ⟨bs, us ++ [_]⟩ (l.map inL) = _
    rw [run_code bs us l _ (fun x hx => h x (List.mem_cons_of_mem _ hx))]
    simp
theorem run_units (bs : List Bx) : ∀ (l us : List Un), (∀ u ∈ l, OkU u) → runL ⟨bs, us⟩ (l.flatMap linesU) = some ⟨bs, us ++ l.map bareU⟩
  | [], us, _ => by simp [runL]
  | u :: l, us, h => by
    have hu := h u List.mem_cons_self
    rw [List.flatMap_cons, run_app, linesU, runL, line_unit bs us hu]
    show ((runL ⟨bs, us ++ [_]⟩ (u.code.map inL)).bind _) = _
    rw [run_code bs us u.code _ hu.code]
    show runL ⟨bs, us ++ [_]⟩ (l.flatMap linesU) = _
    rw [run_units bs l _ (fun x hx => h x (List.mem_cons_of_mem _ hx))]
    simp [bareU]
/-- WHAT IS WRITTEN IS READ. -/
theorem run_lines {m : Md} (h : OkM m) : runL ⟨[], []⟩ (lines m) = some (bare m) := by
  unfold lines
  rw [run_app, run_boxes _ _ h.boxes]
  show runL ⟨[] ++ m.boxes, []⟩ _ = _
  rw [run_units _ _ _ h.units]
  simp [bare]
end Go.Proofs.YtbdcmkmeljddmaaGreatDoor.As

/- The listing, plainly: what is read is written as it was; line by line. -/
namespace Go.Proofs.YtbdcmkmeljddmaaGreatDoor.As
open Vf

/-- Lines of a text, and what is left behind the last one. -/
def cut : By → List By × By
  | [] => ([], [])
  | c :: l => if c = 10 then ([] :: (cut l).1, (cut l).2) else match (cut l).1 with
    | [] => ([], c :: (cut l).2)
    | w :: ws => ((c :: w) :: ws, (cut l).2)
def text (ls : List By) : By := ls.flatMap (· ++ [10])
theorem text_cut : ∀ s : By, text (cut s).1 ++ (cut s).2 = s
  | [] => rfl
  | c :: l => by
    have ih := text_cut l
    unfold cut
    by_cases hc : c = 10
    · rw [if_pos hc, hc]
      show 10 :: (text (cut l).1 ++ (cut l).2) = _
      rw [ih]
    · rw [if_neg hc]
      split
      · rename_i h
        rw [h] at ih
        show c :: (cut l).2 = _
        rw [show (cut l).2 = l from ih]
      · rename_i w ws h
        rw [h] at ih
        show c :: (text (w :: ws) ++ (cut l).2) = _
        rw [ih]
theorem cut_none : ∀ s : By, (∀ w ∈ (cut s).1, ∀ c ∈ w, c ≠ 10) ∧ ∀ c ∈ (cut s).2, c ≠ 10
  | [] => ⟨fun w h => (by cases h), fun c h => (by cases h)⟩
  | c :: l => by
    obtain ⟨h1, h2⟩ := cut_none l
    unfold cut
    by_cases hc : c = 10
    · rw [if_pos hc]
      refine ⟨fun w hw => ?_, h2⟩
      rcases List.mem_cons.1 hw with rfl | hw
      · exact fun c h => by cases h
      · exact h1 w hw
    · rw [if_neg hc]
      split
      · refine ⟨fun w hw => (by cases hw), fun d hd => ?_⟩
        rcases List.mem_cons.1 hd with rfl | hd
        · exact hc
        · exact h2 d hd
      · rename_i w ws h
        rw [h] at h1
        refine ⟨fun x hx => ?_, h2⟩
        rcases List.mem_cons.1 hx with rfl | hx
        · intro d hd
          rcases List.mem_cons.1 hd with rfl | hd
          · exact hc
          · exact h1 w List.mem_cons_self d hd
        · exact h1 x (List.mem_cons_of_mem _ hx)
theorem cut_line : ∀ (w : By) (t : By), (∀ c ∈ w, c ≠ 10) → cut (w ++ 10 :: t) = (w :: (cut t).1, (cut t).2)
  | [], t, _ => by rw [List.nil_append, cut, if_pos rfl]
  | c :: w, t, h => by
    rw [List.cons_append, cut, if_neg (h c List.mem_cons_self), cut_line w t (fun d hd => h d (List.mem_cons_of_mem _ hd))]
theorem cut_text : ∀ (ls : List By) (t : By), (∀ w ∈ ls, ∀ c ∈ w, c ≠ 10) → cut (text ls ++ t) = (ls ++ (cut t).1, (cut t).2)
  | [], t, _ => rfl
  | w :: ls, t, h => by
    rw [show text (w :: ls) ++ t = w ++ 10 :: (text ls ++ t) by simp [text], cut_line _ _ (h w List.mem_cons_self), cut_text ls t (fun x hx => h x (List.mem_cons_of_mem _ hx))]
    rfl
end Go.Proofs.YtbdcmkmeljddmaaGreatDoor.As

