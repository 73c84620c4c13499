/- Which locals have something, as a row of truths; appends of the document's Code. -/
import Derived.Test.YtbkimpimoclobaaM32
import Derived.Laws.OwnMore
import Derived.Deep.DeepCutAuto
namespace Go.Proofs.Ytbkimpimoclobaa
open Go.RowKit
namespace Vf
def bl (n : Nat) (f : Fl) : List Bool := (List.range n).map f.has
def FlOk (n : Nat) (f : Fl) : Prop := ∀ j, n ≤ j → j < 256 → f.has j = false
theorem bl_len (n : Nat) (f : Fl) : (bl n f).length = n := by simp [bl]
theorem bl_at {n x : Nat} (f : Fl) (h : x < n) : (bl n f)[x]? = some (f.has x) := by simp [bl, h]
theorem fill_word (f : Fl) {a k : Nat} (hk : k < 4) : (f.fill a).word k = if a / 64 = k then f.word k ||| BitVec.twoPow 64 (a % 64) else f.word k := by
  rcases (show k = 0 ∨ k = 1 ∨ k = 2 ∨ k = 3 by omega) with rfl | rfl | rfl | rfl <;> simp [Fl.fill, Fl.word]
theorem has_fill (f : Fl) {a j : Nat} (hj : j < 256) : (f.fill a).has j = (f.has j || decide (j = a)) := by
  unfold Fl.has
  rw [fill_word f (by omega)]
  by_cases h : a / 64 = j / 64
  · rw [if_pos h, BitVec.getLsbD_or, BitVec.getLsbD_twoPow]
    congr 1
    have h1 : a % 64 < 64 := by omega
    by_cases e : j = a
    · subst e
      simp [h1]
    · have : ¬ a % 64 = j % 64 := by omega
      simp [e, this]
  · rw [if_neg h]
    have : ¬ j = a := fun e => h (by rw [e])
    simp [this]
theorem bl_fill {n a : Nat} (f : Fl) (hn : n ≤ 200) : bl n (f.fill a) = (bl n f).set a true := by
  refine List.ext_getElem? (fun j => ?_)
  by_cases hj : j < n
  · rw [bl_at _ hj, has_fill f (by omega), List.getElem?_set]
    by_cases e : a = j
    · subst e
      rw [if_pos rfl, if_pos (by rw [bl_len]; exact hj)]
      simp
    · rw [if_neg e, bl_at _ hj]
      have : ¬ j = a := fun e2 => e e2.symm
      simp [this]
  · rw [List.getElem?_eq_none (by rw [bl_len]; omega), List.getElem?_eq_none (by simp [bl_len]; omega)]
theorem FlOk.fill {n a : Nat} {f : Fl} (h : FlOk n f) (ha : a < n) : FlOk n (f.fill a) := fun j h1 h2 => by
  rw [has_fill f h2, h j h1 h2]
  have : ¬ j = a := by omega
  simp [this]
theorem has_none (j : Nat) : Fl.none.has j = false := by
  unfold Fl.has Fl.none Fl.word
  split
  · simp
  · split
    · simp
    · split <;> simp
theorem FlOk.none (n : Nat) : FlOk n Fl.none := fun j _ _ => has_none j
theorem FlOk.first {n : Nat} : ∀ {p : Nat}, p ≤ n → FlOk n (Fl.first p)
  | 0, _ => FlOk.none n
  | p + 1, h => (FlOk.first (p := p) (by omega)).fill (by omega)
theorem FlOk.both {n : Nat} {f g : Fl} (h : FlOk n f) : FlOk n (f.both g) := fun j h1 h2 => by rw [has_both, h j h1 h2]; rfl
theorem bl_none (n : Nat) : bl n Fl.none = List.replicate n false := by
  refine List.ext_getElem? (fun j => ?_)
  by_cases hj : j < n
  · rw [bl_at _ hj, has_none, List.getElem?_replicate, if_pos hj]
  · rw [List.getElem?_eq_none (by rw [bl_len]; omega), List.getElem?_eq_none (by simp; omega)]
/-- What is left of a row, up to x; whether something went. -/
def bm (n : Nat) (t k : Fl) (x : Nat) : List Bool := (List.range n).map (fun y => t.has y && (decide (x ≤ y) || k.has y))
def less (t k : Fl) : Nat → Bool
  | 0 => false
  | x + 1 => less t k x || (t.has x && !k.has x)
theorem bm_len (n : Nat) (t k : Fl) (x : Nat) : (bm n t k x).length = n := by simp [bm]
theorem bm_at {n y : Nat} (t k : Fl) (x : Nat) (h : y < n) : (bm n t k x)[y]? = some (t.has y && (decide (x ≤ y) || k.has y)) := by simp [bm, h]
theorem bm_zero (n : Nat) (t k : Fl) : bm n t k 0 = bl n t := by simp [bm, bl]
theorem bm_end (n : Nat) (t k : Fl) : bm n t k n = bl n (t.both k) := by
  refine List.ext_getElem? (fun j => ?_)
  by_cases hj : j < n
  · rw [bm_at _ _ _ hj, bl_at _ hj, has_both]
    have : decide (n ≤ j) = false := by simp; omega
    rw [this]
    rfl
  · rw [List.getElem?_eq_none (by rw [bm_len]; omega), List.getElem?_eq_none (by rw [bl_len]; omega)]
theorem bm_yes {n x : Nat} {t k : Fl} (h : (t.has x && !k.has x) = true) : bm n t k (x + 1) = (bm n t k x).set x false := by
  refine List.ext_getElem? (fun j => ?_)
  by_cases hj : j < n
  · rw [bm_at _ _ _ hj, List.getElem?_set]
    by_cases e : x = j
    · subst e
      rw [if_pos rfl, if_pos (by rw [bm_len]; exact hj)]
      simp at h
      simp [h]
    · rw [if_neg e, bm_at _ _ _ hj]
      have : decide (x + 1 ≤ j) = decide (x ≤ j) := by
        rw [Bool.eq_iff_iff, decide_eq_true_eq, decide_eq_true_eq]
        omega
      rw [this]
  · rw [List.getElem?_eq_none (by rw [bm_len]; omega), List.getElem?_eq_none (by simp [bm_len]; omega)]
theorem bm_no {n x : Nat} {t k : Fl} (h : (t.has x && !k.has x) = false) : bm n t k (x + 1) = bm n t k x := by
  refine List.ext_getElem? (fun j => ?_)
  by_cases hj : j < n
  · rw [bm_at _ _ _ hj, bm_at _ _ _ hj]
    by_cases e : x = j
    · subst e
      have : decide (x + 1 ≤ x) = false := by simp
      rw [this]
      cases h1 : t.has x
      · simp
      · rw [h1] at h
        simp at h
        simp [h]
    · have : decide (x + 1 ≤ j) = decide (x ≤ j) := by
        rw [Bool.eq_iff_iff, decide_eq_true_eq, decide_eq_true_eq]
        omega
      rw [this]
  · rw [List.getElem?_eq_none (by rw [bm_len]; omega), List.getElem?_eq_none (by rw [bm_len]; omega)]
theorem less_no {t k : Fl} : ∀ {x : Nat}, less t k x = false ↔ ∀ y, y < x → (t.has y && !k.has y) = false
  | 0 => ⟨fun _ y hy => by omega, fun _ => rfl⟩
  | x + 1 => by
    unfold less
    rw [Bool.or_eq_false_iff, less_no]
    constructor
    · rintro ⟨h1, h2⟩ y hy
      by_cases e : y = x
      · subst e; exact h2
      · exact h1 y (by omega)
    · intro h
      exact ⟨fun y hy => h y (by omega), h x (by omega)⟩
theorem less_eq {n : Nat} {t k : Fl} (h : FlOk n t) : less t k n = !(Fl.eq (t.both k) t) := by
  cases hl : less t k n with
  | false =>
    have h1 := less_no.1 hl
    have : t.both k = t := fl_ext fun j hj => by
      rw [has_both]
      by_cases hjn : j < n
      · have := h1 j hjn
        cases h2 : t.has j
        · rfl
        · rw [h2] at this
          simp at this
          simp [this]
      · rw [h j (by omega) hj]
        rfl
    rw [Fl.eq_iff.2 this]
    rfl
  | true =>
    cases he : Fl.eq (t.both k) t with
    | false => rfl
    | true =>
      exfalso
      have e := Fl.eq_iff.1 he
      have : less t k n = false := less_no.2 fun y _ => by
        have h2 := has_both t k y
        rw [e] at h2
        cases h3 : t.has y
        · rfl
        · rw [h3] at h2
          simp at h2
          simp [h2]
      rw [this] at hl
      cases hl
/-- What was seen, in letters' rows. -/
def cm (n : Nat) (come : Nat → Option Kn) : Nat → Option (List Int × List Bool) := fun i => (come i).map (fun k => (k.st, bl n k.fl))
theorem cm_some {n i : Nat} {come : Nat → Option Kn} {k : Kn} (h : come i = some k) : cm n come i = some (k.st, bl n k.fl) := by unfold cm; rw [h]; rfl
theorem cm_none {n i : Nat} {come : Nat → Option Kn} (h : come i = none) : cm n come i = none := by unfold cm; rw [h]; rfl
theorem cm_note (n : Nat) (s : S) (i : Nat) (k : Kn) : cm n (s.note i k).come = upd (cm n s.come) i (k.st, bl n k.fl) := by
  funext j
  unfold cm upd S.note
  by_cases e : j = i
  · simp [e]
  · simp [e]
def Flg (n : Nat) (s : S) : Prop := ∀ i k, s.come i = some k → FlOk n k.fl
theorem Flg.note {n i : Nat} {s : S} {k : Kn} (h : Flg n s) (hk : FlOk n k.fl) : Flg n (s.note i k) := fun j k' hj => by
  unfold S.note at hj
  simp only at hj
  split at hj
  · cases hj; exact hk
  · exact h j k' hj
end Vf

section
variable {P : Program} {w : World}
theorem run_append_nothing (base : Nat) (t ty e : TypeId) (i : TypeInfo) (size : Nat) (ht : P.underlying t = some (.slice e)) (hi : P.info? e = some i) (v : Value) (n : Nat) (xs : List Value) (hown : w.ownsRow base e size v n xs) (c : Nat) :
    (Builtin.append_ #[t, t] ty #[v, .slice none 0 c]).run P w = .ok v w := by
  rcases hown.2 with ⟨rfl, rfl⟩ | ⟨g, cap, cur, rfl, _, _, hnc, _⟩
  · simp [Builtin.append_, run_underlying ht, sizeOf, typeInfo, hi, Builtin.lenOf, Builtin.firstCells]
  · simp [Builtin.append_, run_underlying ht, sizeOf, typeInfo, hi, Builtin.lenOf, Builtin.firstCells, hnc, storeCells]
end
/-- A copy of a row of truths. -/
theorem wpList_append_bools {w : World} {ops : Array Oper} {rest : List Oper} {o : Oper} {a : Act} {Q : Exit → Act → World → Prop} (hgd : o.guard = none) (s x : Operand)
    (ho : o.op = .call { callee := .builtin .append, args := #[s, x], argTypes := #[74, 74] })
    (N C : Nat) (hs : a.eval s = .slice (some ⟨N, 0, none⟩) 0 0) (hN : w.heap[N]? = some (.cells #[] 4 (0, 0))) (v : Value) (l : List Bool) (hx : a.eval x = v) (h : BR w C v l) (hl : l.length ≤ 200)
    (hK : ∀ v' w', BR w' N v' l → w.grownBy w' (some N) → wpList Try.prog ops Q rest (a.put o.dst v') w') : wpList Try.prog ops Q (o :: rest) a w := by
  obtain ⟨i0, hi, hz0, hz1, hz2⟩ := info_parts Try.infobool
  have hown : w.ownsRow N 4 1 (.slice (some ⟨N, 0, none⟩) 0 0) 0 [] := ⟨rfl, .inr ⟨N, 0, #[], rfl, Nat.le_refl _, hN, Nat.le_refl _, Nat.zero_le _, rfl, rfl⟩⟩
  have hlt := lt_of_block hN
  have hbl : (bools l).length = l.length * 1 := by simp
  rcases h.2 with ⟨h1, h2⟩ | ⟨g, cap, cur, h1, h2, h3, h4, h5, h6, h7⟩
  · rw [h1] at hx
    refine wpList_plain hgd fun K hK2 => ?_
    have hrun := run_append_nothing (P := Try.prog) (w := w) N 74 o.type 4 i0 1 Try.underlying74 hi (.slice (some ⟨N, 0, none⟩) 0 0) 0 [] hown 0
    unfold Oper.wp
    simp [execOp, ho, resolve, invoke, builtin, hs, hx, hrun, Result.andThen]
    have e : l = [] := List.eq_nil_of_length_eq_zero h2
    subst e
    exact hK2 _ _ (hK _ w hown (World.grownBy.refl _ _))
  · rw [h1] at hx
    refine wpList_append_own w hgd s x 74 ho N 4 i0 _ 1 1 Try.underlying74 hi hz0 hz1 hz2 rfl (by decide) _ 0 [] hs hown ⟨g, 0, none⟩ l.length cap (bools l) hx hbl (fun j u hu => ?_) (fun u hu => ?_) (by unfold maxLen; omega) (by omega) (by omega) (fun v' w' h8 h9 _ => ?_)
    · rw [add_none, Nat.zero_add]
      have e := hu
      rw [← h7, List.getElem?_take] at e
      split at e
      · simp [World.cell?, h3]
        simpa using e
      · cases e
    · simp at hu
      rcases hu with ⟨_, rfl⟩ | ⟨_, rfl⟩ <;> rfl
    · have e : 0 + l.length = l.length := Nat.zero_add _
      rw [e, List.nil_append] at h8
      exact hK v' w' h8 h9

theorem own_blk {w : World} {C : Nat} {e : TypeId} {size n : Nat} {v : Value} {xs : List Value} (h : w.ownsRow C e size v n xs) : ∀ j, v.ownBlock = some j → C ≤ j := by
  intro j hj
  rcases h.2 with ⟨rfl, _⟩ | ⟨g, cap, cur, rfl, h2, _⟩
  · cases hj
  · cases hj
    exact h2
/-- ONE MORE BEHIND, in the old block or in a new one. -/
theorem append_q2 (w : World) (B : Nat) (ty : TypeId) (v : Value) (ws : List Nat) (x : Nat) (h : QR w B v ws) (a : Addr) (hnews : ∀ j u, [Value.int .i64 (x : Int)][j]? = some u → w.cell? (a.add j) = some u) (hn : ws.length ≤ 100000000) (hB : B ≤ w.heap.size) :
    ∃ v' w', (Builtin.append_ #[32, 32] ty #[v, .slice (some a) 1 1]).run Try.prog w = .ok v' w' ∧ QR w' B v' (ws ++ [x]) ∧ w.grownBy w' v.ownBlock ∧ ∀ j, v'.ownBlock = some j → v.ownBlock = some j ∨ w.heap.size ≤ j := by
  obtain ⟨i0, hi, hz0, hz1, hz2⟩ := info_parts Try.info3
  rcases h with ⟨rfl, rfl⟩ | ⟨g, off, cap, cs, rfl, hBg, hh, h1, h2, h3⟩
  · obtain ⟨v', w', hr, ho, hg, _⟩ := run_append_own (P := Try.prog) w w.heap.size 32 ty 3 i0 _ 1 8 Try.underlying32 hi hz0 hz1 hz2 rfl (by decide) (.slice none 0 0) 0 [] (World.ownsRow_nil _ _ _ _) a 1 1 [.int .i64 (x : Int)] rfl hnews (one_cell1 x) (by unfold maxLen; omega) (by omega) (Nat.le_refl _)
    exact ⟨v', w', hr, qr_own (ws := [x]) (own_base ho hB), hg, fun j hj => .inr (own_blk ho j hj)⟩
  · by_cases hroom : ws.length + 1 ≤ cap
    · have hlt : off + ws.length < cs.length := by omega
      have hr := run_append_room_cells (P := Try.prog) w 32 ty 3 i0 Try.underlying32 hi g off ws.length cap a 1 1 [.int .i64 (x : Int)] (by rw [hz1]; rfl) hnews (one_cell1 x) hroom
        (fun j hj => by
          have hj0 : j = 0 := by simpa using hj
          subst hj0
          rw [hz1]
          simp [World.cell?, hh, hlt])
        (fun j hj => by simp [World.frozen?, hh])
      rw [hz1, Nat.mul_one] at hr
      refine ⟨_, _, hr, .inr ⟨g, off, cap, cs.set (off + ws.length) (.int .i64 (x : Int)), by simp, hBg, set_row hh _ _, by simpa using h1, by simpa using hroom, fun i y hy => ?_⟩, ⟨rfl, rfl, rfl, by simp [World.setCells, World.setCell], fun k hk hne => ?_⟩, fun j hj => .inl hj⟩
      · by_cases hi' : i < ws.length
        · rw [List.getElem?_append_left hi'] at hy
          rw [List.getElem?_set_ne (by omega)]
          exact h3 i y hy
        · have hi2 : i = ws.length := by
            have := (List.getElem?_eq_some_iff.1 hy).1
            simp at this
            omega
          subst hi2
          simp at hy
          subst hy
          rw [List.getElem?_set_self hlt]
      · exact Below.heap_setCell w ⟨g, off + ws.length, none⟩ _ k (fun e => hne (by rw [e]; rfl))
    · obtain ⟨v', w', hr, ho, hg⟩ := run_append_arg_grows (P := Try.prog) w 32 ty 3 i0 _ 1 8 Try.underlying32 hi hz0 hz1 hz2 rfl (by decide) ⟨g, off, none⟩ ws.length cap (nats ws) (by simp) (fun j u hu => by
          rw [add_none]
          rw [List.getElem?_map] at hu
          obtain ⟨y, hy, rfl⟩ := Option.map_eq_some_iff.1 hu
          simp [World.cell?, hh, h3 j y hy]) a 1 1 [.int .i64 (x : Int)] rfl hnews (by omega) (by unfold maxLen; omega) (by omega)
      exact ⟨v', w', hr, qr_own (ws := ws ++ [x]) (own_base (by simpa using ho) hB), grown_any hg, fun j hj => .inr (own_blk ho j hj)⟩
/-- The same as a law of the walk. -/
theorem wpList_append_q2 {w : World} {ops : Array Oper} {rest : List Oper} {o : Oper} {a : Act} {Q : Exit → Act → World → Prop} (hgd : o.guard = none) (s x : Operand)
    (ho : o.op = .call { callee := .builtin .append, args := #[s, x], argTypes := #[32, 32] })
    (B : Nat) (v : Value) (ws : List Nat) (y : Nat) (hs : a.eval s = v) (h : QR w B v ws) (ad : Addr) (hx : a.eval x = .slice (some ad) 1 1) (hnews : ∀ j u, [Value.int .i64 (y : Int)][j]? = some u → w.cell? (ad.add j) = some u)
    (hn : ws.length ≤ 100000000) (hB : B ≤ w.heap.size)
    (hK : ∀ v' w', QR w' B v' (ws ++ [y]) → w.grownBy w' v.ownBlock → (∀ j, v'.ownBlock = some j → v.ownBlock = some j ∨ w.heap.size ≤ j) → wpList Try.prog ops Q rest (a.put o.dst v') w') : wpList Try.prog ops Q (o :: rest) a w := by
  refine wpList_plain hgd fun K hK2 => ?_
  obtain ⟨v', w', hr, h2, h3, h4⟩ := append_q2 w B o.type v ws y h ad hnews hn hB
  unfold Oper.wp
  simp [execOp, ho, resolve, invoke, builtin, hs, hx, hr, Result.andThen]
  exact hK2 _ _ (hK v' w' h2 h3 h4)
end Go.Proofs.Ytbkimpimoclobaa

/- The document's Code in memory: what lies there all along; what holds at the head of its loop. -/
namespace Go.Proofs.Ytbkimpimoclobaa
open Go.RowKit

abbrev kO (k : Nat) : Obj := .cells #[.int .i64 (k : Int)] 3 (0, 0)
/-- Blocks that stay: the module, the unit's number, the answer, the unit. -/
structure CdAt (c : FC) (kk : Nat) (w W : World) : Prop where
  grown : w.grownBy W none
  mb : W.heap[w.heap.size]? = some (amO c.m c.ab c.au c.cb c.cu)
  kb : W.heap[w.heap.size + 1]? = some (kO kk)
  wz : W.heap[w.heap.size + 1 + 1]? = some whZ
  ub : W.heap[w.heap.size + 1 + 1 + 1]? = some (unO c.u c.al c.ac c.cl c.cc)
theorem CdAt.keep {c : FC} {kk : Nat} {w W W' : World} {r : Option Nat} (h : CdAt c kk w W) (hg : W.grownBy W' r) (hr : ∀ N, r = some N → w.heap.size + 1 + 1 + 1 + 1 ≤ N) : CdAt c kk w W' := by
  have k : ∀ b, b < w.heap.size + 1 + 1 + 1 + 1 → W'.heap[b]? = W.heap[b]? := fun b hb => hg.block b (by have := lt_of_block h.ub; omega) (fun e => by have := hr b e.symm; omega)
  exact ⟨h.grown.andThen hg (fun j e => .inl (by have := hr j e; omega)), (k _ (by omega)).trans h.mb, (k _ (by omega)).trans h.kb, (k _ (by omega)).trans h.wz, (k _ (by omega)).trans h.ub⟩
theorem CdAt.next {c : FC} {kk : Nat} {w W W' : World} (h : CdAt c kk w W) (hg : W.grownBy W' none) : CdAt c kk w W' := h.keep hg (fun _ e => by cases e)
theorem CdAt.new {c : FC} {kk : Nat} {w W : World} (h : CdAt c kk w W) (o : Obj) : CdAt c kk w (W.alloc o) := h.next (grown0_new (World.grownBy.refl _ _) _)
theorem CdAt.set {c : FC} {kk N : Nat} {w W : World} (h : CdAt c kk w W) (hN : w.heap.size + 1 + 1 + 1 + 1 ≤ N) (o : Nat) (v : Value) : CdAt c kk w (W.setCell ⟨N, o, none⟩ v) := h.keep (grown_set (grown_refl W N) o v) (fun _ e => by cases e; exact hN)
theorem CdAt.lt {c : FC} {kk : Nat} {w W : World} (h : CdAt c kk w W) : w.heap.size + 1 + 1 + 1 < W.heap.size := lt_of_block h.ub
theorem one_cells {w : World} {N : Nat} {x : Value} {t : TypeId} (h : w.heap[N]? = some (.cells #[x] t (0, 0))) : w.cell? ⟨N, 0, none⟩ = some x := by
  simp [World.cell?, h]

theorem br_at {w : World} {C g n cap x : Nat} {l : List Bool} {b : Bool} (h : BR w C (.slice (some ⟨g, 0, none⟩) n cap) l) (hx : l[x]? = some b) : w.cell? ⟨g, x, none⟩ = some (.bool b) ∧ w.frozen? ⟨g, x, none⟩ = false ∧ C ≤ g ∧ g < w.heap.size := by
  obtain ⟨g', cap', e, h1, h2, h3, h4⟩ := br_cell h hx
  cases e
  exact ⟨h3, h4, h1, h2⟩
theorem br_set2 {w : World} {C g n cap x : Nat} {l : List Bool} (h : BR w C (.slice (some ⟨g, 0, none⟩) n cap) l) (hn : l.length = n) (b : Bool) : BR (w.setCell ⟨g, x, none⟩ (.bool b)) C (.slice (some ⟨g, 0, none⟩) n cap) (l.set x b) := by
  subst hn
  exact br_set h b

abbrev seO (len : Nat) : Obj := .cells (madeCells (Value.agg #[.bool false, .string ⟨#[]⟩, .slice none 0 0]).cells (len * 3)) 76 (0, 0)
abbrev haO (n : Nat) : Obj := .cells (madeCells (Value.bool false).cells (n * 1)) 4 (0, 0)
theorem made3 (len i : Nat) (hi : i < len) : (madeCells (Value.agg #[.bool false, .string ⟨#[]⟩, .slice none 0 0]).cells (len * 3)).toList[i * 3]? = some (.bool false) := by
  have e : (i * 3) % 3 = 0 := by omega
  unfold madeCells
  simp only [Array.toList_map, Array.toList_range, List.getElem?_map]
  rw [List.getElem?_range (by omega)]
  simp [Value.cells, e]
theorem SeAt.start {B n len SB : Nat} {w : World} (h : w.heap[SB]? = some (seO len)) : SeAt B n len SB (fun _ => none) none w :=
  ⟨(madeCells (Value.agg #[.bool false, .string ⟨#[]⟩, .slice none 0 0]).cells (len * 3)).toList, fun _ => .slice none 0 0, by simpa using h, by simp [size_madeCells], fun i hi => made3 len i hi, fun _ _ _ _ _ hn => absurd rfl hn, fun _ _ _ hn => absurd rfl hn⟩
theorem br_start {n N : Nat} {w : World} (h : w.heap[N]? = some (haO n)) (hn : n ≤ 200) : BR w N (.slice (some ⟨N, 0, none⟩) n n) (Vf.bl n Vf.Fl.none) := by
  rw [Vf.bl_none]
  refine ⟨by simp, .inr ⟨N, n, _, by simp, Nat.le_refl _, h, by simp, by unfold maxLen; omega, size_madeCells _ _, ?_⟩⟩
  have e : (madeCells (Value.bool false).cells (n * 1)).toList = List.replicate (n * 1) (Value.bool false) := toList_madeCells_one _ _
  rw [e]
  simp
/-- What holds at the head of Code's loop. -/
structure CoAt (c : FC) (kk : Nat) (w : World) (s : Vf.S) (rv : Value) (W : World) : Prop where
  cd : CdAt c kk w W
  se : SeAt (w.heap.size + 1 + 1 + 1 + 1) c.u.locals.length c.u.code.length (w.heap.size + 1 + 1 + 1 + 1) (Vf.cm c.u.locals.length s.come) none W
  q : QR W (w.heap.size + 1 + 1 + 1 + 1) rv s.row
  inv : Inv c.m c.u s
  flg : Vf.Flg c.u.locals.length s
def CdG (c : FC) (kk : Nat) (w : World) (er num : Int) (gk : Nat) (rv : Value) (W : World) : Prop :=
  ∃ s, CoAt c kk w s rv W ∧ Vf.mu c.u.code.length s < gk ∧ Vf.mu c.u.code.length s ≤ 3000000 ∧ (er, num) = ((Vf.flow c.m c.u gk s).1, ((Vf.flow c.m c.u gk s).2 : Int))
end Go.Proofs.Ytbkimpimoclobaa

