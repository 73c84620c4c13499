/- Rows of one's own; the walks of Clone and End. -/
import Derived.Test.YtekjhefmhhcboaaGreatM17
import Derived.Test.YtekjhefmhhcboaaGreatM29
namespace Go.Proofs.YtekjhefmhhcboaaGreat.Vw
open Go.RowKit Vf Vm
theorem own_ty {w : World} {B e size n g : Nat} {v : Value} {xs : List Value} (h : w.ownsRow B e size v n xs) (hg : v.ownBlock = some g) : ∃ cur, w.heap[g]? = some (.cells cur e (0, 0)) := by
 rcases h.2 with ⟨rfl, _⟩ | ⟨g', cap, cur, rfl, _, hh, _⟩
 ·cases hg
 ·simp [Value.ownBlock] at hg
  subst hg
  exact ⟨cur, hh⟩
theorem own_cell {w : World} {B e n : Nat} {va : Option Addr} {vc : Nat} {xs : List Value} (h : w.ownsRow B e 1 (.slice va n vc) n xs) {k : Nat} {u : Value} (hk : xs[k]? = some u) : ∃ g, va = some ⟨g, 0, none⟩ ∧ w.cell? ⟨g, k, none⟩ = some u := by
 rcases h.2 with ⟨e1, h0⟩ | ⟨g, cap, cur, e1, _⟩
 ·have hl := h.1
  rw [h0] at hl
  have hx : xs = [] := List.eq_nil_of_length_eq_zero (by simpa using hl)
  rw [hx] at hk; cases hk
 ·have e2 := e1
  simp at e2
  refine ⟨g, e2.1, ?_⟩
  have := h.cells (g := g) (by rw [e1]; rfl) k _ hk
  rw [add_none] at this
  simpa using this
theorem own_base {w : World} {B C e size n : Nat} {v : Value} {xs : List Value} (h : w.ownsRow C e size v n xs) (hB : B ≤ C) : w.ownsRow B e size v n xs := by
 refine ⟨h.1, ?_⟩
 rcases h.2 with h2 | ⟨g, cap, cur, hv, hg, r⟩
 ·exact .inl h2
 ·exact .inr ⟨g, cap, cur, hv, by omega, r⟩
theorem own_slice {w : World} {B e size n : Nat} {v : Value} {xs : List Value} (h : w.ownsRow B e size v n xs) : ∃ a c, v = .slice a n c := by
 rcases h.2 with ⟨rfl, h0⟩ | ⟨g, cap, cur, rfl, _⟩
 ·rw [h0]; exact ⟨_, _, rfl⟩
 ·exact ⟨_, _, rfl⟩
theorem ints_one (ws : List Int) : ∀ v ∈ ints ws, v.oneCell' = true := by
 intro v hv
 simp only [ints, List.mem_map] at hv
 obtain ⟨x, _, rfl⟩ := hv
 rfl
section
variable {β : Type} (E : Env β) (X : Bxs β) (c : Cx) (vB ev : Value) (o T : Nat) (L : Lab) (P : Nat → Nat) (w : World) (t : Tk) (x : β) (vR vO : Value) (H : Hid (St E c vB ev o T L P w t x vR vO))
include H
end
structure EarW where
 En : Lab → World → List (Nat × Ev) → Prop
 keep : ∀ {L L' : Lab} {w w' : World} {l : List (Nat × Ev)}, En L w l → Ext L L' w → w.heap.size ≤ w'.heap.size → (∀ b, b < w.heap.size → (L b).cls = 3 → w'.heap[b]? = w.heap[b]?) → En L' w' l
def earOf (B : EarW) (o : Nat) (evs : List (Nat × Ev)) (l0 : Nat) : Ear where
 En := fun L w l => l0 ≤ l.length ∧ B.En L w (evs ++ (l.drop l0).map fun e => (o, e))
 keep := fun h hE hz hb => ⟨h.1, B.keep h.2 hE hz hb⟩
structure Sx where
 c : Cx
 Q : Nat → Nat
 rb : Nat
 vb : Value
 WB : Nat
 T : Nat → Nat
 N : Nat → Nat
 caps : Nat → Array Value
def Sx.ev (s : Sx) (o : Nat) : Value := .func (.func (s.N o)) #[] (s.caps o)
abbrev Sx.E (s : Sx) (A : Ear) : Env (List Bq) := mbE s.Q s.c.m.boxes.length s.rb 0 A
abbrev wdO (vt vx : Value) (steps last : Int) : Obj := .cells #[vt, vx, .int .i64 steps, .int .i64 last] 75 (0, 0)
structure WdIn (s : Sx) (B : EarW) (L : Lab) (w : World) (W : Wd) (vt vx : Value) : Prop where
 blk : w.heap[s.WB]? = some (wdO vt vx W.steps W.last)
 lW : (L s.WB).cls = 4
 trow : w.ownsRow 0 83 1 vt W.ts.length (ptrs s.T W.ts.length)
 brow : w.ownsRow 0 77 1 vx s.c.m.boxes.length (ptrs s.Q s.c.m.boxes.length)
 lt : ∀ b, vt.ownBlock = some b → (L b).cls = 0
 lx : ∀ b, vx.ownBlock = some b → (L b).cls = 0
 low : ∀ b, vt.ownBlock = some b ∨ vx.ownBlock = some b ∨ b = s.WB → s.c.B ≤ b
 tasks : ∀ (o : Nat) t, W.ts[o]? = some t → ∃ P vR vO, TkIn s.c s.vb (s.ev o) L o (s.T o) P w t vR vO
 boxes : MbEn s.Q s.c.m.boxes.length s.rb 0 L w W.x
 ear : B.En L w W.evs
 ok : LOk s.c.B L w
 cx : CxIn s.c w
structure WI (m : Md) (K : KM) (W : Wd) : Prop where
 tasks : ∀ (o : Nat) t, W.ts[o]? = some t → MI m K W.steps t W.x
 steps : W.steps ≤ 20000
 last : -1 ≤ W.last ∧ W.last < W.ts.length
 few : 0 < W.ts.length ∧ W.ts.length ≤ 30
 evs : W.evs.length ≤ 2 * W.steps
structure Kp (L : Lab) (w w' : World) : Prop where
 os : w'.os = w.os
 tape : w'.tape = w.tape
 output : w'.output = w.output
 size : w.heap.size ≤ w'.heap.size
 block : ∀ b, b < w.heap.size → (L b).cls = 0 → w'.heap[b]? = w.heap[b]?
theorem Kp.refl (L : Lab) (w : World) : Kp L w w := ⟨rfl, rfl, rfl, Nat.le_refl _, fun _ _ _ => rfl⟩
theorem Kp.trans {L L1 : Lab} {w w1 w2 : World} (h : Kp L w w1) (hE : Ext L L1 w) (k : Kp L1 w1 w2) : Kp L w w2 := ⟨k.os.trans h.os, k.tape.trans h.tape, k.output.trans h.output, Nat.le_trans h.size k.size, fun b hb h0 => (k.block b (by have := h.size; omega) (by rw [hE b hb]; exact h0)).trans (h.block b hb h0)⟩
theorem Kp.of_below {L : Lab} {w w1 : World} (h : Below w.heap.size w w1) : Kp L w w1 := ⟨h.os, h.tape, h.output, h.size, fun b hb _ => h.block b hb⟩
section
variable {s : Sx} {B : EarW} {L : Lab} {w w1 : World} {W : Wd} {vt vx : Value}
theorem tk_below {c : Cx} {vB ev : Value} {o T : Nat} {P : Nat → Nat} {t : Tk} {vR vO : Value} (H : TkIn c vB ev L o T P w t vR vO) (blk : ∀ b, b < w.heap.size → (L b).cls = 1 → (L b).idx = o → w1.heap[b]? = w.heap[b]?) {L1 : Lab} (hE : Ext L L1 w) (hl : ∀ b, (L1 b).cls = 1 → (L1 b).idx = o → (L1 b).th ≤ t.ths.length) : TkIn c vB ev L1 o T P w1 t vR vO := by
 have one : ∀ {b i p : Nat}, L b = ⟨1, o, i, p⟩ → (L b).cls = 1 ∧ (L b).idx = o := fun e => by rw [e]; exact ⟨rfl, rfl⟩
 refine ⟨(blk _ (lt_of_block H.blk) (one H.lT).1 (one H.lT).2).trans H.blk, own_keep H.rows (fun b hb => blk b (H.rows.lt b hb).2 (one (H.lR b hb)).1 (one (H.lR b hb)).2), own_keep H.out (fun b hb => blk b (H.out.lt b hb).2 (one (H.lO b hb)).1 (one (H.lO b hb)).2), fun i h hh => ?_, H.few, H.hand, (hE _ (lt_of_block H.blk)).trans H.lT, fun b hb => (hE _ (H.rows.lt b hb).2).trans (H.lR b hb), fun b hb => (hE _ (H.out.lt b hb).2).trans (H.lO b hb), hl⟩
 obtain ⟨S, g, r, vU, hT⟩ := H.ths i h hh
 exact ⟨S, g, r, vU, hT.keep hE rfl rfl (fun b hb hx => blk b hb hx.1 hx.2.1)⟩
theorem WdIn.below (H : WdIn s B L w W vt vx) (hb : Below w.heap.size w w1) : WdIn s B L w1 W vt vx :=
 ⟨(hb.block _ (lt_of_block H.blk)).trans H.blk, H.lW, own_keep H.trow (fun b hx => hb.block b (H.trow.lt b hx).2), own_keep H.brow (fun b hx => hb.block b (H.brow.lt b hx).2), H.lt, H.lx, H.low, fun o t ht => by
  obtain ⟨P, vR, vO, h⟩ := H.tasks o t ht
  exact ⟨P, vR, vO, tk_below h (fun b hs _ _ => hb.block b hs) (.refl _ _) h.labs⟩, H.boxes.keep (.refl _ _) hb.size (fun b hs _ => hb.block b hs), B.keep H.ear (.refl _ _) hb.size (fun b hs _ => hb.block b hs), H.ok.on hb.size, H.cx.low (fun b hs => hb.block b (by have := H.ok.size; omega))⟩
theorem WdIn.cells (H : WdIn s B L w W vt vx) : w.cell? ⟨s.WB, 0, none⟩ = some vt ∧ w.cell? ⟨s.WB, 1, none⟩ = some vx ∧ w.cell? ⟨s.WB, 2, none⟩ = some (.int .i64 W.steps) ∧ w.cell? ⟨s.WB, 3, none⟩ = some (.int .i64 W.last) ∧ ∀ j, w.frozen? ⟨s.WB, j, none⟩ = false := by
 have h := H.blk
 simp [World.cell?, World.frozen?, h]
theorem WdIn.st (H : WdIn s B L w W vt vx) {o : Nat} {t : Tk} (ht : W.ts[o]? = some t) : ∃ P vR vO, St (s.E (earOf B o W.evs t.log.length)) s.c s.vb (s.ev o) o (s.T o) L P w t W.x vR vO := by
 obtain ⟨P, vR, vO, h⟩ := H.tasks o t ht
 exact ⟨P, vR, vO, h, ⟨H.boxes, Nat.le_refl _, by rw [List.drop_length]; simpa using H.ear⟩, H.ok, H.cx⟩
theorem WI.at {m : Md} {K : KM} (h : WI m K W) {c : Cx} (hc : c.m = m) (hK : Known m K) {o : Nat} {t : Tk} (ht : W.ts[o]? = some t) : t.over = 0 → ∃ f rs u i, AtOk c t f rs u i := by
 subst hc
 exact (keeps_mb hK).at' _ _ _ (h.tasks o t ht)
end
abbrev pkO (p : Pk) : Obj := .cells #[.int .i64 p.task, .int .i64 p.q] 41
section
variable {β : Type} {X : Bxs β} {m : Md}
theorem go_yes {n : Nat} {t : Tk} {x : β} (h : (stat X m t x).1 = 1) : go X m (n + 1) t x = ((go X m n (one X m t x).1 (one X m t x).2).1 + 1, (go X m n (one X m t x).1 (one X m t x).2).2) := by
 show (if (stat X m t x).1 = 1 then _ else _ : Nat × Tk × β) = _
 rw [if_pos h]
theorem go_no {n : Nat} {t : Tk} {x : β} (h : ¬ (stat X m t x).1 = 1) : go X m n t x = (0, t, x) := by
 cases n with
 | zero => rfl
 | succ n =>
  show (if (stat X m t x).1 = 1 then _ else _ : Nat × Tk × β) = _
  rw [if_neg h]
end
theorem followD_len (m : Md) : ∀ (w : Wd) (ps : List Pk), (followD m w ps).length = ps.length
 | _, [] => rfl
 | w, p :: ps => by simp [followD, followD_len m _ ps]
def good (m : Md) (w : Wd) : List Pk → List Pk
 | [] => []
 | p :: ps => if (pickD m w p).err = 0 then p :: good m (pickW m w p) ps else good m w ps
theorem pickW_no {m : Md} {w : Wd} {p : Pk} (h : ¬ (pickD m w p).err = 0) : pickW m w p = w := by
 unfold pickD at h
 unfold pickW
 by_cases e : refE m w p = 0
 ·rw [if_pos e] at h; exact absurd rfl h
 ·rw [if_neg e]
theorem follow_good (m : Md) : ∀ (w : Wd) (ps : List Pk), followW m w (good m w ps) = followW m w ps
 | _, [] => rfl
 | w, p :: ps => by
  unfold good
  by_cases h : (pickD m w p).err = 0
  ·rw [if_pos h]; exact follow_good m (pickW m w p) ps
  ·rw [if_neg h, follow_good m w ps]
   show _ = followW m (pickW m w p) ps
   rw [pickW_no h]
end Go.Proofs.YtekjhefmhhcboaaGreat.Vw
