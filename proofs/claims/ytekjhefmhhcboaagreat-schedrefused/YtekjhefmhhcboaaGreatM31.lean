/- The walks of pick and follow. -/
import Derived.Test.YtekjhefmhhcboaaGreatM30
import Derived.Laws.Small
namespace Go.Proofs.YtekjhefmhhcboaaGreat.Vw
open Go.RowKit Vf Vm
theorem go_log {β : Type} (X : Bxs β) (m : Md) : ∀ (n : Nat) (t : Tk) (x : β), (go X m n t x).2.1.log.length ≤ t.log.length + 2 * (go X m n t x).1
 | 0, t, x => Nat.le_refl _
 | n + 1, t, x => by
  by_cases h : (stat X m t x).1 = 1
  ·rw [go_yes h]
   have ih := go_log X m n (one X m t x).1 (one X m t x).2
   have h1 : (one X m t x).1.log.length ≤ t.log.length + 2 := act_log m (t.ins m) (t.goto (t.frame.pc + 1)) (X.head x (t.ins m).a.toNat)
   dsimp only
   omega
  ·rw [go_no h]
   exact Nat.le_refl _
theorem WI.pick {m : Md} {K : KM} {W : Wd} (h : WI m K W) {o : Nat} {t : Tk} (ht : W.ts[o]? = some t) {p : Pk} (ho : p.task = o) (hr : refE m W p = 0) (h2 : MI m K (W.steps + (ran m W p).1) (ran m W p).2.1 (ran m W p).2.2) (hle : (ran m W p).1 ≤ 20000 - W.steps) : WI m K (pickW m W p) := by
 unfold pickW
 rw [if_pos hr]
 have hol := (List.getElem?_eq_some_iff.1 ht).1
 have hst := h.steps
 have hev := h.evs
 have hgl : (ran m W p).2.1.log.length ≤ (W.tk p.task).log.length + 2 * (ran m W p).1 := go_log mbX m _ _ _
 refine ⟨fun j u hu => ?_, by show W.steps + _ ≤ 20000; omega, ?_, by simpa using h.few, by
  show (W.evs ++ ((ran m W p).2.1.log.drop (W.tk p.task).log.length).map fun e => (p.task.toNat, e)).length ≤ 2 * (W.steps + _)
  rw [List.length_append, List.length_map, List.length_drop]
  omega⟩
 ·simp only [ho, Int.toNat_natCast] at hu
  rw [List.getElem?_set] at hu
  split at hu
  ·cases hu; exact h2
  ·obtain ⟨a, b, c, d, e, _⟩ := h.tasks j u hu
   exact ⟨a, b, by show u.out.length ≤ W.steps + _; omega, by show u.log.length ≤ 2 * (W.steps + _); omega, h2.len, h2.boxes⟩
 ·show -1 ≤ p.task ∧ p.task < ((W.ts.set p.task.toNat _).length : Int)
  rw [ho]
  simp
  omega
section
variable {s : Sx} {B : EarW} {L L1 : Lab} {w w1 : World} {W : Wd} {vt vx : Value}
theorem WdIn.ran (H : WdIn s B L w W vt vx) {o : Nat} {t t' : Tk} {x' : List Bq} (ht : W.ts[o]? = some t) {P : Nat → Nat} {vR vO : Value} (hS : St (s.E (earOf B o W.evs t.log.length)) s.c s.vb (s.ev o) o (s.T o) L1 P w1 t' x' vR vO) (hE : ExW o L L1 w) (hC : Chg (WB L o) w w1) (steps : Nat) (last : Int) :
  w1.heap[s.WB]? = some (wdO vt vx W.steps W.last) ∧ WdIn s B L1 ((w1.setCell ⟨s.WB, 2, none⟩ (.int .i64 steps)).setCell ⟨s.WB, 3, none⟩ (.int .i64 last)) ⟨W.ts.set o t', x', steps, last, W.evs ++ (t'.log.drop t.log.length).map fun e => (o, e)⟩ vt vx ∧ Kp L w ((w1.setCell ⟨s.WB, 2, none⟩ (.int .i64 steps)).setCell ⟨s.WB, 3, none⟩ (.int .i64 last)) := by
 have hz := hC.size
 have hWz := lt_of_block H.blk
 have c0 : ∀ b, b < w.heap.size → (L b).cls = 0 ∨ (L b).cls = 4 → w1.heap[b]? = w.heap[b]? := fun b hb h0 => hC.block b hb (fun hx => by unfold Vw.WB EB at hx; omega)
 have hblk := (c0 _ hWz (.inr H.lW)).trans H.blk
 have hset : ∀ b, b ≠ s.WB → ((w1.setCell ⟨s.WB, 2, none⟩ (.int .i64 steps)).setCell ⟨s.WB, 3, none⟩ (.int .i64 last)).heap[b]? = w1.heap[b]? := fun b hb => (Below.heap_setCell _ ⟨s.WB, 3, none⟩ _ _ hb).trans (Below.heap_setCell _ ⟨s.WB, 2, none⟩ _ _ hb)
 have hsz : ((w1.setCell ⟨s.WB, 2, none⟩ (.int .i64 steps)).setCell ⟨s.WB, 3, none⟩ (.int .i64 last)).heap.size = w1.heap.size := by simp [World.setCell]
 have lab : ∀ b, b < w.heap.size → L1 b = L b := hE.1
 have hneW : ∀ b, b < w1.heap.size → (L1 b).cls ≠ 4 → b ≠ s.WB := fun b _ h0 e => h0 (by rw [e, lab _ hWz]; exact H.lW)
 generalize hW2 : (w1.setCell ⟨s.WB, 2, none⟩ (.int .i64 steps)).setCell ⟨s.WB, 3, none⟩ (.int .i64 last) = w2 at *
 have hol := (List.getElem?_eq_some_iff.1 ht).1
 have rowk : ∀ {e n : Nat} {v : Value} {xs : List Value}, w.ownsRow 0 e 1 v n xs → e ≠ 75 → (∀ b, v.ownBlock = some b → (L b).cls = 0) → w2.ownsRow 0 e 1 v n xs := fun ho he hl => own_keep ho (fun b hb => by
  have hbz := (ho.lt b hb).2
  refine (hset b (fun e2 => ?_)).trans (c0 b hbz (.inl (hl b hb)))
  obtain ⟨cur, hc⟩ := own_ty ho hb
  rw [e2, H.blk] at hc
  simp at hc
  exact he hc.2.symm)
 refine ⟨hblk, ⟨?_, ?_, ?_, ?_, fun b hb => ?_, fun b hb => ?_, H.low, fun j u hu => ?_, ?_, ?_, hS.ok.on (by omega), hS.cx.low (fun b hb => hset b (fun e => by have := H.low s.WB (.inr (.inr rfl)); omega))⟩, ⟨?_, ?_, ?_, by omega, fun b hb h0 => (hset b (fun e => by rw [e, H.lW] at h0; cases h0)).trans (c0 b hb (.inl h0))⟩⟩
 ·rw [← hW2]
  simp only [World.setCell, Array.getElem?_modify, if_true, hblk, Option.map_some]
  rfl
 ·rw [lab _ hWz]; exact H.lW
 ·have e : (W.ts.set o t').length = W.ts.length := by simp
  show w2.ownsRow 0 _ 1 vt (W.ts.set o t').length (ptrs s.T (W.ts.set o t').length)
  rw [e]
  exact rowk H.trow (by decide) H.lt
 ·exact rowk H.brow (by decide) H.lx
 ·rw [lab _ (H.trow.lt b hb).2]; exact H.lt b hb
 ·rw [lab _ (H.brow.lt b hb).2]; exact H.lx b hb
 ·simp only at hu
  rw [List.getElem?_set] at hu
  split at hu
  ·rename_i e
   subst e
   cases hu
   exact ⟨P, vR, vO, tk_below hS.tk (fun b hb h1 _ => hset b (hneW b hb (by omega))) (.refl _ _) hS.tk.labs⟩
  ·rename_i e
   obtain ⟨P', vR', vO', hT⟩ := H.tasks j u hu
   refine ⟨P', vR', vO', tk_below hT (fun b hb h1 h2 => ?_) (fun b hb => lab b hb) (fun b h1 h2 => ?_)⟩
   ·exact (hset b (fun e2 => by rw [e2, H.lW] at h1; cases h1)).trans (hC.block b hb (fun hx => by unfold Vw.WB EB at hx; omega))
   ·rcases hE.2 b with e2 | e2
    ·rw [e2] at h1 h2 ⊢; exact hT.labs b h1 h2
    ·unfold Vw.WB EB at e2; omega
 ·by_cases h0 : 0 < s.c.m.boxes.length
  ·have hr := hS.en.1.row 0 h0
   exact hS.en.1.keep (.refl _ _) (by omega) (fun b hb hx => hset b (hneW b hb (by rcases hx with rfl | hx <;> omega)))
  ·have hx0 : x' = [] := List.eq_nil_of_length_eq_zero (by have := hS.en.1.len; omega)
   exact ⟨hS.en.1.len, fun n hn => by omega, fun n q hq => by rw [hx0] at hq; cases hq⟩
 ·exact B.keep hS.en.2.2 (.refl _ _) (by omega) (fun b hb hx => hset b (hneW b hb (by omega)))
 ·rw [← hW2]; exact hC.os
 ·rw [← hW2]; exact hC.tape
 ·rw [← hW2]; exact hC.output
theorem WdIn.more {L0 : Lab} {w0 : World} {W0 : Wd} (H0 : WdIn s B L0 w0 W0 vt vx) (H : WdIn s B L w W vt vx) (F : Nat → Prop) (hF : ∀ k, F k → w0.heap.size ≤ k ∧ (L k).cls = 0) (hw : ∀ k, k < w.heap.size → ¬ F k → w1.heap[k]? = w.heap[k]?) (hz : w.heap.size ≤ w1.heap.size) : WdIn s B L w1 W vt vx := by
 have nb : ∀ k, (L k).cls ≠ 0 → ¬ F k := fun k hk e => hk (hF k e).2
 have lo : ∀ k, k < w0.heap.size → ¬ F k := fun k hk e => by have := (hF k e).1; omega
 have hrb : MbEn s.Q s.c.m.boxes.length s.rb 0 L w1 W.x := by
  by_cases h0 : 0 < s.c.m.boxes.length
  ·have hr := H0.boxes.row 0 h0
   exact H.boxes.keep (.refl _ _) hz (fun k hk hx => hw k hk (hx.elim (fun e => by rw [e]; exact lo _ hr.1) (fun e => nb k (by omega))))
  ·have hx0 : W.x = [] := List.eq_nil_of_length_eq_zero (by have := H.boxes.len; omega)
   exact ⟨H.boxes.len, fun n hn => by omega, fun n q hq => by rw [hx0] at hq; cases hq⟩
 refine ⟨(hw _ (lt_of_block H.blk) (nb _ (by rw [H.lW]; decide))).trans H.blk, H.lW, own_keep H.trow (fun k hk => hw k (H.trow.lt k hk).2 (lo k (H0.trow.lt k hk).2)), own_keep H.brow (fun k hk => hw k (H.brow.lt k hk).2 (lo k (H0.brow.lt k hk).2)), H.lt, H.lx, H.low, fun o t ht => ?_, hrb, B.keep H.ear (.refl _ _) hz (fun k hk hx => hw k hk (nb k (by omega))), H.ok.on hz, H.cx.low (fun k hk => hw k (by have := H.ok.size; omega) (lo k (by have := H0.ok.size; omega)))⟩
 obtain ⟨P, vR, vO, h⟩ := H.tasks o t ht
 exact ⟨P, vR, vO, tk_below h (fun k hk h1 _ => hw k hk (nb k (by omega))) (.refl _ _) h.labs⟩
theorem WdIn.far {L0 : Lab} {w0 : World} {W0 : Wd} (H0 : WdIn s B L0 w0 W0 vt vx) (H : WdIn s B L w W vt vx) {b : Nat} (hb0 : w0.heap.size ≤ b) (hl : (L b).cls = 0) (hw : ∀ k, k ≠ b → w1.heap[k]? = w.heap[k]?) (hz : w1.heap.size = w.heap.size) : WdIn s B L w1 W vt vx :=
 H0.more H (fun k => k = b) (fun k e => by rw [e]; exact ⟨hb0, hl⟩) (fun k _ hk => hw k hk) (by omega)
end
def PkIn (B : Nat) (w : World) (ps : List Pk) (a : Option Addr) : Prop := ∀ (i : Nat) p, ps[i]? = some p → ∃ b off, a = some ⟨b, off, none⟩ ∧ b < B ∧ w.cell? ⟨b, off + i * 2, none⟩ = some (.int .i64 p.task) ∧ w.cell? ⟨b, off + i * 2 + 1, none⟩ = some (.int .i64 p.q)
def ddc (d : Dd) : List Value := [.int .i64 d.err, .int .i64 (d.steps : Int)]
def ddCells (l : List Dd) : List Value := l.flatMap ddc
end Go.Proofs.YtekjhefmhhcboaaGreat.Vw
