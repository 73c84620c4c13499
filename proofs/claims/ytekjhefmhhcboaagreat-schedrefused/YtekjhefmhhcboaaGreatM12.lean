/- The walks of end and call. -/
import Derived.Test.YtekjhefmhhcboaaGreatM11
import Derived.LaidEqlPtr
namespace Go.Proofs.YtekjhefmhhcboaaGreat.Vw
open Go.RowKit Vf Vm
section
variable {β : Type} {E : Env β} {c : Cx} {vB ev : Value} {o T : Nat} {L : Lab} {P : Nat → Nat} {w : World} {t : Tk} {x : β} {vR vO : Value}
theorem St.drew (H : St E c vB ev o T L P w t x vR vO) : St E c vB ev o T L P w.drew t x vR vO := H.below ⟨rfl, rfl, rfl, Nat.le_refl _, fun _ _ => rfl⟩
theorem WPost.drew {w1 : World} (H : WPost E c vB ev o T L w.drew w1 t x) : WPost E c vB ev o T L w w1 t x := by
 obtain ⟨L2, P2, vR2, vO2, h1, h2, h3⟩ := H
 exact ⟨L2, P2, vR2, vO2, h1, h2, h3.os, h3.tape, h3.output, h3.size, h3.block⟩
theorem St.row (H : St E c vB ev o T L P w t x vR vO) : ∃ R cap, vR = .slice (some ⟨R, 0, none⟩) t.ths.length cap ∧ t.ths.length ≤ cap ∧ ∀ j, j < t.ths.length → w.cell? ⟨R, j, none⟩ = some (.pointer (some ⟨P j, 0, none⟩)) := by
 rcases H.tk.rows.2 with ⟨_, hv⟩ | ⟨R, cap, cur, hv, _, hh, h1, h2, h3, h4⟩
 ·have := H.tk.hand; omega
 ·refine ⟨R, cap, hv, h1, fun j hj => ?_⟩
  have e : cur[j]? = some (.pointer (some ⟨P j, 0, none⟩)) := by
   have e2 : (cur.toList.take (t.ths.length * 1))[j]? = cur[j]? := by rw [List.getElem?_take, if_pos (by omega)]; simp
   rw [← e2, h4]
   exact ptrs_at P hj
  simp [World.cell?, hh, e]
theorem St.inj (H : St E c vB ev o T L P w t x vR vO) {i j : Nat} (hi : i < t.ths.length) (hj : j < t.ths.length) (h : P i = P j) : i = j := by
 obtain ⟨_, _, _, _, h1⟩ := H.tk.ths i _ (List.getElem?_eq_getElem hi)
 obtain ⟨_, _, _, _, h2⟩ := H.tk.ths j _ (List.getElem?_eq_getElem hj)
 have a := h1.l0
 have b := h2.l0
 rw [h, b] at a
 simp at a
 exact a.symm
end
section
variable {β : Type} (E : Env β) (c : Cx) (vB : Value) (N : Nat) (caps : Array Value) (hN : Hid (Hears E c N caps)) (o T : Nat) (L : Lab) (P : Nat → Nat) (w : World) (t : Tk) (x : β) (vR vO : Value) (H : Hid (St E c vB (.func (.func N) #[] caps) o T L P w t x vR vO)) (hlog : Hid (t.log.length ≤ 2000001))
include hN H hlog
end
theorem tk_set3 {c : Cx} {vB ev vR vR' vO : Value} {w : World} {T hp ov tr : Nat} (h : w.heap[T]? = some (tkO c vB ev vR hp vO ov tr)) : (w.setCell ⟨T, 3, none⟩ vR').heap[T]? = some (tkO c vB ev vR' hp vO ov tr) := by
 simp only [World.setCell, Array.getElem?_modify, if_true, h, Option.map_some]
 rfl
theorem ptrs_more (P : Nat → Nat) (n H : Nat) : ptrs (fun j => if j = n then H else P j) (n + 1) = ptrs P n ++ [.pointer (some ⟨H, 0, none⟩)] := by
 unfold ptrs
 rw [List.range_succ, List.map_append]
 congr 1
 ·refine List.map_congr_left (fun j hj => ?_)
  have : j ≠ n := by have := List.mem_range.1 hj; omega
  simp [this]
 ·simp
section
variable {β : Type} {E : Env β} {c : Cx} {vB ev : Value} {o T : Nat} {L L' : Lab} {P : Nat → Nat} {w w2 w4 : World} {t : Tk} {x : β} {vR vO : Value}
theorem St.started (H : St E c vB ev o T L P w t x vR vO) {h : Th} {Hn R cap : Nat} {ob : Obj} (hfew : t.ths.length ≤ 30) (hup : ∀ (i : Nat) h k, t.ths[i]? = some h → h.up = some k → k < t.ths.length) (hTh : ∀ P' : Nat → Nat, P' t.ths.length = Hn → ∃ S g r vU, ThIn c L' o t.ths.length P' w2 h S g r vU) (hE : Ex o t.ths.length L L' w) (hL : LOk c.B L' w2) (hB : Below w.heap.size w w2)
  (hown : w4.ownsRow 0 100 1 (.slice (some ⟨R, 0, none⟩) (t.ths.length + 1) cap) (t.ths.length + 1) (ptrs P t.ths.length ++ [.pointer (some ⟨Hn, 0, none⟩)])) (hg : (w2.alloc ob).grownBy w4 vR.ownBlock) (hR : vR.ownBlock = some R ∨ R = (w2.alloc ob).heap.size) :
  WPost E c vB ev o T L w (w4.setCell ⟨T, 3, none⟩ (.slice (some ⟨R, 0, none⟩) (t.ths.length + 1) cap)) { t with ths := t.ths ++ [h] } x := by
 have hz2 := hB.size
 have hz4 := hg.size
 simp at hz4
 have hTz := lt_of_block H.tk.blk
 have hRz : w2.heap.size ≤ R ∨ vR.ownBlock = some R := by
  rcases hR with hR | hR
  ·exact .inr hR
  ·left; simp at hR; omega
 have hR4 : R < w4.heap.size := (hown.lt R rfl).2
 have one : ∀ {b p : Nat}, L b = ⟨1, o, 0, p⟩ → b < w.heap.size → L' b = ⟨1, o, 0, p⟩ := fun e hb => (hE.1 _ hb).trans e
 have hRT : R ≠ T := fun e => by
  rcases hRz with hx | hx
  ·omega
  ·have a := H.tk.lR R hx; have b := H.tk.lT; rw [e, b] at a; cases a
 have blk : ∀ b, b < w2.heap.size → vR.ownBlock ≠ some b → b ≠ T → (w4.setCell ⟨T, 3, none⟩ (.slice (some ⟨R, 0, none⟩) (t.ths.length + 1) cap)).heap[b]? = w2.heap[b]? := fun b hb hn hT => (Below.heap_setCell _ _ _ _ hT).trans ((hg.block b (by simp; omega) (fun e => hn e.symm)).trans (Below.heap_alloc _ _ _ hb))
 have lab : ∀ b, b < w2.heap.size → (fun b => if b = R then (⟨1, o, 0, 5⟩ : Lb) else L' b) b = L' b := fun b hb => by
  by_cases e : b = R
  ·rcases hRz with hx | hx
   ·omega
   ·simp only [e, if_true]
    have hlt := (H.tk.rows.lt R hx).2
    rw [one (H.tk.lR R hx) hlt]
  ·simp only [e, if_false]
 have nR : ∀ {b i p : Nat}, L' b = ⟨1, o, i, p⟩ → ¬ (i = 0 ∧ p = 5) → vR.ownBlock ≠ some b := fun e hn hx => hn (by
  have a := one (H.tk.lR _ hx) (H.tk.rows.lt _ hx).2
  rw [e] at a
  simp at a
  exact a)
 have nT : ∀ {b i p : Nat}, L' b = ⟨1, o, i, p⟩ → ¬ (i = 0 ∧ p = 4) → b ≠ T := fun e hn hx => hn (by
  have a := one H.tk.lT hTz
  rw [← hx, e] at a
  simp at a
  exact a)
 have nT2 : ∀ {b : Nat}, (L' b).cls ≠ 1 → b ≠ T := fun hn hx => hn (by rw [hx, one H.tk.lT hTz])
 have nR2 : ∀ {b : Nat}, (L' b).cls ≠ 1 → vR.ownBlock ≠ some b := fun hn hx => hn (by rw [one (H.tk.lR _ hx) (H.tk.rows.lt _ hx).2])
 have hC : Chg (WB L o) w (w4.setCell ⟨T, 3, none⟩ (.slice (some ⟨R, 0, none⟩) (t.ths.length + 1) cap)) := by
  refine ⟨hg.os.trans hB.os, hg.tape.trans hB.tape, hg.output.trans hB.output, by simp [World.setCell]; omega, fun b hb hn => (blk b (by omega) (fun hx => hn (.inl ?_)) (fun hx => hn (.inl ?_))).trans (hB.block b hb)⟩
  ·rw [H.tk.lR b hx]; exact ⟨rfl, rfl⟩
  ·rw [hx, H.tk.lT]; exact ⟨rfl, rfl⟩
 refine ⟨fun b => if b = R then ⟨1, o, 0, 5⟩ else L' b, fun j => if j = t.ths.length then Hn else P j, .slice (some ⟨R, 0, none⟩) (t.ths.length + 1) cap, vO, ⟨⟨?_, ?_, ?_, fun i h' hh => ?_, by simp; omega, by have := H.tk.hand; simp; omega, (lab T (by omega)).trans (one H.tk.lT hTz), fun b hb => by cases hb; simp, fun b hb => ?_, fun b h1 h2 => ?_⟩, ?_, ⟨fun b hb => ?_, fun b hb => ?_, by have := hL.size; simp [World.setCell]; omega⟩, H.cx.chg H.ok hC⟩, ⟨fun b hb => (lab b (by omega)).trans (hE.1 b hb), fun b => ?_⟩, hC⟩
 ·have e : (if t.hand = t.ths.length then Hn else P t.hand) = P t.hand := by have := H.tk.hand; rw [if_neg (by omega)]
  show _ = some (tkO c vB ev _ (if t.hand = t.ths.length then Hn else P t.hand) vO t.over t.trap)
  rw [e]
  refine tk_set3 (vR := vR) ?_
  exact (hg.block T (by simp; omega) (fun e => (nR (one H.tk.lT hTz) (by omega)) e.symm)).trans ((Below.heap_alloc _ _ _ (by omega)).trans ((hB.block T hTz).trans H.tk.blk))
 ·have e : ({ t with ths := t.ths ++ [h] } : Tk).ths.length = t.ths.length + 1 := by simp
  rw [e, ptrs_more]
  exact own_keep hown (fun k hk => by cases hk; exact Below.heap_setCell _ _ _ _ hRT)
 ·refine own_keep H.tk.out (fun b hb => ?_)
  have hlt := (H.tk.out.lt b hb).2
  have l1 := one (H.tk.lO b hb) hlt
  exact (blk b (by omega) (nR l1 (by omega)) (nT l1 (by omega))).trans (hB.block b hlt)
 ·have keepB : ∀ (i : Nat) b, b < w2.heap.size → (L' b).cls = 1 ∧ (L' b).idx = o ∧ (L' b).th = i + 1 → (w4.setCell ⟨T, 3, none⟩ (.slice (some ⟨R, 0, none⟩) (t.ths.length + 1) cap)).heap[b]? = w2.heap[b]? := fun i b hb hx => by
   refine blk b hb (fun hy => ?_) (fun hy => ?_)
   ·rw [one (H.tk.lR _ hy) (H.tk.rows.lt _ hy).2] at hx; cases hx.2.2
   ·rw [hy, one H.tk.lT hTz] at hx; cases hx.2.2
  by_cases e : i < t.ths.length
  ·have hh' : t.ths[i]? = some h' := by
    have : (t.ths ++ [h])[i]? = some h' := hh
    rw [List.getElem?_append_left e] at this
    exact this
   obtain ⟨S, g, r, vU, hT⟩ := H.tk.ths i h' hh'
   have hP : (fun j => if j = t.ths.length then Hn else P j) i = P i := by show (if i = t.ths.length then Hn else P i) = P i; rw [if_neg (by omega)]
   have hU : upV (fun j => if j = t.ths.length then Hn else P j) h'.up = upV P h'.up := by
    cases hu : h'.up with
    | none => rfl
    | some k => have := hup i h' k hh' hu; unfold upV; simp only; rw [if_neg (by omega)]
   have hT2 : ThIn c L' o i (fun j => if j = t.ths.length then Hn else P j) w2 h' S g r vU := hT.keep hE.1 hP hU (fun b hb _ => hB.block b hb)
   exact ⟨S, g, r, vU, hT2.keep lab rfl rfl (keepB i)⟩
  ·have hl := (List.getElem?_eq_some_iff.1 hh).1
   simp at hl
   have e2 : i = t.ths.length := by omega
   subst e2
   have : h' = h := by
    have : (t.ths ++ [h])[t.ths.length]? = some h' := hh
    simp at this
    exact this.symm
   subst this
   obtain ⟨S, g, r, vU, hT⟩ := hTh (fun j => if j = t.ths.length then Hn else P j) (by simp)
   exact ⟨S, g, r, vU, hT.keep lab rfl rfl (keepB _)⟩
 ·have hlt := (H.tk.out.lt b hb).2
  exact (lab b (by omega)).trans (one (H.tk.lO b hb) hlt)
 ·show _ ≤ (t.ths ++ [h]).length
  simp only [List.length_append, List.length_singleton]
  by_cases e : b = R
  ·simp only [e, if_true]; omega
  ·simp only [e, if_false] at h1 h2 ⊢
   rcases hE.2 b with e2 | e2
   ·rw [e2] at h1 h2 ⊢; have := H.tk.labs b h1 h2; omega
   ·omega
 ·refine E.keep H.en (fun b hb => (lab b (by omega)).trans (hE.1 b hb)) (by simp [World.setCell]; omega) (fun b hb hx => ?_)
  have hx2 : (L' b).cls ≠ 1 := by rw [hE.1 b hb]; omega
  exact (blk b (by omega) (nR2 hx2) (nT2 hx2)).trans (hB.block b hb)
 ·have hb2 := hL.low b hb
  have hBs := H.ok.size
  exact (congrArg Lb.cls (lab b (by omega))).trans hb2
 ·have hb' : w4.heap.size ≤ b := by simpa [World.setCell] using hb
  have e : b ≠ R := by omega
  simp only [e, if_false]
  exact hL.new b (by omega)
 ·by_cases e : b = R
  ·right; left; simp [e]
  ·rcases hE.2 b with e2 | e2
   ·left; simp only [e, if_false]; exact e2
   ·right; left; simp only [e, if_false]; exact ⟨e2.1, e2.2.1⟩
end
section
variable {β : Type} (E : Env β) (c : Cx) (vB : Value) (N : Nat) (caps : Array Value) (hN : Hid (Hears E c N caps)) (o T : Nat) (L : Lab) (P : Nat → Nat) (w : World) (t : Tk) (x : β) (vR vO : Value) (H : Hid (St E c vB (.func (.func N) #[] caps) o T L P w t x vR vO)) (hlog : Hid (t.log.length ≤ 2000000))
include hN H hlog
end
end Go.Proofs.YtekjhefmhhcboaaGreat.Vw
