/- The walk of newThread. -/
import Derived.Test.YtekjhefmhhcboaaGreatM8
import Derived.Test.YtekjhefmhhcboaaGreatM4
import Derived.Test.YtekjhefmhhcboaaGreatM1
namespace Go.Proofs.YtekjhefmhhcboaaGreat.Vw
open Go.RowKit Vf Vm
abbrev emptyTh : Th := ⟨[], [], 0, none⟩
structure NtAt (c : Cx) (L1 : Lab) (o i H : Nat) (w0 w2 : World) (ps : List Int) (X : Nat) (ob : Obj) (k : Nat) (wr : World) : Prop where
 post : TPost c L1 o i (fun _ => H) w2 wr { emptyTh with ws := ps.take k }
 below : Below w0.heap.size w0 wr
 box : wr.heap[X]? = some ob
theorem below_of_chg {c : Cx} {L L1 : Lab} {o i : Nat} {w0 w2 w3 : World} (hfr : ∀ b, ¬ ThB L o i b) (hE : Ex o i L L1 w0) (hb : Below w0.heap.size w0 w2) (hc : Chg (ThB L1 o i) w2 w3) (_ : c = c) : Below w0.heap.size w0 w3 :=
 ⟨hc.os.trans hb.os, hc.tape.trans hb.tape, hc.output.trans hb.output, Nat.le_trans hb.size hc.size, fun b hb' => (hc.block b (by have := hb.size; omega) (fun hx => hfr b (by unfold ThB at hx ⊢; rw [hE.1 b hb'] at hx; exact hx))).trans (hb.block b hb')⟩
theorem NtAt.next {c : Cx} {L L1 L2 : Lab} {o i H : Nat} {w0 w2 wr w3 : World} {ps : List Int} {X : Nat} {ob : Obj} {k S : Nat} {x : Int} {vU : Value} (hfr : ∀ b, ¬ ThB L o i b) (hE : Ex o i L L1 w0) (hX : X < w0.heap.size) (hA : Below w0.heap.size w0 wr) (hbx : wr.heap[X]? = some ob) (hE2 : Ex o i L1 L2 w2) (hC2 : Chg (ThB L1 o i) w2 wr) (hz : w0.heap.size ≤ w2.heap.size) (hx : ps[k]? = some x) (hp : SPost c L2 o i (fun _ => H) wr w3 { emptyTh with ws := ps.take k ++ [x] } S vU) : NtAt c L1 o i H w0 w2 ps X ob (k + 1) w3 := by
 have e : ps.take k ++ [x] = ps.take (k + 1) := by rw [List.take_add_one, hx]; rfl
 rw [e] at hp
 have hT := hp.toT.trans hE2 hC2
 obtain ⟨L3, g3, r3, _, _, _, h4⟩ := hp
 have hb : Below w0.heap.size w0 w3 := below_of_chg (c := c) hfr (hE.trans hE2 hz) hA h4 rfl
 exact ⟨hT, hb, (hb.block X hX).trans ((hA.block X hX).symm.trans hbx)⟩
def ptrs (P : Nat → Nat) (n : Nat) : List Value := (List.range n).map fun i => .pointer (some ⟨P i, 0, none⟩)
theorem ptrs_at (P : Nat → Nat) {n i : Nat} (h : i < n) : (ptrs P n)[i]? = some (.pointer (some ⟨P i, 0, none⟩)) := by simp [ptrs, h]
abbrev tkO (c : Cx) (vB ev vR : Value) (hp : Nat) (vO : Value) (over trap : Nat) : Obj := .cells #[.slice c.au c.m.units.length c.cu, vB, ev, vR, .pointer (some ⟨hp, 0, none⟩), vO, .int .i64 over, .int .i64 trap] 102 (0, 0)
structure TkIn (c : Cx) (vB ev : Value) (L : Lab) (o T : Nat) (P : Nat → Nat) (w : World) (t : Tk) (vR vO : Value) : Prop where
 blk : w.heap[T]? = some (tkO c vB ev vR (P t.hand) vO t.over t.trap)
 rows : w.ownsRow 0 100 1 vR t.ths.length (ptrs P t.ths.length)
 out : w.ownsRow 0 2 1 vO t.out.length (ints t.out)
 ths : ∀ (i : Nat) h, t.ths[i]? = some h → ∃ S g r vU, ThIn c L o i P w h S g r vU
 few : t.ths.length ≤ 31
 hand : t.hand < t.ths.length
 lT : L T = ⟨1, o, 0, 4⟩
 lR : ∀ b, vR.ownBlock = some b → L b = ⟨1, o, 0, 5⟩
 lO : ∀ b, vO.ownBlock = some b → L b = ⟨1, o, 0, 6⟩
 labs : ∀ b, (L b).cls = 1 → (L b).idx = o → (L b).th ≤ t.ths.length
structure Env (β : Type) where
 En : Lab → World → List Ev → β → Prop
 keep : ∀ {L L' : Lab} {w w' : World} {l : List Ev} {x : β}, En L w l x → Ext L L' w → w.heap.size ≤ w'.heap.size → (∀ b, b < w.heap.size → (L b).cls ≠ 1 → w'.heap[b]? = w.heap[b]?) → En L' w' l x
def EB (L : Lab) (b : Nat) : Prop := (L b).cls = 2 ∨ (L b).cls = 3
def WB (L : Lab) (o b : Nat) : Prop := ((L b).cls = 1 ∧ (L b).idx = o) ∨ EB L b
def ExW (o : Nat) (L L' : Lab) (w : World) : Prop := Ext L L' w ∧ ∀ b, L' b = L b ∨ WB L' o b
theorem ExW.refl (o : Nat) (L : Lab) (w : World) : ExW o L L w := ⟨.refl _ _, fun _ => .inl rfl⟩
theorem ExW.trans {o : Nat} {L L1 L2 : Lab} {w w1 : World} (h : ExW o L L1 w) (k : ExW o L1 L2 w1) (hz : w.heap.size ≤ w1.heap.size) : ExW o L L2 w := ⟨h.1.trans k.1 hz, fun b => by
 rcases k.2 b with e | e
 ·rcases h.2 b with e2 | e2
  ·exact .inl (e.trans e2)
  ·unfold WB EB at e2 ⊢; rw [← e] at e2; exact .inr e2
 ·exact .inr e⟩
theorem Chg.transW {o : Nat} {L L1 : Lab} {w w1 w2 : World} (hE : ExW o L L1 w) (h : Chg (WB L o) w w1) (k : Chg (WB L1 o) w1 w2) : Chg (WB L o) w w2 :=
 ⟨k.os.trans h.os, k.tape.trans h.tape, k.output.trans h.output, Nat.le_trans h.size k.size, fun b hb hn => (k.block b (by have := h.size; omega) (fun hx => hn (by unfold WB EB at hx ⊢; rw [hE.1 b hb] at hx; exact hx))).trans (h.block b hb hn)⟩
structure St {β : Type} (E : Env β) (c : Cx) (vB ev : Value) (o T : Nat) (L : Lab) (P : Nat → Nat) (w : World) (t : Tk) (x : β) (vR vO : Value) : Prop where
 tk : TkIn c vB ev L o T P w t vR vO
 en : E.En L w t.log x
 ok : LOk c.B L w
 cx : CxIn c w
def WPost {β : Type} (E : Env β) (c : Cx) (vB ev : Value) (o T : Nat) (L : Lab) (w w' : World) (t : Tk) (x : β) : Prop := ∃ L' P' vR vO, St E c vB ev o T L' P' w' t x vR vO ∧ ExW o L L' w ∧ Chg (WB L o) w w'
section
variable {β : Type} {E : Env β} {c : Cx} {vB ev : Value} {o T : Nat} {L L1 : Lab} {P : Nat → Nat} {w w1 w2 : World} {t : Tk} {x : β} {vR vO : Value}
theorem WPost.trans (hE : ExW o L L1 w) (hC : Chg (WB L o) w w1) (H : WPost E c vB ev o T L1 w1 w2 t x) : WPost E c vB ev o T L w w2 t x := by
 obtain ⟨L2, P2, vR2, vO2, h1, h2, h3⟩ := H
 exact ⟨L2, P2, vR2, vO2, h1, hE.trans h2 hC.size, hC.transW hE h3⟩
theorem WPost.refl (H : St E c vB ev o T L P w t x vR vO) : WPost E c vB ev o T L w w t x := ⟨L, P, vR, vO, H, .refl _ _ _, .refl _ _⟩
theorem WPost.drewN {d : Nat} (H : WPost E c vB ev o T L (w.drewN d) w1 t x) : WPost E c vB ev o T L w w1 t x := by
 obtain ⟨L2, P2, vR2, vO2, h1, h2, h3⟩ := H
 exact ⟨L2, P2, vR2, vO2, h1, h2, h3.os, h3.tape, h3.output, h3.size, h3.block⟩
theorem WPost.alloc {ob : Obj} (H : WPost E c vB ev o T L (w.alloc ob) w1 t x) : WPost E c vB ev o T L w w1 t x := by
 obtain ⟨L2, P2, vR2, vO2, h1, h2, h3⟩ := H
 have hz := h3.size
 simp at hz
 exact ⟨L2, P2, vR2, vO2, h1, ⟨fun b hb => h2.1 b (by simp; omega), h2.2⟩, h3.os, h3.tape, h3.output, by omega, fun b hb hn => (h3.block b (by simp; omega) hn).trans (Below.heap_alloc _ _ _ hb)⟩
theorem CxIn.chg (h : CxIn c w) (hk : LOk c.B L w) (hC : Chg (WB L o) w w1) : CxIn c w1 := h.low (hC.low hk.size (fun b hb hx => by have := hk.low b hb; unfold WB EB at hx; omega))
theorem St.below (H : St E c vB ev o T L P w t x vR vO) (hb : Below w.heap.size w w1) : St E c vB ev o T L P w1 t x vR vO := by
 have blk : ∀ b, b < w.heap.size → w1.heap[b]? = w.heap[b]? := hb.block
 exact ⟨⟨(blk _ (lt_of_block H.tk.blk)).trans H.tk.blk, own_keep H.tk.rows (fun b hb => blk b (H.tk.rows.lt b hb).2), own_keep H.tk.out (fun b hb => blk b (H.tk.out.lt b hb).2), fun i h hh => by
  obtain ⟨S, g, r, vU, hT⟩ := H.tk.ths i h hh
  exact ⟨S, g, r, vU, hT.keep (.refl _ _) rfl rfl (fun b hb _ => blk b hb)⟩, H.tk.few, H.tk.hand, H.tk.lT, H.tk.lR, H.tk.lO, H.tk.labs⟩, E.keep H.en (.refl _ _) hb.size (fun b hb _ => blk b hb), H.ok.on hb.size, H.cx.low (fun b hb' => blk b (by have := H.ok.size; omega))⟩
theorem St.thread (H : St E c vB ev o T L P w t x vR vO) {i : Nat} {h h' : Th} (hh : t.ths[i]? = some h) (hp : TPost c L o i P w w1 h') : ∃ L', St E c vB ev o T L' P w1 (t.set i h') x vR vO ∧ ExW o L L' w ∧ Chg (WB L o) w w1 := by
 obtain ⟨L', S, g, r, vU, hT, hE, hL, hC⟩ := hp
 have hil := (List.getElem?_eq_some_iff.1 hh).1
 have hW : Chg (WB L o) w w1 := hC.mono (fun b _ hx => .inl ⟨hx.1, hx.2.1⟩)
 have blk : ∀ b, b < w.heap.size → ¬ ThB L o i b → w1.heap[b]? = w.heap[b]? := hC.block
 have k0 : ∀ {b p : Nat}, L b = ⟨1, o, 0, p⟩ → ¬ ThB L o i b := fun e hx => by unfold ThB at hx; rw [e] at hx; cases hx.2.2
 refine ⟨L', ⟨⟨?_, ?_, ?_, fun j hj hhj => ?_, by simpa [Tk.set] using H.tk.few, by simpa [Tk.set] using H.tk.hand, (hE.1 _ (lt_of_block H.tk.blk)).trans H.tk.lT, fun b hb => (hE.1 _ (H.tk.rows.lt b hb).2).trans (H.tk.lR b hb), fun b hb => (hE.1 _ (H.tk.out.lt b hb).2).trans (H.tk.lO b hb), fun b h1 h2 => ?_⟩, ?_, hL, H.cx.chg H.ok hW⟩, ⟨hE.1, fun b => ?_⟩, hW⟩
 ·exact (blk _ (lt_of_block H.tk.blk) (k0 H.tk.lT)).trans H.tk.blk
 ·have : (t.set i h').ths.length = t.ths.length := by simp [Tk.set]
  rw [this]
  exact own_keep H.tk.rows (fun b hb => blk b (H.tk.rows.lt b hb).2 (k0 (H.tk.lR b hb)))
 ·exact own_keep H.tk.out (fun b hb => blk b (H.tk.out.lt b hb).2 (k0 (H.tk.lO b hb)))
 ·by_cases e : j = i
  ·subst e
   simp only [Tk.set, List.getElem?_set_self hil, Option.some.injEq] at hhj
   subst hhj
   exact ⟨S, g, r, vU, hT⟩
  ·simp only [Tk.set, List.getElem?_set_ne (fun e2 => e e2.symm)] at hhj
   obtain ⟨S2, g2, r2, vU2, hT2⟩ := H.tk.ths j hj hhj
   exact ⟨S2, g2, r2, vU2, hT2.keep hE.1 rfl rfl (fun b hb hx => blk b hb (fun hy => e (by unfold ThB at hy; omega)))⟩
 ·have hl : (t.set i h').ths.length = t.ths.length := by simp [Tk.set]
  rw [hl]
  rcases hE.2 b with e | e
  ·rw [e] at h1 h2 ⊢; exact H.tk.labs b h1 h2
  ·omega
 ·exact E.keep H.en hE.1 hC.size (fun b hb hx => blk b hb (fun hy => by unfold ThB at hy; omega))
 ·rcases hE.2 b with e | e
  ·exact .inl e
  ·exact .inr (.inl ⟨e.1, e.2.1⟩)
end
abbrev evV (e : Ev) : Value := .agg #[.int .i64 0, .int .i64 e.kind, .int .i64 e.box, .int .i64 e.v]
def ExE (L L' : Lab) (w : World) : Prop := Ext L L' w ∧ ∀ b, L' b = L b ∨ EB L' b
structure Hears {β : Type} (E : Env β) (c : Cx) (N : Nat) (caps : Array Value) : Prop where
 enter : ∀ (args : Array Value) (w : World), Sem.run Tryz.prog (callFunc N args) w = .ok (.enter N args) w
 call : ∀ (e : Ev) (L : Lab) (w : World) (l : List Ev) (x : β), Hid (E.En L w l x) → Hid (LOk c.B L w) → l.length ≤ 2000001 → Calls Tryz.prog N (#[evV e] ++ caps) w fun r w' => r = .returned (.tuple #[]) ∧ ∃ L', E.En L' w' (l ++ [e]) x ∧ ExE L L' w ∧ LOk c.B L' w' ∧ Chg (EB L) w w'
section
variable {β : Type} {E : Env β} {c : Cx} {vB : Value} {N : Nat} {caps : Array Value} {o T : Nat} {L : Lab} {P : Nat → Nat} {w w1 : World} {t : Tk} {x : β} {vR vO : Value}
theorem St.heard {ev : Value} (H : St E c vB ev o T L P w t x vR vO) {e : Ev} {L' : Lab} (hn : E.En L' w1 (t.log ++ [e]) x) (hE : ExE L L' w) (hL : LOk c.B L' w1) (hC : Chg (EB L) w w1) : WPost E c vB ev o T L w w1 (t.note e) x := by
 have hW : Chg (WB L o) w w1 := hC.mono (fun b _ hx => .inr hx)
 have blk : ∀ b, b < w.heap.size → (L b).cls = 1 → w1.heap[b]? = w.heap[b]? := fun b hb h1 => hC.block b hb (fun hx => by unfold EB at hx; omega)
 have one : ∀ {b i p : Nat}, L b = ⟨1, o, i, p⟩ → (L b).cls = 1 := fun e => by rw [e]
 refine ⟨L', P, vR, vO, ⟨⟨(blk _ (lt_of_block H.tk.blk) (one H.tk.lT)).trans H.tk.blk, own_keep H.tk.rows (fun b hb => blk b (H.tk.rows.lt b hb).2 (one (H.tk.lR b hb))), own_keep H.tk.out (fun b hb => blk b (H.tk.out.lt b hb).2 (one (H.tk.lO b hb))), fun i h hh => ?_, H.tk.few, H.tk.hand, (hE.1 _ (lt_of_block H.tk.blk)).trans H.tk.lT, fun b hb => (hE.1 _ (H.tk.rows.lt b hb).2).trans (H.tk.lR b hb), fun b hb => (hE.1 _ (H.tk.out.lt b hb).2).trans (H.tk.lO b hb), fun b h1 h2 => ?_⟩, hn, hL, H.cx.chg H.ok hW⟩, ⟨hE.1, fun b => ?_⟩, hW⟩
 ·obtain ⟨S, g, r, vU, hT⟩ := H.tk.ths i h hh
  exact ⟨S, g, r, vU, hT.keep hE.1 rfl rfl (fun b hb hx => blk b hb hx.1)⟩
 ·rcases hE.2 b with e | e
  ·rw [e] at h1 h2 ⊢; exact H.tk.labs b h1 h2
  ·unfold EB at e; omega
 ·rcases hE.2 b with e | e
  ·exact .inl e
  ·exact .inr (.inr e)
theorem St.own {ev : Value} (H : St E c vB ev o T L P w t x vR vO) {t' : Tk} (hb : ∀ b, b ≠ T → w1.heap[b]? = w.heap[b]?) (hz : w1.heap.size = w.heap.size) (hos : w1.os = w.os ∧ w1.tape = w.tape ∧ w1.output = w.output) (hT : w1.heap[T]? = some (tkO c vB ev vR (P t'.hand) vO t'.over t'.trap)) (e1 : t'.ths = t.ths) (e2 : t'.out = t.out) (e3 : t'.log = t.log) (e4 : t'.hand < t.ths.length) : St E c vB ev o T L P w1 t' x vR vO ∧ Chg (WB L o) w w1 := by
 have ne : ∀ {b i p : Nat}, L b = ⟨1, o, i, p⟩ → ¬ (i = 0 ∧ p = 4) → b ≠ T := fun e hn e2 => hn (by have := H.tk.lT; rw [← e2, e] at this; simp at this; exact this)
 have hC : Chg (WB L o) w w1 := ⟨hos.1, hos.2.1, hos.2.2, by omega, fun b hb' hn => hb b (fun e => hn (.inl (by rw [e, H.tk.lT]; exact ⟨rfl, rfl⟩)))⟩
 refine ⟨⟨⟨hT, ?_, ?_, ?_, by rw [e1]; exact H.tk.few, by rw [e1]; exact e4, H.tk.lT, H.tk.lR, H.tk.lO, by rw [e1]; exact H.tk.labs⟩, ?_, H.ok.on (by omega), H.cx.chg H.ok hC⟩, hC⟩
 ·rw [e1]; exact own_keep H.tk.rows (fun b hb' => hb b (ne (H.tk.lR b hb') (by omega)))
 ·rw [e2]; exact own_keep H.tk.out (fun b hb' => hb b (ne (H.tk.lO b hb') (by omega)))
 ·rw [e1]
  intro i h hh
  obtain ⟨S, g, r, vU, hTh⟩ := H.tk.ths i h hh
  exact ⟨S, g, r, vU, hTh.keep (.refl _ _) rfl rfl (fun b _ hx => hb b (fun e => by rw [e, H.tk.lT] at hx; cases hx.2.2))⟩
 ·rw [e3]
  exact E.keep H.en (.refl _ _) (by omega) (fun b _ hx => hb b (fun e => by rw [e, H.tk.lT] at hx; exact hx rfl))
end
end Go.Proofs.YtekjhefmhhcboaaGreat.Vw
