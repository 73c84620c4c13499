/- A task in memory, and what is round it; the walks of fall and put. -/
import Derived.Test.YtlbihbfgglnfnaaGreatM31
import Derived.Test.YtlbihbfgglnfnaaGreatM4
set_option maxRecDepth 100000
set_option maxHeartbeats 1000000
namespace Go.Proofs.YtlbihbfgglnfnaaGreat.Vw
open Go.RowKit Vf Vm
theorem set_same {α : Type} {l : List α} {i : Nat} {x : α} (h : l[i]? = some x) : l.set i x = l := by
 refine List.ext_getElem? (fun j => ?_)
 rw [List.getElem?_set]
 split
 ·rename_i e
  subst e
  split
  ·exact h.symm
  ·rename_i hn; rw [List.getElem?_eq_none (by omega)] at h; cases h
 ·rfl
def ptrs (P : Nat → Nat) (n : Nat) : List Value := (List.range n).map fun i => .pointer (some ⟨P i, 0, none⟩)
theorem ptrs_at (P : Nat → Nat) {n i : Nat} (h : i < n) : (ptrs P n)[i]? = some (.pointer (some ⟨P i, 0, none⟩)) := by simp [ptrs, h]
abbrev tkO (c : Cx) (vB ev vR : Value) (hp : Nat) (vO : Value) (over trap : Nat) : Obj := .cells #[.slice c.au c.m.units.length c.cu, vB, ev, vR, .pointer (some ⟨hp, 0, none⟩), vO, .int .i64 over, .int .i64 trap] 89 (0, 0)
structure TkIn (c : Cx) (vB ev : Value) (L : Lab) (o T : Nat) (P : Nat → Nat) (w : World) (t : Tk) (vR vO : Value) : Prop where
 blk : w.heap[T]? = some (tkO c vB ev vR (P t.hand) vO t.over t.trap)
 rows : w.ownsRow 0 78 1 vR t.ths.length (ptrs P t.ths.length)
 out : w.ownsRow 0 2 1 vO t.out.length (ints t.out)
 ths : ∀ (i : Nat) h, t.ths[i]? = some h → ∃ S g r vU, ThIn c L o i P w h S g r vU
 few : t.ths.length ≤ 31
 hand : t.hand < t.ths.length
 lT : L T = ⟨1, o, 0, 4⟩
 lR : ∀ b, vR.ownBlock = some b → L b = ⟨1, o, 0, 5⟩
 lO : ∀ b, vO.ownBlock = some b → L b = ⟨1, o, 0, 6⟩
 labs : ∀ b, (L b).cls = 1 → (L b).idx = o → (L b).th ≤ t.ths.length
structure Env (β : Type) where
 En : Lab → World → List Ev → β → Prop
 keep : ∀ {L L' : Lab} {w w' : World} {l : List Ev} {x : β}, En L w l x → Ext L L' w → w.heap.size ≤ w'.heap.size → (∀ b, b < w.heap.size → (L b).cls ≠ 1 → w'.heap[b]? = w.heap[b]?) → En L' w' l x
def EB (L : Lab) (b : Nat) : Prop := (L b).cls = 2 ∨ (L b).cls = 3
def WB (L : Lab) (o b : Nat) : Prop := ((L b).cls = 1 ∧ (L b).idx = o) ∨ EB L b
def ExW (o : Nat) (L L' : Lab) (w : World) : Prop := Ext L L' w ∧ ∀ b, L' b = L b ∨ WB L' o b
theorem ExW.refl (o : Nat) (L : Lab) (w : World) : ExW o L L w := ⟨.refl _ _, fun _ => .inl rfl⟩
theorem ExW.trans {o : Nat} {L L1 L2 : Lab} {w w1 : World} (h : ExW o L L1 w) (k : ExW o L1 L2 w1) (hz : w.heap.size ≤ w1.heap.size) : ExW o L L2 w := ⟨h.1.trans k.1 hz, fun b => by
 rcases k.2 b with e | e
 ·rcases h.2 b with e2 | e2
  ·exact .inl (e.trans e2)
  ·unfold WB EB at e2 ⊢; rw [← e] at e2; exact .inr e2
 ·exact .inr e⟩
theorem Chg.transW {o : Nat} {L L1 : Lab} {w w1 w2 : World} (hE : ExW o L L1 w) (h : Chg (WB L o) w w1) (k : Chg (WB L1 o) w1 w2) : Chg (WB L o) w w2 :=
 ⟨k.os.trans h.os, k.tape.trans h.tape, k.output.trans h.output, Nat.le_trans h.size k.size, fun b hb hn => (k.block b (by have := h.size; omega) (fun hx => hn (by unfold WB EB at hx ⊢; rw [hE.1 b hb] at hx; exact hx))).trans (h.block b hb hn)⟩
structure St {β : Type} (E : Env β) (c : Cx) (vB ev : Value) (o T : Nat) (L : Lab) (P : Nat → Nat) (w : World) (t : Tk) (x : β) (vR vO : Value) : Prop where
 tk : TkIn c vB ev L o T P w t vR vO
 en : E.En L w t.log x
 ok : LOk c.B L w
 cx : CxIn c w
def WPost {β : Type} (E : Env β) (c : Cx) (vB ev : Value) (o T : Nat) (L : Lab) (w w' : World) (t : Tk) (x : β) : Prop := ∃ L' P' vR vO, St E c vB ev o T L' P' w' t x vR vO ∧ ExW o L L' w ∧ Chg (WB L o) w w'
section
variable {β : Type} {E : Env β} {c : Cx} {vB ev : Value} {o T : Nat} {L L1 : Lab} {P : Nat → Nat} {w w1 w2 : World} {t : Tk} {x : β} {vR vO : Value}
theorem WPost.trans (hE : ExW o L L1 w) (hC : Chg (WB L o) w w1) (H : WPost E c vB ev o T L1 w1 w2 t x) : WPost E c vB ev o T L w w2 t x := by
 obtain ⟨L2, P2, vR2, vO2, h1, h2, h3⟩ := H
 exact ⟨L2, P2, vR2, vO2, h1, hE.trans h2 hC.size, hC.transW hE h3⟩
theorem WPost.refl (H : St E c vB ev o T L P w t x vR vO) : WPost E c vB ev o T L w w t x := ⟨L, P, vR, vO, H, .refl _ _ _, .refl _ _⟩
theorem WPost.drewN {d : Nat} (H : WPost E c vB ev o T L (w.drewN d) w1 t x) : WPost E c vB ev o T L w w1 t x := by
 obtain ⟨L2, P2, vR2, vO2, h1, h2, h3⟩ := H
 exact ⟨L2, P2, vR2, vO2, h1, h2, h3.os, h3.tape, h3.output, h3.size, h3.block⟩
theorem WPost.alloc {ob : Obj} (H : WPost E c vB ev o T L (w.alloc ob) w1 t x) : WPost E c vB ev o T L w w1 t x := by
 obtain ⟨L2, P2, vR2, vO2, h1, h2, h3⟩ := H
 have hz := h3.size
 simp at hz
 exact ⟨L2, P2, vR2, vO2, h1, ⟨fun b hb => h2.1 b (by simp; omega), h2.2⟩, h3.os, h3.tape, h3.output, by omega, fun b hb hn => (h3.block b (by simp; omega) hn).trans (Below.heap_alloc _ _ _ hb)⟩
theorem CxIn.chg (h : CxIn c w) (hk : LOk c.B L w) (hC : Chg (WB L o) w w1) : CxIn c w1 := h.low (hC.low hk.size (fun b hb hx => by have := hk.low b hb; unfold WB EB at hx; omega))
theorem St.below (H : St E c vB ev o T L P w t x vR vO) (hb : Below w.heap.size w w1) : St E c vB ev o T L P w1 t x vR vO := by
 have blk : ∀ b, b < w.heap.size → w1.heap[b]? = w.heap[b]? := hb.block
 exact ⟨⟨(blk _ (lt_of_block H.tk.blk)).trans H.tk.blk, own_keep H.tk.rows (fun b hb => blk b (H.tk.rows.lt b hb).2), own_keep H.tk.out (fun b hb => blk b (H.tk.out.lt b hb).2), fun i h hh => by
  obtain ⟨S, g, r, vU, hT⟩ := H.tk.ths i h hh
  exact ⟨S, g, r, vU, hT.keep (.refl _ _) rfl rfl (fun b hb _ => blk b hb)⟩, H.tk.few, H.tk.hand, H.tk.lT, H.tk.lR, H.tk.lO, H.tk.labs⟩, E.keep H.en (.refl _ _) hb.size (fun b hb _ => blk b hb), H.ok.on hb.size, H.cx.low (fun b hb' => blk b (by have := H.ok.size; omega))⟩
theorem tk_cells (h : w.heap[T]? = some (tkO c vB ev vR (P t.hand) vO t.over t.trap)) :
  w.cell? ⟨T, 0, none⟩ = some (.slice c.au c.m.units.length c.cu) ∧ w.cell? ⟨T, 1, none⟩ = some vB ∧ w.cell? ⟨T, 2, none⟩ = some ev ∧ w.cell? ⟨T, 3, none⟩ = some vR ∧ w.cell? ⟨T, 4, none⟩ = some (.pointer (some ⟨P t.hand, 0, none⟩)) ∧ w.cell? ⟨T, 5, none⟩ = some vO ∧ w.cell? ⟨T, 6, none⟩ = some (.int .i64 t.over) ∧ w.cell? ⟨T, 7, none⟩ = some (.int .i64 t.trap) ∧ ∀ j, w.frozen? ⟨T, j, none⟩ = false := by
 simp [World.cell?, World.frozen?, h]
theorem St.thread (H : St E c vB ev o T L P w t x vR vO) {i : Nat} {h h' : Th} (hh : t.ths[i]? = some h) (hp : TPost c L o i P w w1 h') : ∃ L', St E c vB ev o T L' P w1 (t.set i h') x vR vO ∧ ExW o L L' w ∧ Chg (WB L o) w w1 := by
 obtain ⟨L', S, g, r, vU, hT, hE, hL, hC⟩ := hp
 have hil := (List.getElem?_eq_some_iff.1 hh).1
 have hW : Chg (WB L o) w w1 := hC.mono (fun b _ hx => .inl ⟨hx.1, hx.2.1⟩)
 have blk : ∀ b, b < w.heap.size → ¬ ThB L o i b → w1.heap[b]? = w.heap[b]? := hC.block
 have k0 : ∀ {b p : Nat}, L b = ⟨1, o, 0, p⟩ → ¬ ThB L o i b := fun e hx => by unfold ThB at hx; rw [e] at hx; cases hx.2.2
 refine ⟨L', ⟨⟨?_, ?_, ?_, fun j hj hhj => ?_, by simpa [Tk.set] using H.tk.few, by simpa [Tk.set] using H.tk.hand, (hE.1 _ (lt_of_block H.tk.blk)).trans H.tk.lT, fun b hb => (hE.1 _ (H.tk.rows.lt b hb).2).trans (H.tk.lR b hb), fun b hb => (hE.1 _ (H.tk.out.lt b hb).2).trans (H.tk.lO b hb), fun b h1 h2 => ?_⟩, ?_, hL, H.cx.chg H.ok hW⟩, ⟨hE.1, fun b => ?_⟩, hW⟩
 ·exact (blk _ (lt_of_block H.tk.blk) (k0 H.tk.lT)).trans H.tk.blk
 ·have : (t.set i h').ths.length = t.ths.length := by simp [Tk.set]
  rw [this]
  exact own_keep H.tk.rows (fun b hb => blk b (H.tk.rows.lt b hb).2 (k0 (H.tk.lR b hb)))
 ·exact own_keep H.tk.out (fun b hb => blk b (H.tk.out.lt b hb).2 (k0 (H.tk.lO b hb)))
 ·by_cases e : j = i
  ·subst e
   simp only [Tk.set, List.getElem?_set_self hil, Option.some.injEq] at hhj
   subst hhj
   exact ⟨S, g, r, vU, hT⟩
  ·simp only [Tk.set, List.getElem?_set_ne (fun e2 => e e2.symm)] at hhj
   obtain ⟨S2, g2, r2, vU2, hT2⟩ := H.tk.ths j hj hhj
   exact ⟨S2, g2, r2, vU2, hT2.keep hE.1 rfl rfl (fun b hb hx => blk b hb (fun hy => e (by unfold ThB at hy; omega)))⟩
 ·have hl : (t.set i h').ths.length = t.ths.length := by simp [Tk.set]
  rw [hl]
  rcases hE.2 b with e | e
  ·rw [e] at h1 h2 ⊢; exact H.tk.labs b h1 h2
  ·omega
 ·exact E.keep H.en hE.1 hC.size (fun b hb hx => blk b hb (fun hy => by unfold ThB at hy; omega))
 ·rcases hE.2 b with e | e
  ·exact .inl e
  ·exact .inr (.inl ⟨e.1, e.2.1⟩)
end
abbrev evV (e : Ev) : Value := .agg #[.int .i64 0, .int .i64 e.kind, .int .i64 e.box, .int .i64 e.v]
def ExE (L L' : Lab) (w : World) : Prop := Ext L L' w ∧ ∀ b, L' b = L b ∨ EB L' b
structure Hears {β : Type} (E : Env β) (c : Cx) (N : Nat) (caps : Array Value) : Prop where
 enter : ∀ (args : Array Value) (w : World), Sem.run Tryz.prog (callFunc N args) w = .ok (.enter N args) w
 call : ∀ (e : Ev) (L : Lab) (w : World) (l : List Ev) (x : β), Hid (E.En L w l x) → Hid (LOk c.B L w) → l.length ≤ 2000001 → Calls Tryz.prog N (#[evV e] ++ caps) w fun r w' => r = .returned (.tuple #[]) ∧ ∃ L', E.En L' w' (l ++ [e]) x ∧ ExE L L' w ∧ LOk c.B L' w' ∧ Chg (EB L) w w'
section
variable {β : Type} {E : Env β} {c : Cx} {vB : Value} {N : Nat} {caps : Array Value} {o T : Nat} {L : Lab} {P : Nat → Nat} {w w1 : World} {t : Tk} {x : β} {vR vO : Value}
theorem St.heard {ev : Value} (H : St E c vB ev o T L P w t x vR vO) {e : Ev} {L' : Lab} (hn : E.En L' w1 (t.log ++ [e]) x) (hE : ExE L L' w) (hL : LOk c.B L' w1) (hC : Chg (EB L) w w1) : WPost E c vB ev o T L w w1 (t.note e) x := by
 have hW : Chg (WB L o) w w1 := hC.mono (fun b _ hx => .inr hx)
 have blk : ∀ b, b < w.heap.size → (L b).cls = 1 → w1.heap[b]? = w.heap[b]? := fun b hb h1 => hC.block b hb (fun hx => by unfold EB at hx; omega)
 have one : ∀ {b i p : Nat}, L b = ⟨1, o, i, p⟩ → (L b).cls = 1 := fun e => by rw [e]
 refine ⟨L', P, vR, vO, ⟨⟨(blk _ (lt_of_block H.tk.blk) (one H.tk.lT)).trans H.tk.blk, own_keep H.tk.rows (fun b hb => blk b (H.tk.rows.lt b hb).2 (one (H.tk.lR b hb))), own_keep H.tk.out (fun b hb => blk b (H.tk.out.lt b hb).2 (one (H.tk.lO b hb))), fun i h hh => ?_, H.tk.few, H.tk.hand, (hE.1 _ (lt_of_block H.tk.blk)).trans H.tk.lT, fun b hb => (hE.1 _ (H.tk.rows.lt b hb).2).trans (H.tk.lR b hb), fun b hb => (hE.1 _ (H.tk.out.lt b hb).2).trans (H.tk.lO b hb), fun b h1 h2 => ?_⟩, hn, hL, H.cx.chg H.ok hW⟩, ⟨hE.1, fun b => ?_⟩, hW⟩
 ·obtain ⟨S, g, r, vU, hT⟩ := H.tk.ths i h hh
  exact ⟨S, g, r, vU, hT.keep hE.1 rfl rfl (fun b hb hx => blk b hb hx.1)⟩
 ·rcases hE.2 b with e | e
  ·rw [e] at h1 h2 ⊢; exact H.tk.labs b h1 h2
  ·unfold EB at e; omega
 ·rcases hE.2 b with e | e
  ·exact .inl e
  ·exact .inr (.inr e)
theorem tk_set67 {ev : Value} {n m hp ov tr : Nat} (h : w.heap[T]? = some (tkO c vB ev vR hp vO ov tr)) : ((w.setCell ⟨T, 6, none⟩ (.int .i64 n)).setCell ⟨T, 7, none⟩ (.int .i64 m)).heap[T]? = some (tkO c vB ev vR hp vO n m) := by
 simp only [World.setCell, Array.getElem?_modify, if_true, h, Option.map_some]
 rfl
theorem St.own {ev : Value} (H : St E c vB ev o T L P w t x vR vO) {t' : Tk} (hb : ∀ b, b ≠ T → w1.heap[b]? = w.heap[b]?) (hz : w1.heap.size = w.heap.size) (hos : w1.os = w.os ∧ w1.tape = w.tape ∧ w1.output = w.output) (hT : w1.heap[T]? = some (tkO c vB ev vR (P t'.hand) vO t'.over t'.trap)) (e1 : t'.ths = t.ths) (e2 : t'.out = t.out) (e3 : t'.log = t.log) (e4 : t'.hand < t.ths.length) : St E c vB ev o T L P w1 t' x vR vO ∧ Chg (WB L o) w w1 := by
 have ne : ∀ {b i p : Nat}, L b = ⟨1, o, i, p⟩ → ¬ (i = 0 ∧ p = 4) → b ≠ T := fun e hn e2 => hn (by have := H.tk.lT; rw [← e2, e] at this; simp at this; exact this)
 have hC : Chg (WB L o) w w1 := ⟨hos.1, hos.2.1, hos.2.2, by omega, fun b hb' hn => hb b (fun e => hn (.inl (by rw [e, H.tk.lT]; exact ⟨rfl, rfl⟩)))⟩
 refine ⟨⟨⟨hT, ?_, ?_, ?_, by rw [e1]; exact H.tk.few, by rw [e1]; exact e4, H.tk.lT, H.tk.lR, H.tk.lO, by rw [e1]; exact H.tk.labs⟩, ?_, H.ok.on (by omega), H.cx.chg H.ok hC⟩, hC⟩
 ·rw [e1]; exact own_keep H.tk.rows (fun b hb' => hb b (ne (H.tk.lR b hb') (by omega)))
 ·rw [e2]; exact own_keep H.tk.out (fun b hb' => hb b (ne (H.tk.lO b hb') (by omega)))
 ·rw [e1]
  intro i h hh
  obtain ⟨S, g, r, vU, hTh⟩ := H.tk.ths i h hh
  exact ⟨S, g, r, vU, hTh.keep (.refl _ _) rfl rfl (fun b _ hx => hb b (fun e => by rw [e, H.tk.lT] at hx; cases hx.2.2))⟩
 ·rw [e3]
  exact E.keep H.en (.refl _ _) (by omega) (fun b _ hx => hb b (fun e => by rw [e, H.tk.lT] at hx; exact hx rfl))
end
theorem fall_any {β : Type} (E : Env β) (c : Cx) (vB : Value) (N : Nat) (caps : Array Value) (hN : Hid (Hears E c N caps)) (o T : Nat) (L : Lab) (P : Nat → Nat) (w : World) (t : Tk) (x : β) (vR vO : Value) (H : Hid (St E c vB (.func (.func N) #[] caps) o T L P w t x vR vO)) (hlog : Hid (t.log.length ≤ 2000001)) (n : Nat) :
  Calls Tryz.prog 89 #[.pointer (some ⟨T, 0, none⟩), .int .i64 n] w fun e w' => e = .returned (.tuple #[]) ∧ WPost E c vB (.func (.func N) #[] caps) o T L w w' (t.fall n) x := by
 obtain ⟨c0, c1, c2, c3, c4, c5, c6, c7, fr⟩ := tk_cells H.out.tk.blk
 obtain ⟨hS1, hC1⟩ := H.out.own (t' := { t with over := 5, trap := n }) (w1 := (w.setCell ⟨T, 6, none⟩ (.int .i64 5)).setCell ⟨T, 7, none⟩ (.int .i64 n)) (fun b hb => (Below.heap_setCell _ ⟨T, 7, none⟩ _ _ hb).trans (Below.heap_setCell _ ⟨T, 6, none⟩ _ _ hb)) (by simp [World.setCell]) ⟨rfl, rfl, rfl⟩ (tk_set67 H.out.tk.blk) rfl rfl rfl H.out.tk.hand
 have HS1 := Sb.hide hS1
 have HC1 := Sb.hide hC1
 have hent := hN.out.enter
 clear hS1 hC1
 go_enter Tryz.func89, Tryz.ntmps89
 go_wp2_with fail
 refine (hN.out.call ⟨5, 0, n⟩ L _ _ _ (Sb.hide HS1.out.en) (Sb.hide HS1.out.ok) hlog.out).mono ?_
 rintro e w1 ⟨rfl, L', h1, h2, h3, h4⟩
 have HF := Sb.hide ((HS1.out.heard h1 h2 h3 h4).trans (.refl _ _ _) HC1.out)
 clear h1 h2 h3 h4
 go_wp2
 go_end0
 exact ⟨rfl, HF.out⟩
theorem put_any {β : Type} (E : Env β) (c : Cx) (vB : Value) (N : Nat) (caps : Array Value) (hN : Hid (Hears E c N caps)) (o T : Nat) (L : Lab) (P : Nat → Nat) (w : World) (t : Tk) (x : β) (vR vO : Value) (H : Hid (St E c vB (.func (.func N) #[] caps) o T L P w t x vR vO)) (hlog : Hid (t.log.length ≤ 2000001)) (v : Int) :
  Calls Tryz.prog 55 #[.pointer (some ⟨T, 0, none⟩), .int .i64 v] w fun e w' => e = .returned (.tuple #[]) ∧ WPost E c vB (.func (.func N) #[] caps) o T L w w' (t.put v) x := by
 obtain ⟨c0, c1, c2, c3, c4, c5, c6, c7, fr⟩ := tk_cells H.out.tk.blk
 obtain ⟨h, hh⟩ : ∃ h, t.ths[t.hand]? = some h := ⟨_, List.getElem?_eq_getElem H.out.tk.hand⟩
 obtain ⟨S, g, r, vU, hT⟩ := H.out.tk.ths _ _ hh
 obtain ⟨d0, d1, d2, d3⟩ := hT.cells
 have HT := Sb.hide hT
 have HH := Sb.hide hh
 have HTP : Hid (t.top = h) := by unfold Hid; simp [Tk.top, Tk.th, hh]
 clear hT hh
 by_cases hf : h.ws.length = 400
 ·have HF := Sb.hide hf
  clear hf
  go_enter Tryz.func55, Tryz.ntmps55
  go_wp2_with fail
  refine (push_th c L o t.hand P _ h S g r vU HT (Sb.hide H.out.ok) v 4 (Sb.hide (by rw [if_pos HF.out])) h.ws (Sb.hide (by rw [if_pos HF.out]))).mono ?_
  rintro e w1 ⟨rfl, hp⟩
  obtain ⟨L1, hS1, hE1, hC1⟩ := H.out.thread HH.out hp.toT
  have e1 : t.set t.hand h = t := by
   have : t.ths.set t.hand h = t.ths := by exact set_same HH.out
   simp [Tk.set, this]
  have hS2 : St E c vB (.func (.func N) #[] caps) o T L1 P w1 t x vR vO := by have := hS1; rw [show ({ h with ws := h.ws } : Th) = h from rfl, e1] at this; exact this
  have HS2 := Sb.hide hS2
  have HE1 := Sb.hide hE1
  have HC1 := Sb.hide hC1
  clear hp hS1 hE1 hC1 hS2 e1
  go_wp2_with fail
  refine (fall_any E c vB N caps hN o T L1 P _ t x vR vO HS2 hlog 4).mono ?_
  rintro e w2 ⟨rfl, hW⟩
  have HW := Sb.hide (hW.trans HE1.out HC1.out)
  clear hW
  go_wp2
  go_end0
  refine ⟨rfl, ?_⟩
  unfold Tk.put
  rw [HTP.out, if_pos HF.out]
  exact HW.out
 ·have HF := Sb.hide hf
  clear hf
  go_enter Tryz.func55, Tryz.ntmps55
  go_wp2_with fail
  refine (push_th c L o t.hand P _ h S g r vU HT (Sb.hide H.out.ok) v 0 (Sb.hide (by rw [if_neg HF.out])) _ (Sb.hide rfl)).mono ?_
  rintro e w1 ⟨rfl, hp⟩
  rw [if_neg HF.out] at hp
  obtain ⟨L1, hS1, hE1, hC1⟩ := H.out.thread HH.out hp.toT
  have HW : Hid (WPost E c vB (.func (.func N) #[] caps) o T L w w1 (t.put v) x) := by
   unfold Hid Tk.put Tk.words
   rw [HTP.out, if_neg HF.out]
   exact ⟨L1, P, vR, vO, hS1, hE1, hC1⟩
  clear hp hS1 hE1 hC1
  go_wp2
  go_end0
  exact ⟨rfl, HW.out⟩
def PPost {β : Type} (E : Env β) (c : Cx) (vB ev : Value) (o T : Nat) (L : Lab) (P : Nat → Nat) (w w' : World) (t : Tk) (x : β) (vR vO : Value) : Prop := ∃ L', St E c vB ev o T L' P w' t x vR vO ∧ ExW o L L' w ∧ Chg (WB L o) w w'
section
variable {β : Type} {E : Env β} {c : Cx} {vB ev : Value} {o T : Nat} {L : Lab} {P : Nat → Nat} {w w1 : World} {t : Tk} {x : β} {vR vO : Value}
theorem St.at (H : St E c vB ev o T L P w t x vR vO) : ∃ h S g r vU, t.ths[t.hand]? = some h ∧ ThIn c L o t.hand P w h S g r vU ∧ t.top = h := by
 obtain ⟨h, hh⟩ : ∃ h, t.ths[t.hand]? = some h := ⟨_, List.getElem?_eq_getElem H.tk.hand⟩
 obtain ⟨S, g, r, vU, hT⟩ := H.tk.ths _ _ hh
 exact ⟨h, S, g, r, vU, hh, hT, by simp [Tk.top, Tk.th, hh]⟩
end
theorem taken {β : Type} (E : Env β) (c : Cx) (vB ev : Value) (o T : Nat) (L : Lab) (P : Nat → Nat) (w : World) (t : Tk) (x : β) (vR vO : Value) (H : Hid (St E c vB ev o T L P w t x vR vO)) :
  Calls Tryz.prog 58 #[.pointer (some ⟨P t.hand, 0, none⟩)] w fun e w' => e = .returned (.int .i64 t.last) ∧ PPost E c vB ev o T L P w w' t.cut x vR vO := by
 obtain ⟨h, S, g, r, vU, hh, hT, htop⟩ := H.out.at
 refine (take_th c L o t.hand P w h S g r vU hT (Sb.hide H.out.ok) t.last (Sb.hide (by unfold Tk.last; rw [htop]))).mono ?_
 rintro e w1 ⟨rfl, hp⟩
 obtain ⟨L1, hS1, hE1, hC1⟩ := H.out.thread hh hp.toT
 refine ⟨rfl, L1, ?_, hE1, hC1⟩
 unfold Tk.cut Tk.words
 rw [htop]
 exact hS1
theorem handCell {β : Type} {E : Env β} {c : Cx} {vB ev : Value} {o T : Nat} {L : Lab} {P : Nat → Nat} {w : World} {t : Tk} {x : β} {vR vO : Value} (H : St E c vB ev o T L P w t x vR vO) : w.cell? ⟨T, 4, none⟩ = some (.pointer (some ⟨P t.hand, 0, none⟩)) := (tk_cells H.tk.blk).2.2.2.2.1
section
variable {β : Type} (E : Env β) (c : Cx) (vB : Value) (N : Nat) (caps : Array Value) (hN : Hid (Hears E c N caps)) (o T : Nat) (L : Lab) (P : Nat → Nat) (w : World) (t : Tk) (x : β) (vR vO : Value) (H : Hid (St E c vB (.func (.func N) #[] caps) o T L P w t x vR vO)) (hlog : Hid (t.log.length ≤ 2000001))
include hN H hlog
theorem putTruth_any (b : Bool) :
  Calls Tryz.prog 97 #[.pointer (some ⟨T, 0, none⟩), .bool b] w fun e w' => e = .returned (.tuple #[]) ∧ WPost E c vB (.func (.func N) #[] caps) o T L w w' (t.put (yes b)) x := by
 go_enter Tryz.func97, Tryz.ntmps97
 go_wp2_with fail
 refine (truth_any b _).mono ?_
 rintro e w' ⟨rfl, rfl⟩
 go_wp2_with fail
 refine (put_any E c vB N caps hN o T L P _ t x vR vO H hlog (yes b)).mono ?_
 rintro e w1 ⟨rfl, hW⟩
 have HW := Sb.hide hW
 clear hW
 go_wp2
 go_end0
 exact ⟨rfl, HW.out⟩
theorem reckon_any (op : Int) :
  Calls Tryz.prog 98 #[.pointer (some ⟨T, 0, none⟩), .int .i64 op] w fun e w' => e = .returned (.tuple #[]) ∧ WPost E c vB (.func (.func N) #[] caps) o T L w w' (t.reckon op) x := by
 have d0 := handCell H.out
 have hh1 : t.cut.hand = t.hand := rfl
 go_enter Tryz.func98, Tryz.ntmps98
 go_wp2_with fail
 refine (taken E c vB (.func (.func N) #[] caps) o T L P _ t x vR vO H).mono ?_
 rintro e w1 ⟨rfl, L1, s1, q1, k1⟩
 have d1 := handCell s1
 have S1 := Sb.hide s1
 have E1 := Sb.hide q1
 have C1 := Sb.hide k1
 clear s1 q1 k1
 go_wp2_with fail
 refine (taken E c vB (.func (.func N) #[] caps) o T L1 P _ t.cut x vR vO S1).mono ?_
 rintro e w2 ⟨rfl, L2, s2, q2, k2⟩
 have d2 := handCell s2
 have S2 := Sb.hide s2
 have E2 := Sb.hide q2
 have C2 := Sb.hide k2
 clear s2 q2 k2
 by_cases hz : t.last = 0 ∧ (op = 11 ∨ op = 12)
 ·have HZ := Sb.hide hz
  clear hz
  go_wp2_with fail
  refine (reckoned_zero op t.cut.last t.last _ HZ.out).mono ?_
  rintro e w' ⟨rfl, rfl⟩
  go_wp2_with fail
  refine (fall_any E c vB N caps hN o T L2 P _ t.cut.cut x vR vO S2 (Sb.hide (by exact hlog.out)) 1).mono ?_
  rintro e w3 ⟨rfl, hW⟩
  have HW := Sb.hide ((hW.trans E2.out C2.out).trans E1.out C1.out)
  clear hW
  go_wp2
  exact bodyPost_ret (v := .tuple #[]) (by simp [results, Tryz.results98, go_sem]) rfl ⟨rfl, by unfold Tk.reckon; rw [if_pos HZ.out]; exact HW.out⟩
 ·have HZ := Sb.hide hz
  clear hz
  go_wp2_with fail
  refine (reckoned_any op t.cut.last t.last _ HZ.out _ (Sb.hide rfl)).mono ?_
  rintro e w' ⟨rfl, rfl⟩
  go_wp2_with fail
  refine (put_any E c vB N caps hN o T L2 P _ t.cut.cut x vR vO S2 (Sb.hide (by exact hlog.out)) _).mono ?_
  rintro e w3 ⟨rfl, hW⟩
  have HW := Sb.hide ((hW.trans E2.out C2.out).trans E1.out C1.out)
  clear hW
  go_wp2
  go_end0
  exact ⟨rfl, by unfold Tk.reckon; rw [if_neg HZ.out]; exact HW.out⟩
end
end Go.Proofs.YtlbihbfgglnfnaaGreat.Vw
namespace Go.Proofs.YtlbihbfgglnfnaaGreat
namespace Vm
open Vf
def WT (G : List Nat) (ty v : Int) : Prop := (ty = 2 → v = 0 ∨ v = 1) ∧ (10 ≤ ty → ∃ j g : Nat, v = j ∧ 0 < j ∧ G[j]? = some g ∧ (g : Int) = ty - 10)
def TS (G : List Nat) : List Int → List Int → Prop
 | [], [] => True
 | ty :: st, v :: vs => WT G ty v ∧ TS G st vs
 | _, _ => False
theorem WT.more {G : List Nat} {ty v : Int} (h : WT G ty v) (g : Nat) : WT (G ++ [g]) ty v := ⟨h.1, fun h10 => by
 obtain ⟨j, x, e, h0, h1, h2⟩ := h.2 h10
 exact ⟨j, x, e, h0, by rw [List.getElem?_append_left (List.getElem?_eq_some_iff.1 h1).1]; exact h1, h2⟩⟩
theorem TS.more {G : List Nat} (g : Nat) : ∀ {st vs : List Int}, TS G st vs → TS (G ++ [g]) st vs
 | [], [], _ => trivial
 | _ :: _, _ :: _, h => ⟨h.1.more g, TS.more g h.2⟩
 | [], _ :: _, h => h
 | _ :: _, [], h => h
theorem TS.len {G : List Nat} : ∀ {st vs : List Int}, TS G st vs → vs.length = st.length
 | [], [], _ => rfl
 | _ :: _, _ :: _, h => by simp [TS.len h.2]
 | [], _ :: _, h => h.elim
 | _ :: _, [], h => h.elim
theorem TS.get {G : List Nat} : ∀ {st vs : List Int}, TS G st vs → ∀ {i : Nat} {ty v : Int}, st[i]? = some ty → vs[i]? = some v → WT G ty v
 | _ :: _, _ :: _, h, 0, ty, v, h1, h2 => by simp at h1 h2; subst h1 h2; exact h.1
 | _ :: _, _ :: _, h, i + 1, ty, v, h1, h2 => h.2.get (by simpa using h1) (by simpa using h2)
 | [], _, _, _, _, _, h1, _ => by simp at h1
 | _ :: _, [], h, _, _, _, _, _ => h.elim
theorem TS.split {G : List Nat} : ∀ (a : List Int) {b vs : List Int}, TS G (a ++ b) vs → ∃ x y, vs = x ++ y ∧ TS G a x ∧ TS G b y
 | [], b, vs, h => ⟨[], vs, rfl, trivial, h⟩
 | ty :: a, b, [], h => h.elim
 | ty :: a, b, v :: vs, h => by
  obtain ⟨x, y, e, h1, h2⟩ := TS.split a h.2
  exact ⟨v :: x, y, by simp [e], ⟨h.1, h1⟩, h2⟩
abbrev KM := Nat → Nat → Option Kn
structure Fr (m : Md) (K : KM) (G : List Nat) (f : Wk) (st kst lo ws loc os : List Int) (k : Kn) (u : Un) : Prop where
 un : m.units[f.u]? = some u
 hws : ws = lo ++ loc ++ os.reverse
 hbase : lo.length = f.base
 hloc : loc.length = u.locals.length
 ts : TS G st os
 kn : K f.u f.pc = some k
 hkst : k.st = kst
 fl : ∀ i ty v, k.fl.has i = true → u.locals[i]? = some ty → loc[i]? = some v → WT G ty v
def Lay (m : Md) (K : KM) (G : List Nat) : List Wk → List Int → List Int → List Int → Prop
 | [], _, _, _ => False
 | f :: fs, ws, st, kst => ∃ lo loc os k u, Fr m K G f st kst lo ws loc os k u ∧ (fs = [] → lo = [] ∧ u.kind ≠ 2) ∧ (fs ≠ [] → u.kind = 2 ∧ ∃ st', Lay m K G fs lo st' (u.result :: st'))
theorem Fr.more {m : Md} {K : KM} {G : List Nat} {f : Wk} {st kst lo ws loc os : List Int} {k : Kn} {u : Un} (h : Fr m K G f st kst lo ws loc os k u) (g : Nat) : Fr m K (G ++ [g]) f st kst lo ws loc os k u :=
 ⟨h.un, h.hws, h.hbase, h.hloc, h.ts.more g, h.kn, h.hkst, fun i ty v a b c => (h.fl i ty v a b c).more g⟩
theorem Lay.more {m : Md} {K : KM} {G : List Nat} (g : Nat) : ∀ {fs : List Wk} {ws st kst : List Int}, Lay m K G fs ws st kst → Lay m K (G ++ [g]) fs ws st kst
 | [], _, _, _, h => h
 | f :: fs, ws, st, kst, h => by
  obtain ⟨lo, loc, os, k, u, hf, h0, h1⟩ := h
  refine ⟨lo, loc, os, k, u, hf.more g, h0, fun hne => ?_⟩
  obtain ⟨hk, st', hl⟩ := h1 hne
  exact ⟨hk, st', Lay.more g hl⟩
def genOf (h : Th) : Option Nat := (h.fs.getLast?).map (·.u)
def resOf (m : Md) (n : Nat) : Int := (unit m n).result
structure Mid (m : Md) (K : KM) (G : List Nat) (t : Tk) (st kst : List Int) : Prop where
 len : G.length = t.ths.length
 gen : ∀ (i : Nat) h, t.ths[i]? = some h → ∃ g u, G[i]? = some g ∧ genOf h = some g ∧ m.units[g]? = some u ∧ u.kind = if i = 0 then 4 else 3
 hand : ∃ h, t.ths[t.hand]? = some h ∧ h.stands = 2 ∧ Lay m K G h.fs h.ws st kst
 fresh : ∀ (i : Nat) h, t.ths[i]? = some h → h.stands ≠ 1 ∧ h.stands ≠ 2 ∧ h.stands ≠ 3 → Lay m K G h.fs h.ws [] []
 held : ∀ (i : Nat) h, t.ths[i]? = some h → h.stands = 1 → ∃ g st', G[i]? = some g ∧ Lay m K G h.fs h.ws st' ((unit m g).takes :: st')
 up : ∀ (i : Nat) h, t.ths[i]? = some h → h.stands = 2 → i ≠ 0 → ∃ j h' g st', h.up = some j ∧ t.ths[j]? = some h' ∧ h'.stands = 2 ∧ j ≠ t.hand ∧ G[i]? = some g ∧ Lay m K G h'.fs h'.ws st' (resOf m g :: st')
 uniq : ∀ (i i' : Nat) h h', t.ths[i]? = some h → t.ths[i']? = some h' → h.stands = 2 → h'.stands = 2 → i ≠ 0 → i' ≠ 0 → h.up = h'.up → i = i'
 ups : ∀ (i : Nat) h k, t.ths[i]? = some h → h.up = some k → k < t.ths.length
theorem top_of {t : Tk} {h : Th} (hh : t.ths[t.hand]? = some h) : t.top = h := by simp [Tk.top, Tk.th, hh]
theorem lt_of {α : Type} {l : List α} {i : Nat} {x : α} (h : l[i]? = some x) : i < l.length := (List.getElem?_eq_some_iff.1 h).1
theorem set_at {t : Tk} {h h' : Th} (hh : t.ths[t.hand]? = some h) : (t.set t.hand h').ths[(t.set t.hand h').hand]? = some h' := by
 simp [Tk.set, lt_of hh]
theorem set_set (t : Tk) (i : Nat) (a b : Th) : (t.set i a).set i b = t.set i b := by simp [Tk.set]
theorem Mid.congr {m : Md} {K : KM} {G : List Nat} {t t' : Tk} {st kst : List Int} (h : Mid m K G t st kst) (e1 : t'.ths = t.ths) (e2 : t'.hand = t.hand) : Mid m K G t' st kst := by
 obtain ⟨a, b, c, d, e, f, g, k⟩ := h
 exact ⟨by rw [e1]; exact a, by rw [e1]; exact b, by rw [e1, e2]; exact c, by rw [e1]; exact d, by rw [e1]; exact e, by rw [e1, e2]; exact f, by rw [e1]; exact g, by rw [e1]; exact k⟩
theorem Mid.upd {m : Md} {K : KM} {G : List Nat} {t : Tk} {st kst st2 kst2 : List Int} {h h2 : Th} (hM : Mid m K G t st kst) (hh : t.ths[t.hand]? = some h) (h1 : h2.stands = 2) (h3 : h2.up = h.up) (h4 : genOf h2 = genOf h) (hL : Lay m K G h2.fs h2.ws st2 kst2) : Mid m K G (t.set t.hand h2) st2 kst2 := by
 have hst : h.stands = 2 := by obtain ⟨h', e, e2, _⟩ := hM.hand; rw [hh] at e; cases e; exact e2
 have key : ∀ (i : Nat) x, (t.set t.hand h2).ths[i]? = some x → (i = t.hand ∧ x = h2) ∨ (i ≠ t.hand ∧ t.ths[i]? = some x) := fun i x hx => by
  simp only [Tk.set, List.getElem?_set] at hx
  split at hx
  ·rename_i e
   split at hx
   ·cases hx; exact .inl ⟨e.symm, rfl⟩
   ·cases hx
  ·rename_i e; exact .inr ⟨fun e2 => e e2.symm, hx⟩
 refine ⟨by simpa [Tk.set] using hM.len, fun i x hx => ?_, ⟨h2, set_at hh, h1, hL⟩, fun i x hx h0 => ?_, fun i x hx h0 => ?_, fun i x hx h0 hi => ?_, fun i i' x x' hx hx' h0 h0' hi hi' he => ?_, fun i x k hx hk => ?_⟩
 ·rcases key i x hx with ⟨rfl, rfl⟩ | ⟨_, hx⟩
  ·rw [h4]; exact hM.gen _ _ hh
  ·exact hM.gen _ _ hx
 ·rcases key i x hx with ⟨rfl, rfl⟩ | ⟨_, hx⟩
  ·omega
  ·exact hM.fresh _ _ hx h0
 ·rcases key i x hx with ⟨rfl, rfl⟩ | ⟨_, hx⟩
  ·omega
  ·exact hM.held _ _ hx h0
 ·have hup : ∃ y, t.ths[i]? = some y ∧ y.stands = 2 ∧ x.up = y.up := by
   rcases key i x hx with ⟨rfl, rfl⟩ | ⟨_, hx⟩
   ·exact ⟨h, hh, hst, h3⟩
   ·exact ⟨x, hx, h0, rfl⟩
  obtain ⟨y, hy, hy2, hy3⟩ := hup
  obtain ⟨j, h', g, st', e1, e2, e3, e4, e5, e6⟩ := hM.up i y hy hy2 hi
  exact ⟨j, h', g, st', hy3.trans e1, by simp only [Tk.set]; rw [List.getElem?_set_ne (fun e => e4 e.symm)]; exact e2, e3, e4, e5, e6⟩
 ·have hup : ∀ (i : Nat) x, (t.set t.hand h2).ths[i]? = some x → x.stands = 2 → ∃ y, t.ths[i]? = some y ∧ y.stands = 2 ∧ x.up = y.up := fun i x hx h0 => by
   rcases key i x hx with ⟨rfl, rfl⟩ | ⟨_, hx⟩
   ·exact ⟨h, hh, hst, h3⟩
   ·exact ⟨x, hx, h0, rfl⟩
  obtain ⟨y, hy, hy2, hy3⟩ := hup i x hx h0
  obtain ⟨y', hy', hy2', hy3'⟩ := hup i' x' hx' h0'
  exact hM.uniq i i' y y' hy hy' hy2 hy2' hi hi' (by rw [← hy3, ← hy3', he])
 ·have hl : (t.set t.hand h2).ths.length = t.ths.length := by simp [Tk.set]
  rw [hl]
  rcases key i x hx with ⟨rfl, rfl⟩ | ⟨_, hx⟩
  ·rw [h3] at hk; exact hM.ups _ _ _ hh hk
  ·exact hM.ups _ _ _ hx hk
theorem Lay.cut {m : Md} {K : KM} {G : List Nat} {fs : List Wk} {ws st kst : List Int} {ty : Int} (h : Lay m K G fs ws (ty :: st) kst) : Lay m K G fs ws.dropLast st kst ∧ ∃ v, ws.getLast? = some v ∧ WT G ty v := by
 match fs, h with
 | f :: fs, h =>
  obtain ⟨lo, loc, os, k, u, hf, h0, h1⟩ := h
  match os, hf.ts, hf with
  | v :: os, hts, hf =>
   have hw := hf.hws
   rw [List.reverse_cons, ← List.append_assoc] at hw
   refine ⟨⟨lo, loc, os, k, u, ⟨hf.un, by rw [hw, List.dropLast_concat], hf.hbase, hf.hloc, hts.2, hf.kn, hf.hkst, hf.fl⟩, h0, h1⟩, v, by rw [hw]; simp, hts.1⟩
  | [], hts, _ => exact hts.elim
theorem Lay.put {m : Md} {K : KM} {G : List Nat} {fs : List Wk} {ws st kst : List Int} {ty v : Int} (h : Lay m K G fs ws st kst) (hv : WT G ty v) : Lay m K G fs (ws ++ [v]) (ty :: st) kst := by
 match fs, h with
 | f :: fs, h =>
  obtain ⟨lo, loc, os, k, u, hf, h0, h1⟩ := h
  exact ⟨lo, loc, v :: os, k, u, ⟨hf.un, by rw [hf.hws]; simp, hf.hbase, hf.hloc, ⟨hv, hf.ts⟩, hf.kn, hf.hkst, hf.fl⟩, h0, h1⟩
theorem Mid.cut {m : Md} {K : KM} {G : List Nat} {t : Tk} {st kst : List Int} {ty : Int} (hM : Mid m K G t (ty :: st) kst) : Mid m K G t.cut st kst ∧ WT G ty t.last := by
 obtain ⟨h, hh, h2, hL⟩ := hM.hand
 obtain ⟨hL2, v, hv, hwt⟩ := hL.cut
 have e := top_of hh
 refine ⟨?_, by unfold Tk.last; rw [e, hv]; exact hwt⟩
 unfold Tk.cut Tk.words
 rw [e]
 exact hM.upd hh h2 rfl rfl hL2
def Goes (m : Md) (K : KM) (t : Tk) : Prop := t.over ≠ 0 ∨ ∃ G st, Mid m K G t st st
theorem Mid.put {m : Md} {K : KM} {G : List Nat} {t : Tk} {st : List Int} {ty v : Int} (hM : Mid m K G t st (ty :: st)) (hv : WT G ty v) : Goes m K (t.put v) := by
 obtain ⟨h, hh, h2, hL⟩ := hM.hand
 unfold Tk.put
 split
 ·left; simp [Tk.fall]
 ·right
  refine ⟨G, ty :: st, ?_⟩
  unfold Tk.words
  rw [top_of hh]
  exact hM.upd hh h2 rfl rfl (hL.put hv)
theorem Lay.goto {m : Md} {K : KM} {G : List Nat} {f : Wk} {r : List Wk} {ws st kst : List Int} (h : Lay m K G (f :: r) ws st kst) {n : Nat} {k k2 : Kn} (hk : K f.u f.pc = some k) (h2 : K f.u n = some k2) (hle : FlLe k2.fl k.fl) : Lay m K G ({ f with pc := n } :: r) ws st k2.st := by
 obtain ⟨lo, loc, os, k', u, hf, h0, h1⟩ := h
 have e : k' = k := by have := hf.kn; rw [hk] at this; cases this; rfl
 subst e
 exact ⟨lo, loc, os, k2, u, ⟨hf.un, hf.hws, hf.hbase, hf.hloc, hf.ts, h2, rfl, fun i ty v a b c => hf.fl i ty v (hle i a) b c⟩, h0, h1⟩
theorem gen_goto (f : Wk) (n : Nat) (r : List Wk) : ((({ f with pc := n } : Wk) :: r).getLast?).map (·.u) = (((f :: r)).getLast?).map (·.u) := by
 cases r with
 | nil => rfl
 | cons a r => simp [List.getLast?_cons_cons]
theorem frame_of {t : Tk} {h : Th} {f : Wk} {r : List Wk} (hh : t.ths[t.hand]? = some h) (hf : h.fs = f :: r) : t.frame = f := by simp [Tk.frame, top_of hh, hf]
theorem goto_of {t : Tk} {h : Th} {f : Wk} {r : List Wk} (hh : t.ths[t.hand]? = some h) (hf : h.fs = f :: r) (n : Nat) : t.goto n = t.set t.hand { h with fs := { f with pc := n } :: r } := by
 simp [Tk.goto, frame_of hh hf, top_of hh, hf]
theorem Mid.goto {m : Md} {K : KM} {G : List Nat} {t : Tk} {st kst : List Int} (hM : Mid m K G t st kst) {h : Th} {f : Wk} {r : List Wk} (hh : t.ths[t.hand]? = some h) (hf : h.fs = f :: r) {n : Nat} {k k2 : Kn} (hk : K f.u f.pc = some k) (h2 : K f.u n = some k2) (hle : FlLe k2.fl k.fl) : Mid m K G (t.goto n) st k2.st := by
 obtain ⟨h', hh', hs, hL⟩ := hM.hand
 rw [hh] at hh'
 cases hh'
 rw [goto_of hh hf]
 refine hM.upd hh hs rfl ?_ ?_
 ·unfold genOf; rw [hf]; exact gen_goto f n r
 ·rw [hf] at hL; exact hL.goto hk h2 hle
end Vm
end Go.Proofs.YtlbihbfgglnfnaaGreat
