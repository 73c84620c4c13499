/- Rows of one's own; the walks of Clone and End. -/
import Derived.Test.YtekjhefmhhcboaaGreatM17
import Derived.Test.YtekjhefmhhcboaaGreatM29
set_option maxRecDepth 100000
set_option maxHeartbeats 2000000
namespace Go.Proofs.YtekjhefmhhcboaaGreat.Vw
open Go.RowKit Vf Vm
theorem own_ty {w : World} {B e size n g : Nat} {v : Value} {xs : List Value} (h : w.ownsRow B e size v n xs) (hg : v.ownBlock = some g) : ∃ cur, w.heap[g]? = some (.cells cur e (0, 0)) := by
 rcases h.2 with ⟨rfl, _⟩ | ⟨g', cap, cur, rfl, _, hh, _⟩
 ·cases hg
 ·simp [Value.ownBlock] at hg
  subst hg
  exact ⟨cur, hh⟩
theorem own_cell {w : World} {B e n : Nat} {va : Option Addr} {vc : Nat} {xs : List Value} (h : w.ownsRow B e 1 (.slice va n vc) n xs) {k : Nat} {u : Value} (hk : xs[k]? = some u) : ∃ g, va = some ⟨g, 0, none⟩ ∧ w.cell? ⟨g, k, none⟩ = some u := by
 rcases h.2 with ⟨e1, h0⟩ | ⟨g, cap, cur, e1, _⟩
 ·have hl := h.1
  rw [h0] at hl
  have hx : xs = [] := List.eq_nil_of_length_eq_zero (by simpa using hl)
  rw [hx] at hk; cases hk
 ·have e2 := e1
  simp at e2
  refine ⟨g, e2.1, ?_⟩
  have := h.cells (g := g) (by rw [e1]; rfl) k _ hk
  rw [add_none] at this
  simpa using this
theorem is_nil (w : World) : Sem.run Tryz.prog (binOp BinOp.eql 46 (.slice none 0 0) (.slice none 0 0)) w = .ok (.bool true) w := by kernel_rfl
theorem own_base {w : World} {B C e size n : Nat} {v : Value} {xs : List Value} (h : w.ownsRow C e size v n xs) (hB : B ≤ C) : w.ownsRow B e size v n xs := by
 refine ⟨h.1, ?_⟩
 rcases h.2 with h2 | ⟨g, cap, cur, hv, hg, r⟩
 ·exact .inl h2
 ·exact .inr ⟨g, cap, cur, hv, by omega, r⟩
theorem own_slice {w : World} {B e size n : Nat} {v : Value} {xs : List Value} (h : w.ownsRow B e size v n xs) : ∃ a c, v = .slice a n c := by
 rcases h.2 with ⟨rfl, h0⟩ | ⟨g, cap, cur, rfl, _⟩
 ·rw [h0]; exact ⟨_, _, rfl⟩
 ·exact ⟨_, _, rfl⟩
theorem ints_one (ws : List Int) : ∀ v ∈ ints ws, v.oneCell' = true := by
 intro v hv
 simp only [ints, List.mem_map] at hv
 obtain ⟨x, _, rfl⟩ := hv
 rfl
theorem clone_any (vO : Value) (l : List Int) (w : World) (h : Hid (w.ownsRow 0 2 1 vO l.length (ints l))) (hl : l.length ≤ 1000000) :
  Calls Tryz.prog 43 #[vO] w fun e w' => ∃ v, e = .returned v ∧ w'.ownsRow w.heap.size 2 1 v l.length (ints l) ∧ Below w.heap.size w w' := by
 obtain ⟨i0, hi, hz0, hz1, hz2⟩ := info_parts Sb.Tryz.info2
 rcases h.out.2 with ⟨rfl, h0⟩ | ⟨g, cap, cur, rfl, _, hh, h1, h2, h3, h4⟩
 ·have HL := Sb.hide h0
  clear h0
  have hnn := is_nil w
  go_enter Tryz.func43, Tryz.ntmps43
  go_wp2
  go_ret
  exact ⟨_, rfl, ⟨h.out.1, .inl ⟨rfl, HL.out⟩⟩, .refl _ _⟩
 ·have hnn := Sb.not_nil g l.length cap w
  have HO : Hid ((w.alloc (.cells #[] 2)).ownsRow w.heap.size 2 1 (.slice (some ⟨w.heap.size, 0, none⟩) 0 0) 0 []) := ⟨rfl, .inr ⟨w.heap.size, 0, #[], rfl, Nat.le_refl _, heap_alloc_new w _, Nat.le_refl _, Nat.zero_le _, rfl, rfl⟩⟩
  have HN : Hid (∀ j u, (ints l)[j]? = some u → (w.alloc (.cells #[] 2)).cell? ((⟨g, 0, none⟩ : Addr).add j) = some u) := (h.out.alloc (.cells #[] 2)).cells (g := g) rfl
  have HL : Hid ((ints l).length = l.length * 1) := by unfold Hid; simp
  obtain ⟨n, hn⟩ : ∃ n, n = l.length := ⟨_, rfl⟩
  have HNL := Sb.hide hn
  rw [← hn] at hl hnn HL ⊢
  clear hn hh h1 h2 h3 h4
  go_enter Tryz.func43, Tryz.ntmps43
  go_wp2_with (at_builtin; refine wpList_append_own _ rfl _ _ 46 rfl w.heap.size 2 i0 (.int .i64 0) 1 8 Tryz.underlying46 hi hz0 hz1 hz2 rfl (by decide) _ _ _ rfl HO.out ⟨g, 0, none⟩ n cap (ints l) rfl HL.out HN.out (ints_one l) (by unfold maxLen; omega) (by omega) (by simp) ?_; intro v' w3 hown hgrow hz)
  have HW : Hid (w3.ownsRow w.heap.size 2 1 v' n (ints l)) := by
   unfold Hid
   simpa using hown
  have hg2 : (w.alloc (.cells #[] 2)).grownBy w3 (some w.heap.size) := hgrow
  have HB : Hid (Below w.heap.size w w3) := ((Below.refl _ w).alloc (Nat.le_refl _) _).grown hg2 (by simp) (fun k hk => by simp at hk; omega)
  clear hown hgrow hz hg2
  go_wp2
  go_ret
  exact ⟨v', rfl, HW.out, HB.out⟩
theorem zero_end {w : World} {b : Nat} (h : w.heap[b]? = some (.cells #[.int .i64 0, .int .i64 0, .int .i64 0, .slice none 0 0] 48)) : (w.cell? ⟨b, 0, none⟩ = some (.int .i64 0) ∧ w.cell? ⟨b, 1, none⟩ = some (.int .i64 0) ∧ w.cell? ⟨b, 2, none⟩ = some (.int .i64 0) ∧ w.cell? ⟨b, 3, none⟩ = some (.slice none 0 0)) ∧ ∀ j, w.frozen? ⟨b, j, none⟩ = false := by simp [World.cell?, World.frozen?, h]
section
variable {β : Type} (E : Env β) (X : Bxs β) (c : Cx) (vB ev : Value) (o T : Nat) (L : Lab) (P : Nat → Nat) (w : World) (t : Tk) (x : β) (vR vO : Value) (H : Hid (St E c vB ev o T L P w t x vR vO))
include H
abbrev enV (s q tr : Nat) (v : Value) : Value := .agg #[.int .i64 s, .int .i64 q, .int .i64 tr, v]
theorem end_any' (hX : Hid (BoxesAt E X c vB)) (hs : Hid (t.over = 0 → ∃ f rs u i, AtOk c t f rs u i)) (ho : t.out.length ≤ 1000000) :
  Calls Tryz.prog 28 #[.pointer (some ⟨T, 0, none⟩)] w fun e w' => ∃ v, e = .returned (enV (stat X c.m t x).1 (stat X c.m t x).2 t.trap v) ∧ w'.ownsRow w.heap.size 2 1 v t.out.length (ints t.out) ∧ Below w.heap.size w w' := by
 obtain ⟨s, hs1⟩ : ∃ s, s = (stat X c.m t x).1 := ⟨_, rfl⟩
 obtain ⟨q, hq1⟩ : ∃ s, s = (stat X c.m t x).2 := ⟨_, rfl⟩
 rw [← hs1, ← hq1]
 have HS1 := Sb.hide hs1
 have HQ1 := Sb.hide hq1
 have hTz := lt_of_block H.out.tk.blk
 clear hs1 hq1
 go_enter Tryz.func28, Tryz.ntmps28
 go_wp2_with fail
 have hb0 : Below w.heap.size w (w.alloc (.cells #[.int .i64 0, .int .i64 0, .int .i64 0, .slice none 0 0] 48)) := (Below.refl _ w).alloc (Nat.le_refl _) _
 have hzb : (w.alloc (.cells #[.int .i64 0, .int .i64 0, .int .i64 0, .slice none 0 0] 48)).heap[w.heap.size]? = some (.cells #[.int .i64 0, .int .i64 0, .int .i64 0, .slice none 0 0] 48) := heap_alloc_new w _
 have HB0 := Sb.hide hb0
 have HZB := Sb.hide hzb
 have hz0 : (w.alloc (.cells #[.int .i64 0, .int .i64 0, .int .i64 0, .slice none 0 0] 48)).heap.size = w.heap.size + 1 := by simp
 clear hb0 hzb
 generalize w.alloc (.cells #[.int .i64 0, .int .i64 0, .int .i64 0, .slice none 0 0] 48) = W0 at *
 refine (state_any E X c vB ev o T L P _ t x vR vO (Sb.hide (H.out.below HB0.out)) hX hs).mono ?_
 rw [← HS1.out, ← HQ1.out]
 rintro e w1 ⟨rfl, hb1⟩
 have HB1 : Hid (Below w.heap.size w w1) := HB0.out.trans (hb1.mono (by omega))
 have HZ1 : Hid (w1.heap[w.heap.size]? = some (.cells #[.int .i64 0, .int .i64 0, .int .i64 0, .slice none 0 0] 48)) := (hb1.block _ (by omega)).trans HZB.out
 have HS := Sb.hide (H.out.below HB1.out)
 have d := tk_cells HS.out.tk.blk
 have d5 := d.2.2.2.2.2.1
 have d7 := d.2.2.2.2.2.2.2.1
 have hz1 := hb1.size
 have hne1 : ¬ w.heap.size = T := by omega
 have hne2 : ¬ T = w.heap.size := by omega
 clear hb1 d
 have fr1 : w1.frozen? ⟨w.heap.size, 0, none⟩ = false ∧ w1.frozen? ⟨w.heap.size, 1, none⟩ = false ∧ w1.frozen? ⟨w.heap.size, 2, none⟩ = false ∧ w1.frozen? ⟨w.heap.size, 3, none⟩ = false := by simp [World.frozen?, HZ1.out]
 go_wp2_with fail
 go_region_held3 (fun w' => w'.cell? ⟨T, 5, none⟩ = some vO ∧ w'.cell? ⟨T, 7, none⟩ = some (.int .i64 t.trap)) (go_keep) ((go_at_call 43; refine (clone_any vO t.out _ (Sb.hide (by exact HS.out.tk.out)) ho).mono ?_; rintro e w2 ⟨v, rfl, hown, hb2⟩; obtain ⟨va, vc, rfl⟩ := own_slice hown; have HO : Hid (w2.ownsRow w1.heap.size 2 1 (.slice va t.out.length vc) t.out.length (ints t.out)) := hown; have HB2 : Hid (Below w1.heap.size w1 w2) := ⟨hb2.os, hb2.tape, hb2.output, hb2.size, hb2.block⟩; have d5 : w2.cell? ⟨T, 5, none⟩ = some vO := (hb2.cell (p := ⟨T, 5, none⟩) (by show T < _; have := HB1.out.size; simp; omega)).trans d5; have d7 : w2.cell? ⟨T, 7, none⟩ = some (.int .i64 t.trap) := (hb2.cell (p := ⟨T, 7, none⟩) (by show T < _; have := HB1.out.size; simp; omega)).trans d7; have z2 : w2.heap[w.heap.size]? = some (.cells #[.int .i64 0, .int .i64 0, .int .i64 0, .slice none 0 0] 48) := (hb2.block _ (by have := HB0.out.size; simp; omega)).trans HZ1.out; have HZ2 := Sb.hide z2; have k2 := (zero_end z2).1; have f2 := (zero_end z2).2; clear hown hb2 z2))
 clear fr1
 have HB4 : Hid (Below w.heap.size w ((((w2.setCell ⟨w.heap.size, 0, none⟩ (.int .i64 s)).setCell ⟨w.heap.size, 1, none⟩ (.int .i64 q)).setCell ⟨w.heap.size, 2, none⟩ (.int .i64 t.trap)).setCell ⟨w.heap.size, 3, none⟩ (.slice va t.out.length vc))) := by
  have hb : Below w.heap.size w w2 := HB1.out.trans (HB2.out.mono HB1.out.size)
  exact (((hb.setCell (p := ⟨w.heap.size, 0, none⟩) (Nat.le_refl _) _).setCell (p := ⟨w.heap.size, 1, none⟩) (Nat.le_refl _) _).setCell (p := ⟨w.heap.size, 2, none⟩) (Nat.le_refl _) _).setCell (p := ⟨w.heap.size, 3, none⟩) (Nat.le_refl _) _
 have HO4 : Hid (((((w2.setCell ⟨w.heap.size, 0, none⟩ (.int .i64 s)).setCell ⟨w.heap.size, 1, none⟩ (.int .i64 q)).setCell ⟨w.heap.size, 2, none⟩ (.int .i64 t.trap)).setCell ⟨w.heap.size, 3, none⟩ (.slice va t.out.length vc)).ownsRow w.heap.size 2 1 (.slice va t.out.length vc) t.out.length (ints t.out)) := by
  have h2 : w2.ownsRow w.heap.size 2 1 (.slice va t.out.length vc) t.out.length (ints t.out) := own_base HO.out HB1.out.size
  refine own_keep h2 (fun b hb => ?_)
  have hbl := (HO.out.lt b hb).1
  have hne : b ≠ w.heap.size := by have := HB0.out.size; omega
  rw [Below.heap_setCell _ ⟨w.heap.size, 3, none⟩ _ _ hne, Below.heap_setCell _ ⟨w.heap.size, 2, none⟩ _ _ hne, Below.heap_setCell _ ⟨w.heap.size, 1, none⟩ _ _ hne, Below.heap_setCell _ ⟨w.heap.size, 0, none⟩ _ _ hne]
 go_wp2
 have hX : ((((w2.setCell ⟨w.heap.size, 0, none⟩ (.int .i64 s)).setCell ⟨w.heap.size, 1, none⟩ (.int .i64 q)).setCell ⟨w.heap.size, 2, none⟩ (.int .i64 t.trap)).setCell ⟨w.heap.size, 3, none⟩ (.slice va t.out.length vc)).heap[w.heap.size]? = some (.cells #[.int .i64 s, .int .i64 q, .int .i64 t.trap, .slice va t.out.length vc] 48) := by
  simp only [World.setCell, Array.getElem?_modify, if_true, HZ2.out, Option.map_some]
  rfl
 refine bodyPost_ret (v := enV s q t.trap (.slice va t.out.length vc)) ?_ rfl ⟨_, rfl, HO4.out, HB4.out⟩
 generalize (((w2.setCell ⟨w.heap.size, 0, none⟩ (.int .i64 s)).setCell ⟨w.heap.size, 1, none⟩ (.int .i64 q)).setCell ⟨w.heap.size, 2, none⟩ (.int .i64 t.trap)).setCell ⟨w.heap.size, 3, none⟩ (.slice va t.out.length vc) = W4 at *
 have g : (W4.cell? ⟨w.heap.size, 0, none⟩ = some (.int .i64 s) ∧ W4.cell? ⟨w.heap.size, 1, none⟩ = some (.int .i64 q) ∧ W4.cell? ⟨w.heap.size, 2, none⟩ = some (.int .i64 t.trap) ∧ W4.cell? ⟨w.heap.size, 3, none⟩ = some (.slice va t.out.length vc)) := by simp [World.cell?, hX]
 obtain ⟨g0, g1, g2, g3⟩ := g
 simp [results, Tryz.results28, go_sem, g0, g1, g2, g3]
end
structure EarW where
 En : Lab → World → List (Nat × Ev) → Prop
 keep : ∀ {L L' : Lab} {w w' : World} {l : List (Nat × Ev)}, En L w l → Ext L L' w → w.heap.size ≤ w'.heap.size → (∀ b, b < w.heap.size → (L b).cls = 3 → w'.heap[b]? = w.heap[b]?) → En L' w' l
def deafW : EarW := ⟨fun _ _ _ => True, fun _ _ _ _ => trivial⟩
def earOf (B : EarW) (o : Nat) (evs : List (Nat × Ev)) (l0 : Nat) : Ear where
 En := fun L w l => l0 ≤ l.length ∧ B.En L w (evs ++ (l.drop l0).map fun e => (o, e))
 keep := fun h hE hz hb => ⟨h.1, B.keep h.2 hE hz hb⟩
structure Sx where
 c : Cx
 Q : Nat → Nat
 rb : Nat
 vb : Value
 WB : Nat
 T : Nat → Nat
 N : Nat → Nat
 caps : Nat → Array Value
def Sx.ev (s : Sx) (o : Nat) : Value := .func (.func (s.N o)) #[] (s.caps o)
abbrev Sx.E (s : Sx) (A : Ear) : Env (List Bq) := mbE s.Q s.c.m.boxes.length s.rb 0 A
structure SxOk (s : Sx) (B : EarW) : Prop where
 boxes : ∀ A, BoxesAt (s.E A) mbX s.c s.vb
 hears : ∀ o evs l0, evs.length ≤ 100000 → Hears (s.E (earOf B o evs l0)) s.c (s.N o) (s.caps o)
abbrev wdO (vt vx : Value) (steps last : Int) : Obj := .cells #[vt, vx, .int .i64 steps, .int .i64 last] 75 (0, 0)
structure WdIn (s : Sx) (B : EarW) (L : Lab) (w : World) (W : Wd) (vt vx : Value) : Prop where
 blk : w.heap[s.WB]? = some (wdO vt vx W.steps W.last)
 lW : (L s.WB).cls = 4
 trow : w.ownsRow 0 83 1 vt W.ts.length (ptrs s.T W.ts.length)
 brow : w.ownsRow 0 77 1 vx s.c.m.boxes.length (ptrs s.Q s.c.m.boxes.length)
 lt : ∀ b, vt.ownBlock = some b → (L b).cls = 0
 lx : ∀ b, vx.ownBlock = some b → (L b).cls = 0
 low : ∀ b, vt.ownBlock = some b ∨ vx.ownBlock = some b ∨ b = s.WB → s.c.B ≤ b
 tasks : ∀ (o : Nat) t, W.ts[o]? = some t → ∃ P vR vO, TkIn s.c s.vb (s.ev o) L o (s.T o) P w t vR vO
 boxes : MbEn s.Q s.c.m.boxes.length s.rb 0 L w W.x
 ear : B.En L w W.evs
 ok : LOk s.c.B L w
 cx : CxIn s.c w
structure WI (m : Md) (K : KM) (W : Wd) : Prop where
 tasks : ∀ (o : Nat) t, W.ts[o]? = some t → MI m K W.steps t W.x
 steps : W.steps ≤ 20000
 last : -1 ≤ W.last ∧ W.last < W.ts.length
 few : 0 < W.ts.length ∧ W.ts.length ≤ 30
 evs : W.evs.length ≤ 2 * W.steps
structure Kp (L : Lab) (w w' : World) : Prop where
 os : w'.os = w.os
 tape : w'.tape = w.tape
 output : w'.output = w.output
 size : w.heap.size ≤ w'.heap.size
 block : ∀ b, b < w.heap.size → (L b).cls = 0 → w'.heap[b]? = w.heap[b]?
theorem Kp.refl (L : Lab) (w : World) : Kp L w w := ⟨rfl, rfl, rfl, Nat.le_refl _, fun _ _ _ => rfl⟩
theorem Kp.trans {L L1 : Lab} {w w1 w2 : World} (h : Kp L w w1) (hE : Ext L L1 w) (k : Kp L1 w1 w2) : Kp L w w2 := ⟨k.os.trans h.os, k.tape.trans h.tape, k.output.trans h.output, Nat.le_trans h.size k.size, fun b hb h0 => (k.block b (by have := h.size; omega) (by rw [hE b hb]; exact h0)).trans (h.block b hb h0)⟩
theorem Kp.of_below {L : Lab} {w w1 : World} (h : Below w.heap.size w w1) : Kp L w w1 := ⟨h.os, h.tape, h.output, h.size, fun b hb _ => h.block b hb⟩
section
variable {s : Sx} {B : EarW} {L : Lab} {w w1 : World} {W : Wd} {vt vx : Value}
theorem tk_below {c : Cx} {vB ev : Value} {o T : Nat} {P : Nat → Nat} {t : Tk} {vR vO : Value} (H : TkIn c vB ev L o T P w t vR vO) (blk : ∀ b, b < w.heap.size → (L b).cls = 1 → (L b).idx = o → w1.heap[b]? = w.heap[b]?) {L1 : Lab} (hE : Ext L L1 w) (hl : ∀ b, (L1 b).cls = 1 → (L1 b).idx = o → (L1 b).th ≤ t.ths.length) : TkIn c vB ev L1 o T P w1 t vR vO := by
 have one : ∀ {b i p : Nat}, L b = ⟨1, o, i, p⟩ → (L b).cls = 1 ∧ (L b).idx = o := fun e => by rw [e]; exact ⟨rfl, rfl⟩
 refine ⟨(blk _ (lt_of_block H.blk) (one H.lT).1 (one H.lT).2).trans H.blk, own_keep H.rows (fun b hb => blk b (H.rows.lt b hb).2 (one (H.lR b hb)).1 (one (H.lR b hb)).2), own_keep H.out (fun b hb => blk b (H.out.lt b hb).2 (one (H.lO b hb)).1 (one (H.lO b hb)).2), fun i h hh => ?_, H.few, H.hand, (hE _ (lt_of_block H.blk)).trans H.lT, fun b hb => (hE _ (H.rows.lt b hb).2).trans (H.lR b hb), fun b hb => (hE _ (H.out.lt b hb).2).trans (H.lO b hb), hl⟩
 obtain ⟨S, g, r, vU, hT⟩ := H.ths i h hh
 exact ⟨S, g, r, vU, hT.keep hE rfl rfl (fun b hb hx => blk b hb hx.1 hx.2.1)⟩
theorem WdIn.below (H : WdIn s B L w W vt vx) (hb : Below w.heap.size w w1) : WdIn s B L w1 W vt vx :=
 ⟨(hb.block _ (lt_of_block H.blk)).trans H.blk, H.lW, own_keep H.trow (fun b hx => hb.block b (H.trow.lt b hx).2), own_keep H.brow (fun b hx => hb.block b (H.brow.lt b hx).2), H.lt, H.lx, H.low, fun o t ht => by
  obtain ⟨P, vR, vO, h⟩ := H.tasks o t ht
  exact ⟨P, vR, vO, tk_below h (fun b hs _ _ => hb.block b hs) (.refl _ _) h.labs⟩, H.boxes.keep (.refl _ _) hb.size (fun b hs _ => hb.block b hs), B.keep H.ear (.refl _ _) hb.size (fun b hs _ => hb.block b hs), H.ok.on hb.size, H.cx.low (fun b hs => hb.block b (by have := H.ok.size; omega))⟩
theorem WdIn.cells (H : WdIn s B L w W vt vx) : w.cell? ⟨s.WB, 0, none⟩ = some vt ∧ w.cell? ⟨s.WB, 1, none⟩ = some vx ∧ w.cell? ⟨s.WB, 2, none⟩ = some (.int .i64 W.steps) ∧ w.cell? ⟨s.WB, 3, none⟩ = some (.int .i64 W.last) ∧ ∀ j, w.frozen? ⟨s.WB, j, none⟩ = false := by
 have h := H.blk
 simp [World.cell?, World.frozen?, h]
theorem WdIn.st (H : WdIn s B L w W vt vx) {o : Nat} {t : Tk} (ht : W.ts[o]? = some t) : ∃ P vR vO, St (s.E (earOf B o W.evs t.log.length)) s.c s.vb (s.ev o) o (s.T o) L P w t W.x vR vO := by
 obtain ⟨P, vR, vO, h⟩ := H.tasks o t ht
 exact ⟨P, vR, vO, h, ⟨H.boxes, Nat.le_refl _, by rw [List.drop_length]; simpa using H.ear⟩, H.ok, H.cx⟩
theorem WI.at {m : Md} {K : KM} (h : WI m K W) {c : Cx} (hc : c.m = m) (hK : Known m K) {o : Nat} {t : Tk} (ht : W.ts[o]? = some t) : t.over = 0 → ∃ f rs u i, AtOk c t f rs u i := by
 subst hc
 exact (keeps_mb hK).at' _ _ _ (h.tasks o t ht)
end
abbrev pkV (p : Pk) : Value := .agg #[.int .i64 p.task, .int .i64 p.q]
abbrev pkO (p : Pk) : Obj := .cells #[.int .i64 p.task, .int .i64 p.q] 41
theorem isQ_any (n : Int) (w : World) (b : Bool) (hb : Hid (b = decide (1 ≤ n ∧ n ≤ 10000))) :
  Calls Tryz.prog 15 #[.int .i64 n] w fun e w' => e = .returned (.bool b) ∧ w' = w := by
 by_cases h1 : 1 ≤ n
 ·by_cases h2 : n ≤ 10000
  ·have HF : Hid (b = true) := by unfold Hid; rw [hb.out]; simp [h1, h2]
   go_enter Tryz.func15, Tryz.ntmps15
   go_wp2
   go_ret
   exact ⟨by rw [HF.out]; rfl, rfl⟩
  ·have HF : Hid (b = false) := by unfold Hid; rw [hb.out]; simp [h1, h2]
   go_enter Tryz.func15, Tryz.ntmps15
   go_wp2
   go_ret
   exact ⟨by rw [HF.out]; rfl, rfl⟩
 ·have HF : Hid (b = false) := by unfold Hid; rw [hb.out]; simp [h1]
  go_enter Tryz.func15, Tryz.ntmps15
  go_wp2
  go_ret
  exact ⟨by rw [HF.out]; rfl, rfl⟩
theorem refusal_any (s : Sx) (B : EarW) (hS : Hid (SxOk s B)) (K : KM) (hK : Hid (Known s.c.m K)) (L : Lab) (w : World) (W : Wd) (vt vx : Value) (H : Hid (WdIn s B L w W vt vx)) (hI : Hid (WI s.c.m K W)) (p : Pk) (r : Int) (hr : Hid (r = refE s.c.m W p)) :
  Calls Tryz.prog 40 #[.pointer (some ⟨s.WB, 0, none⟩), pkV p] w fun e w' => e = .returned (.int .i64 r) ∧ Below w.heap.size w w' := by
 obtain ⟨d0, d1, d2, d3, _⟩ := H.out.cells
 obtain ⟨ta, tc, hvt⟩ : ∃ a c, vt = .slice a W.ts.length c := own_slice H.out.trow
 subst hvt
 have hWz := lt_of_block H.out.blk
 have hst := hI.out.steps
 have hfew := hI.out.few
 have HB0 : Hid (Below w.heap.size w (w.alloc (pkO p))) := (Below.refl _ w).alloc (Nat.le_refl _) _
 have p0 : (w.alloc (pkO p)).cell? ⟨w.heap.size, 0, none⟩ = some (.int .i64 p.task) := by simp [World.cell?_alloc_mark]
 have p1 : (w.alloc (pkO p)).cell? ⟨w.heap.size, 1, none⟩ = some (.int .i64 p.q) := by simp [World.cell?_alloc_mark]
 have hne1 : ¬ w.heap.size = s.WB := by omega
 have hne2 : ¬ s.WB = w.heap.size := by omega
 obtain ⟨N, hN⟩ : ∃ N, N = W.ts.length := ⟨_, rfl⟩
 have HN := Sb.hide hN
 rw [← hN] at hfew d0
 clear hN
 have q0 : (w.alloc (pkO p)).cell? ⟨s.WB, 0, none⟩ = some (.slice ta N tc) := (cell_eq (Below.heap_alloc _ _ _ hWz) _).trans d0
 have q2 : (w.alloc (pkO p)).cell? ⟨s.WB, 2, none⟩ = some (.int .i64 W.steps) := (cell_eq (Below.heap_alloc _ _ _ hWz) _).trans d2
 have HRE : Hid (refE s.c.m W p = if p.task < 0 ∨ (N : Int) ≤ p.task then 3 else if 1 ≤ p.q ∧ p.q ≤ 10000 then (if (stat mbX s.c.m (W.tk p.task) W.x).1 = 1 then (if 20000 ≤ W.steps then 10 else 0) else 11) else 5) := by
  unfold Hid
  rw [HN.out]
  rfl
 clear d0 d1 d2 d3
 by_cases t1 : p.task < 0
 ·have HR : Hid (r = 3) := by unfold Hid; rw [hr.out, HRE.out, if_pos (.inl t1)]
  go_enter Tryz.func40, Tryz.ntmps40
  go_wp2
  generalize w.alloc (pkO p) = W1 at *
  go_quiet (fail)
  go_wp2
  go_ret
  exact ⟨by rw [HR.out]; rfl, below_drewN HB0.out _⟩
 by_cases t2 : (N : Int) ≤ p.task
 ·have HR : Hid (r = 3) := by unfold Hid; rw [hr.out, HRE.out, if_pos (.inr t2)]
  go_enter Tryz.func40, Tryz.ntmps40
  go_wp2
  generalize w.alloc (pkO p) = W1 at *
  go_quiet (fail)
  go_wp2
  go_ret
  exact ⟨by rw [HR.out]; rfl, below_drewN HB0.out _⟩
 obtain ⟨o, ho⟩ : ∃ o : Nat, p.task = o := ⟨p.task.toNat, by omega⟩
 obtain ⟨t, ht⟩ : ∃ t, W.ts[o]? = some t := ⟨_, List.getElem?_eq_getElem (by have := HN.out; omega)⟩
 have HO := Sb.hide ho
 have HT := Sb.hide ht
 have HTK : Hid (W.tk p.task = t) := by unfold Hid Wd.tk; rw [ho]; simp [ht]
 have HRE2 : Hid (r = if 1 ≤ p.q ∧ p.q ≤ 10000 then (if (stat mbX s.c.m t W.x).1 = 1 then (if 20000 ≤ W.steps then 10 else 0) else 11) else 5) := by
  unfold Hid
  rw [hr.out, HRE.out, if_neg (by omega), HTK.out]
 have HAT := Sb.hide (hI.out.at (c := s.c) rfl hK.out ht)
 obtain ⟨g, hta, htc⟩ := own_cell H.out.trow (ptrs_at s.T (by have := HN.out; omega : o < W.ts.length))
 have hgz := World.block_lt_of_cell? w _ htc
 have q5 : (w.alloc (pkO p)).cell? ⟨g, o, none⟩ = some (.pointer (some ⟨s.T o, 0, none⟩)) := (cell_eq (Below.heap_alloc _ _ _ hgz) _).trans htc
 have d1 : decide (p.task < 0) = false := by simpa using t1
 have d2 : decide ((N : Int) ≤ p.task) = false := by simpa using t2
 subst hta
 rw [ho] at p0 d1 d2 t1 t2
 have n0 : (0 : Int) ≤ (o : Int) := by omega
 have n1 : (o : Int) < (N : Int) := by omega
 obtain ⟨bq, hbq⟩ : ∃ b, b = decide (1 ≤ p.q ∧ p.q ≤ 10000) := ⟨_, rfl⟩
 have HBQ := Sb.hide hbq
 clear htc ht ho hbq
 go_enter Tryz.func40, Tryz.ntmps40
 go_wp2
 generalize hWW : w.alloc (pkO p) = W1 at *
 go_quiet (fail)
 go_wp2_with fail
 refine (isQ_any p.q _ bq HBQ).mono ?_
 rintro e w2 ⟨rfl, rfl⟩
 cases bq with
 | false =>
  have HR : Hid (r = 5) := by unfold Hid; rw [HRE2.out, if_neg (by have := HBQ.out; simpa using this.symm)]
  go_wp2
  go_ret
  exact ⟨by rw [HR.out]; rfl, below_drewN HB0.out _⟩
 | true =>
  have HQ : Hid (1 ≤ p.q ∧ p.q ≤ 10000) := by have := HBQ.out; unfold Hid; simpa using this.symm
  have HRE3 : Hid (r = if (stat mbX s.c.m t W.x).1 = 1 then (if 20000 ≤ W.steps then 10 else 0) else 11) := by unfold Hid; rw [HRE2.out, if_pos HQ.out]
  obtain ⟨P, vR, vO, hSt⟩ := H.out.st HT.out
  have HST := Sb.hide hSt
  obtain ⟨br, hbr⟩ : ∃ b, b = ((stat mbX s.c.m t W.x).1 == 1) := ⟨_, rfl⟩
  have HBR := Sb.hide hbr
  clear hSt hbr
  obtain ⟨W2, hW2⟩ : ∃ W2, W1.drewN nq = W2 := ⟨_, rfl⟩
  have HB2 : Hid (Below w.heap.size w W2) := by rw [← hW2]; exact below_drewN HB0.out _
  have k0 : W2.cell? ⟨w.heap.size, 0, none⟩ = some (.int .i64 (o : Int)) := by rw [← hW2]; exact p0
  have k2 : W2.cell? ⟨s.WB, 0, none⟩ = some (.slice (some ⟨g, 0, none⟩) N tc) := by rw [← hW2]; exact q0
  have k3 : W2.cell? ⟨s.WB, 2, none⟩ = some (.int .i64 W.steps) := by rw [← hW2]; exact q2
  have k5 : W2.cell? ⟨g, o, none⟩ = some (.pointer (some ⟨s.T o, 0, none⟩)) := by rw [← hW2]; exact q5
  rw [hW2]
  have hgz2 : g < w.heap.size := hgz
  clear p0 p1 q0 q2 q5 hW2
  go_wp2
  go_region_held3 (fun w' => (w'.cell? ⟨w.heap.size, 0, none⟩ = some (.int .i64 (o : Int)) ∧ w'.cell? ⟨s.WB, 0, none⟩ = some (.slice (some ⟨g, 0, none⟩) N tc)) ∧ w'.cell? ⟨g, o, none⟩ = some (.pointer (some ⟨s.T o, 0, none⟩))) (go_keep) ((go_at_call 39; refine (ready_any (s.E (earOf B o W.evs t.log.length)) mbX s.c s.vb (s.ev o) o (s.T o) L P _ t W.x vR vO (Sb.hide (HST.out.below HB2.out.drew)) (Sb.hide (hS.out.boxes _)) HAT br HBR).mono ?_; rintro e w3 ⟨rfl, hb3⟩; have HB3 : Hid (Below w.heap.size w w3) := HB2.out.drew.trans (hb3.mono (by exact HB2.out.size)); have hz2 := World.block_lt_of_cell? W2 _ k0; have k0 : w3.cell? ⟨w.heap.size, 0, none⟩ = some (.int .i64 (o : Int)) := (cell_eq (hb3.block w.heap.size hz2) _).trans k0; have k2 : w3.cell? ⟨s.WB, 0, none⟩ = some (.slice (some ⟨g, 0, none⟩) N tc) := (cell_eq (hb3.block s.WB (by have := HB2.out.size; show s.WB < W2.heap.size; omega)) _).trans k2; have k3 : w3.cell? ⟨s.WB, 2, none⟩ = some (.int .i64 W.steps) := (cell_eq (hb3.block s.WB (by have := HB2.out.size; show s.WB < W2.heap.size; omega)) _).trans k3; have k5 : w3.cell? ⟨g, o, none⟩ = some (.pointer (some ⟨s.T o, 0, none⟩)) := (cell_eq (hb3.block g (by have := HB2.out.size; show g < W2.heap.size; omega)) _).trans k5; clear hb3))
  cases br with
  | false =>
   have HR : Hid (r = 11) := by unfold Hid; rw [HRE3.out, if_neg (by have := HBR.out; simpa using this.symm)]
   go_wp2
   go_ret
   exact ⟨by rw [HR.out]; rfl, HB3.out⟩
  | true =>
   have HRE4 : Hid (r = if 20000 ≤ W.steps then 10 else 0) := by unfold Hid; rw [HRE3.out, if_pos (by have := HBR.out; simpa using this.symm)]
   by_cases h5 : 20000 ≤ W.steps
   ·have HR : Hid (r = 10) := by unfold Hid; rw [HRE4.out, if_pos h5]
    have d5 : (20000 : Int) ≤ (W.steps : Int) := by omega
    go_wp2
    go_ret
    exact ⟨by rw [HR.out]; rfl, HB3.out⟩
   ·have HR : Hid (r = 0) := by unfold Hid; rw [HRE4.out, if_neg h5]
    have d5 : ¬ (20000 : Int) ≤ (W.steps : Int) := by omega
    go_wp2
    go_ret
    exact ⟨by rw [HR.out]; rfl, HB3.out⟩
section
variable {β : Type} {X : Bxs β} {m : Md}
theorem go_yes {n : Nat} {t : Tk} {x : β} (h : (stat X m t x).1 = 1) : go X m (n + 1) t x = ((go X m n (one X m t x).1 (one X m t x).2).1 + 1, (go X m n (one X m t x).1 (one X m t x).2).2) := by
 show (if (stat X m t x).1 = 1 then _ else _ : Nat × Tk × β) = _
 rw [if_pos h]
theorem go_no {n : Nat} {t : Tk} {x : β} (h : ¬ (stat X m t x).1 = 1) : go X m n t x = (0, t, x) := by
 cases n with
 | zero => rfl
 | succ n =>
  show (if (stat X m t x).1 = 1 then _ else _ : Nat × Tk × β) = _
  rw [if_neg h]
theorem go_le : ∀ (n : Nat) (t : Tk) (x : β), (go X m n t x).1 ≤ n
 | 0, _, _ => Nat.le_refl _
 | n + 1, t, x => by
  by_cases h : (stat X m t x).1 = 1
  ·rw [go_yes h]; have := go_le n (one X m t x).1 (one X m t x).2; simp; omega
  ·rw [go_no h]; simp
end
theorem followD_len (m : Md) : ∀ (w : Wd) (ps : List Pk), (followD m w ps).length = ps.length
 | _, [] => rfl
 | w, p :: ps => by simp [followD, followD_len m _ ps]
def good (m : Md) (w : Wd) : List Pk → List Pk
 | [] => []
 | p :: ps => if (pickD m w p).err = 0 then p :: good m (pickW m w p) ps else good m w ps
theorem pickW_no {m : Md} {w : Wd} {p : Pk} (h : ¬ (pickD m w p).err = 0) : pickW m w p = w := by
 unfold pickD at h
 unfold pickW
 by_cases e : refE m w p = 0
 ·rw [if_pos e] at h; exact absurd rfl h
 ·rw [if_neg e]
theorem follow_good (m : Md) : ∀ (w : Wd) (ps : List Pk), followW m w (good m w ps) = followW m w ps
 | _, [] => rfl
 | w, p :: ps => by
  unfold good
  by_cases h : (pickD m w p).err = 0
  ·rw [if_pos h]; exact follow_good m (pickW m w p) ps
  ·rw [if_neg h, follow_good m w ps]
   show _ = followW m (pickW m w p) ps
   rw [pickW_no h]
end Go.Proofs.YtekjhefmhhcboaaGreat.Vw
