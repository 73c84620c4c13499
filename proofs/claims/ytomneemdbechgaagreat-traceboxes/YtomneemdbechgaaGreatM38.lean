/- Who hears: the events of all tasks, in a row; the walks of the closures. -/
import Derived.Test.YtomneemdbechgaaGreatM37
namespace Go.Proofs.YtomneemdbechgaaGreat.Vw
open Go.RowKit Vf Vm

theorem Tryz.info43 : (Tryz.prog.info? 43).map (fun i => (i.zero, i.size, i.bytes)) = some (some (.agg #[.int .i64 0, .int .i64 0, .int .i64 0, .int .i64 0]), 4, 32) := by kernel_rfl
def evc (p : Nat × Ev) : List Value := [.int .i64 (p.1 : Int), .int .i64 p.2.kind, .int .i64 p.2.box, .int .i64 p.2.v]
def evCells (l : List (Nat × Ev)) : List Value := l.flatMap evc
theorem evCells_app (l : List (Nat × Ev)) (p : Nat × Ev) : evCells (l ++ [p]) = evCells l ++ evc p := by simp [evCells]
abbrev hearO (Eb : Nat) : Obj := .cells #[.func (.func 16) #[] #[.pointer (some ⟨Eb, 0, none⟩)]] 66 (0, 0)
abbrev evO (o : Int) (e : Ev) : Obj := .cells #[.int .i64 o, .int .i64 e.kind, .int .i64 e.box, .int .i64 e.v] 43 (0, 0)

/-- All that was heard, in memory. -/
structure EvIn (Eb Hb nt : Nat) (NB : Nat → Nat) (L : Lab) (w : World) (l : List (Nat × Ev)) : Prop where
  row : ∃ vR, w.heap[Eb]? = some (.cells #[vR] 28 (0, 0)) ∧ w.ownsRow 0 43 4 vR l.length (evCells l) ∧ ∀ b, vR.ownBlock = some b → L b = ⟨3, 0, 0, 1⟩
  hear : w.heap[Hb]? = some (hearO Eb)
  num : ∀ o, o < nt → w.heap[NB o]? = some (.cells #[.int .i64 (o : Int)] 3 (0, 0))
  lE : L Eb = ⟨3, 0, 0, 0⟩
  lH : L Hb = ⟨3, 0, 0, 2⟩
  lN : ∀ o, o < nt → L (NB o) = ⟨3, o, 0, 3⟩
theorem EvIn.keep {Eb Hb nt : Nat} {NB : Nat → Nat} {L L' : Lab} {w w' : World} {l : List (Nat × Ev)} (h : EvIn Eb Hb nt NB L w l) (hE : Ext L L' w) (hb : ∀ b, b < w.heap.size → (L b).cls = 3 → w'.heap[b]? = w.heap[b]?) : EvIn Eb Hb nt NB L' w' l := by
  obtain ⟨vR, h1, h2, h3⟩ := h.row
  have zE := lt_of_block h1
  have zH := lt_of_block h.hear
  have zN : ∀ o, o < nt → NB o < w.heap.size := fun o ho => lt_of_block (h.num o ho)
  refine ⟨⟨vR, (hb _ zE (by rw [h.lE])).trans h1, own_keep h2 (fun b hx => hb b (h2.lt b hx).2 (by rw [h3 b hx])), fun b hx => (hE b (h2.lt b hx).2).trans (h3 b hx)⟩, (hb _ zH (by rw [h.lH])).trans h.hear, fun o ho => (hb _ (zN o ho) (by rw [h.lN o ho])).trans (h.num o ho), (hE _ zE).trans h.lE, (hE _ zH).trans h.lH, fun o ho => (hE _ (zN o ho)).trans (h.lN o ho)⟩
/-- Who hears the first nt tasks; what is said of others is not asked. -/
def evW (Eb Hb nt : Nat) (NB : Nat → Nat) : EarW where
  En := fun L w l => ∃ l', EvIn Eb Hb nt NB L w l' ∧ l'.length ≤ l.length ∧ ((∀ p ∈ l, p.1 < nt) → l' = l)
  keep := fun h hE _ hb => by
    obtain ⟨l', h1, h2⟩ := h
    exact ⟨l', h1.keep hE hb, h2⟩

theorem ev_news (W : World) (p : Nat × Ev) : ∀ j u, (evc p)[j]? = some u → (W.alloc (evO (p.1 : Int) p.2)).cell? ((⟨W.heap.size, 0, none⟩ : Addr).add j) = some u := by
  intro j u hu
  rw [add_none, World.cell?_alloc_mark]
  match j, hu with
  | 0, hu => simpa [evc] using hu
  | 1, hu => simpa [evc] using hu
  | 2, hu => simpa [evc] using hu
  | 3, hu => simpa [evc] using hu
  | j + 4, hu => simp [evc] at hu
theorem ev_one (p : Nat × Ev) : ∀ u ∈ evc p, u.oneCell' = true := by
  intro u hu
  simp [evc] at hu
  rcases hu with rfl | rfl | rfl | rfl <;> rfl
/-- What a call of who hears leaves. -/
def Told (c : Cx) (Eb Hb nt : Nat) (NB : Nat → Nat) (L : Lab) (w : World) (l : List (Nat × Ev)) (r : Ending) (w' : World) : Prop :=
  r = .returned (.tuple #[]) ∧ ∃ L', EvIn Eb Hb nt NB L' w' l ∧ ExE L L' w ∧ LOk c.B L' w' ∧ Chg (fun b => (L b).cls = 3) w w'

set_option maxRecDepth 100000 in
set_option maxHeartbeats 1000000 in
/-- WHAT Trace$1 LEAVES. -/
theorem noted_any (c : Cx) (Eb Hb nt : Nat) (NB : Nat → Nat) (L : Lab) (w : World) (l : List (Nat × Ev)) (h : Hid (EvIn Eb Hb nt NB L w l)) (hk : Hid (LOk c.B L w)) (hl : l.length ≤ 3000000) (o : Nat) (e : Ev) :
    Calls Tryz.prog 16 #[.agg #[.int .i64 (o : Int), .int .i64 e.kind, .int .i64 e.box, .int .i64 e.v], .pointer (some ⟨Eb, 0, none⟩)] w fun r w' => Told c Eb Hb nt NB L w (l ++ [(o, e)]) r w' := by
  obtain ⟨i0, hi, hz0, hz1, hz2⟩ := info_parts Tryz.info43
  obtain ⟨vR, h1, h2, h3⟩ := h.out.row
  have zE := lt_of_block h1
  have HB1 : Hid (Below w.heap.size w (w.alloc (evO o e))) := (Below.refl _ w).alloc (Nat.le_refl _) _
  have x0 : (w.alloc (evO o e)).cell? ⟨Eb, 0, none⟩ = some vR := by
    have := (Below.heap_alloc w (evO o e) Eb zE).trans h1
    simp [World.cell?, this]
  have hbk : (w.alloc (evO o e)).heap[w.heap.size]? = some (evO o e) := heap_alloc_new w _
  obtain ⟨y0, y1, y2, y3⟩ : ((w.alloc (evO o e)).cell? ⟨w.heap.size, 0, none⟩ = some (.int .i64 (o : Int))) ∧ ((w.alloc (evO o e)).cell? ⟨w.heap.size, 1, none⟩ = some (.int .i64 e.kind)) ∧ ((w.alloc (evO o e)).cell? ⟨w.heap.size, 2, none⟩ = some (.int .i64 e.box)) ∧ ((w.alloc (evO o e)).cell? ⟨w.heap.size, 3, none⟩ = some (.int .i64 e.v)) := by
    generalize w.alloc (evO o e) = W at hbk ⊢
    simp [World.cell?, hbk]
  have HZ1 : Hid ((w.alloc (evO o e)).heap.size = w.heap.size + 1) := by unfold Hid; simp
  have H1 := Sb.hide h1
  have H2 := Sb.hide h2
  have H3 := Sb.hide h3
  clear h1 h2 h3 hbk
  go_enter Tryz.func16, Tryz.ntmps16
  go_upto_region 1 with fail
  generalize w.alloc (evO o e) = W1 at *
  have HR1 : Hid ((W1.alloc (evO o e)).ownsRow 0 43 4 vR l.length (evCells l)) := World.ownsRow.alloc (own_keep H2.out (fun b hb => HB1.out.block b (H2.out.lt b hb).2)) _
  go_wp2_with (at_builtin; refine wpList_append_where rfl (.tmp 3) (.tmp 5) 28 rfl 0 43 i0 _ 4 32 Tryz.underlying28 hi hz0 hz1 hz2 rfl (by decide) vR l.length (evCells l) rfl HR1.out ⟨W1.heap.size, 0, none⟩ 1 1 (evc (o, e)) rfl rfl (ev_news W1 (o, e)) (ev_one (o, e)) (by decide) (by unfold maxLen; omega) (by omega) (Nat.zero_le _) ?_)
  intro g cap w4 hown hg hR4
  have hz4 := hg.size
  simp at hz4
  have hz1' := HZ1.out
  have blk4 : ∀ b, b < w.heap.size → vR.ownBlock ≠ some b → w4.heap[b]? = w.heap[b]? := fun b hb hn => ((hg.block b (by simp; omega) (fun e => hn e.symm)).trans (Below.heap_alloc _ _ _ (by omega))).trans (HB1.out.block b hb)
  have nE : ∀ {b p i : Nat}, L b = ⟨3, i, 0, p⟩ → p ≠ 1 → vR.ownBlock ≠ some b := fun e hp e2 => by
    have := H3.out _ e2
    rw [e] at this
    cases this
    exact hp rfl
  have hE4 : w4.heap[Eb]? = some (.cells #[vR] 28 (0, 0)) := (blk4 _ zE (nE h.out.lE (by omega))).trans H1.out
  have z0 : w4.cell? ⟨Eb, 0, none⟩ = some vR := by simp [World.cell?, hE4]
  have z1 : w4.frozen? ⟨Eb, 0, none⟩ = false := by simp [World.frozen?, hE4]
  have hgE : g ≠ Eb := fun e => by
    obtain ⟨cur, hc⟩ := own_ty hown (g := g) rfl
    rw [e, hE4] at hc
    simp at hc
  have hset : ∀ b, b ≠ Eb → (w4.setCell ⟨Eb, 0, none⟩ (.slice (some ⟨g, 0, none⟩) (l.length + 1) cap)).heap[b]? = w4.heap[b]? := fun b hb => Below.heap_setCell _ ⟨Eb, 0, none⟩ _ _ hb
  have hsz : (w4.setCell ⟨Eb, 0, none⟩ (.slice (some ⟨g, 0, none⟩) (l.length + 1) cap)).heap.size = w4.heap.size := by simp
  have hlg : (vR.ownBlock = some g ∧ L g = ⟨3, 0, 0, 1⟩) ∨ w.heap.size ≤ g := by
    rcases hR4 with e | e
    · exact .inl ⟨e, H3.out g e⟩
    · right
      have h2 : g = W1.heap.size + 1 := by simpa using e
      omega
  have hgz : g < w4.heap.size := (hown.lt g rfl).2
  have HF : Hid (Told c Eb Hb nt NB L w (l ++ [(o, e)]) (.returned (.tuple #[])) (w4.setCell ⟨Eb, 0, none⟩ (.slice (some ⟨g, 0, none⟩) (l.length + 1) cap))) := by
    have lab : ∀ b, b < w.heap.size → (if b = g then (⟨3, 0, 0, 1⟩ : _) else L b) = L b := fun b hb => by
      split
      · rename_i e
        subst e
        rcases hlg with ⟨_, e⟩ | e
        · exact e.symm
        · omega
      · rfl
    refine ⟨rfl, fun b => if b = g then ⟨3, 0, 0, 1⟩ else L b, ⟨⟨.slice (some ⟨g, 0, none⟩) (l.length + 1) cap, ?_, ?_, ?_⟩, ?_, fun p hp => ?_, ?_, ?_, fun p hp => ?_⟩, ⟨lab, fun b => ?_⟩, ⟨fun b hb => ?_, fun b hb => ?_, ?_⟩, ⟨hg.os.trans HB1.out.os, hg.tape.trans HB1.out.tape, hg.output.trans HB1.out.output, by rw [hsz]; omega, fun b hb hn => ?_⟩⟩
    · simp only [World.setCell, Array.getElem?_modify, if_true, hE4, Option.map_some]
      rfl
    · rw [List.length_append, evCells_app]
      exact own_keep hown (fun b hb => hset b (fun e => by cases hb; exact hgE e))
    · intro b hb
      cases hb
      simp
    · exact (hset _ (fun e => by have a := h.out.lH; rw [e, h.out.lE] at a; cases a)).trans ((blk4 _ (lt_of_block h.out.hear) (nE h.out.lH (by omega))).trans h.out.hear)
    · exact (hset _ (fun e => by have a := h.out.lN p hp; rw [e, h.out.lE] at a; cases a)).trans ((blk4 _ (lt_of_block (h.out.num p hp)) (nE (h.out.lN p hp) (by omega))).trans (h.out.num p hp))
    · exact (lab _ zE).trans h.out.lE
    · exact (lab _ (lt_of_block h.out.hear)).trans h.out.lH
    · exact (lab _ (lt_of_block (h.out.num p hp))).trans (h.out.lN p hp)
    · by_cases e : b = g
      · right; unfold EB; simp [e]
      · left; simp [e]
    · have hBz := hk.out.size
      rw [lab b (by omega)]
      exact hk.out.low b hb
    · rw [hsz] at hb
      rw [if_neg (by omega)]
      exact hk.out.new b (by omega)
    · rw [hsz]; have := hk.out.size; omega
    · refine (hset b (fun e => hn (by rw [e, h.out.lE]))).trans (blk4 b hb (fun e => hn (by rw [H3.out b e])))
  clear hown hg hR4 blk4 nE hE4 hgE hset hsz hlg hgz
  go_wp2
  go_end0
  exact HF.out
end Go.Proofs.YtomneemdbechgaaGreat.Vw

/- The walk of hear's closure; who hears, of all tasks. -/
namespace Go.Proofs.YtomneemdbechgaaGreat.Vw
open Go.RowKit Vf Vm

theorem enter_noted (args : Array Value) (w : World) : Sem.run Tryz.prog (callFunc 16 args) w = .ok (.enter 16 args) w := by kernel_rfl

set_option maxRecDepth 100000 in
set_option maxHeartbeats 1000000 in
/-- WHAT hear$1 LEAVES. -/
theorem told_any (c : Cx) (Eb Hb nt : Nat) (NB : Nat → Nat) (L : Lab) (w : World) (l : List (Nat × Ev)) (h : Hid (EvIn Eb Hb nt NB L w l)) (hk : Hid (LOk c.B L w)) (hl : l.length ≤ 3000000) (o : Nat) (ho : o < nt) (e : Ev) :
    Calls Tryz.prog 23 #[evV e, .pointer (some ⟨NB o, 0, none⟩), .pointer (some ⟨Hb, 0, none⟩)] w fun r w' => Told c Eb Hb nt NB L w (l ++ [(o, e)]) r w' := by
  have zN := lt_of_block (h.out.num o ho)
  have zH := lt_of_block h.out.hear
  have x0 : w.cell? ⟨NB o, 0, none⟩ = some (.int .i64 (o : Int)) := by have := h.out.num o ho; simp [World.cell?, this]
  have x1 : w.cell? ⟨Hb, 0, none⟩ = some (.func (.func 16) #[] #[.pointer (some ⟨Eb, 0, none⟩)]) := by have := h.out.hear; simp [World.cell?, this]
  have n1 : ¬ w.heap.size = NB o := by omega
  have n2 : ¬ NB o = w.heap.size := by omega
  have n3 : ¬ w.heap.size = Hb := by omega
  have n4 : ¬ Hb = w.heap.size := by omega
  have hent := enter_noted
  have HB1 : Hid (Below w.heap.size w (w.alloc (evO o e))) := (Below.refl _ w).alloc (Nat.le_refl _) _
  go_enter Tryz.func23, Tryz.ntmps23
  go_wp2_with fail
  generalize w.alloc (evO o e) = W1 at *
  refine (noted_any c Eb Hb nt NB L W1 l (Sb.hide (h.out.keep (.refl _ _) (fun b hb _ => HB1.out.block b hb))) (Sb.hide (hk.out.on HB1.out.size)) hl o e).mono ?_
  rintro r w2 ⟨rfl, L', g1, g2, g3, g4⟩
  have hz := HB1.out.size
  have HF : Hid (Told c Eb Hb nt NB L w (l ++ [(o, e)]) (.returned (.tuple #[])) w2) := ⟨rfl, L', g1, ⟨fun b hb => g2.1 b (by omega), g2.2⟩, g3, ⟨g4.os.trans HB1.out.os, g4.tape.trans HB1.out.tape, g4.output.trans HB1.out.output, by have := g4.size; omega, fun b hb hn => (g4.block b (by omega) hn).trans (HB1.out.block b hb)⟩⟩
  clear g1 g2 g3 g4
  go_wp2
  go_end0
  exact HF.out
end Go.Proofs.YtomneemdbechgaaGreat.Vw

/- The walk of hear. -/
namespace Go.Proofs.YtomneemdbechgaaGreat.Vw
open Go.RowKit Vf Vm

/-- The first k tasks are heard. -/
def Sx.heard (s : Sx) (k Hb : Nat) (NB : Nat → Nat) : Sx := { s with N := fun o => if o < k then 23 else s.N o, caps := fun o => if o < k then #[.pointer (some ⟨NB o, 0, none⟩), .pointer (some ⟨Hb, 0, none⟩)] else s.caps o }
section
variable {s : Sx} {L L1 : Lab} {w w1 : World} {W : Wd} {vt vx : Value}
/-- New blocks bear labels. -/
theorem WdIn.label (H : WdIn s deafW L w W vt vx) (hb : Below w.heap.size w w1) (hE : Ext L L1 w) (hL : ∀ b, L1 b = L b ∨ (L1 b).cls = 3) (hok : LOk s.c.B L1 w1) : WdIn s deafW L1 w1 W vt vx :=
  ⟨(hb.block _ (lt_of_block H.blk)).trans H.blk, by rw [hE _ (lt_of_block H.blk)]; exact H.lW, own_keep H.trow (fun b hx => hb.block b (H.trow.lt b hx).2), own_keep H.brow (fun b hx => hb.block b (H.brow.lt b hx).2), fun b hx => by rw [hE _ (H.trow.lt b hx).2]; exact H.lt b hx, fun b hx => by rw [hE _ (H.brow.lt b hx).2]; exact H.lx b hx, H.low, fun o t ht => by
    obtain ⟨P, vR, vO, h⟩ := H.tasks o t ht
    refine ⟨P, vR, vO, tk_below h (fun b hs _ _ => hb.block b hs) hE (fun b h1 h2 => ?_)⟩
    rcases hL b with e | e
    · rw [e] at h1 h2 ⊢; exact h.labs b h1 h2
    · omega, H.boxes.keep hE hb.size (fun b hs _ => hb.block b hs), trivial, hok, H.cx.low (fun b hs => hb.block b (by have := H.ok.size; omega))⟩
theorem tk_ev {c : Cx} {vB ev vR vO : Value} {T hp ov tr : Nat} (h : w.heap[T]? = some (tkO c vB ev vR hp vO ov tr)) (ev' : Value) : (w.setCell ⟨T, 2, none⟩ ev').heap[T]? = some (tkO c vB ev' vR hp vO ov tr) := by
  simp only [World.setCell, Array.getElem?_modify, if_true, h, Option.map_some]
  rfl
/-- A task is heard. -/
theorem WdIn.hears (H : WdIn s deafW L w W vt vx) {k : Nat} {t : Tk} (ht : W.ts[k]? = some t) {N' : Nat → Nat} {caps' : Nat → Array Value} (hN : ∀ o, o ≠ k → N' o = s.N o ∧ caps' o = s.caps o) : WdIn { s with N := N', caps := caps' } deafW L (w.setCell ⟨s.T k, 2, none⟩ (.func (.func (N' k)) #[] (caps' k))) W vt vx := by
  obtain ⟨P0, vR0, vO0, h0⟩ := H.tasks k t ht
  have hlT := h0.lT
  have hset : ∀ b, b ≠ s.T k → (w.setCell ⟨s.T k, 2, none⟩ (.func (.func (N' k)) #[] (caps' k))).heap[b]? = w.heap[b]? := fun b hb => Below.heap_setCell _ ⟨s.T k, 2, none⟩ _ _ hb
  have hsz : (w.setCell ⟨s.T k, 2, none⟩ (.func (.func (N' k)) #[] (caps' k))).heap.size = w.heap.size := by simp
  have ne : ∀ {b : Nat}, (L b).cls ≠ 1 → b ≠ s.T k := fun hb e => hb (by rw [e, hlT])
  have hev : ∀ o, o ≠ k → Sx.ev { s with N := N', caps := caps' } o = s.ev o := fun o ho => by
    unfold Sx.ev
    rw [show ({ s with N := N', caps := caps' } : Sx).N o = s.N o from (hN o ho).1, show ({ s with N := N', caps := caps' } : Sx).caps o = s.caps o from (hN o ho).2]
  refine ⟨(hset _ (ne (by rw [H.lW]; decide))).trans H.blk, H.lW, own_keep H.trow (fun b hx => hset b (ne (by rw [H.lt b hx]; decide))), own_keep H.brow (fun b hx => hset b (ne (by rw [H.lx b hx]; decide))), H.lt, H.lx, H.low, fun o u hu => ?_, ?_, trivial, H.ok.on (by rw [hsz]; exact Nat.le_refl _), H.cx.low (fun b hs => hset b (ne (by rw [H.ok.low b hs]; decide)))⟩
  · by_cases e : o = k
    · subst e
      rw [ht] at hu
      cases hu
      have one : ∀ {b i p : Nat}, L b = ⟨1, o, i, p⟩ → ¬ (i = 0 ∧ p = 4) → b ≠ s.T o := fun e1 hn e2 => hn (by rw [e2, hlT] at e1; simp at e1; exact ⟨e1.1.symm, e1.2.symm⟩)
      refine ⟨P0, vR0, vO0, ⟨tk_ev h0.blk _, own_keep h0.rows (fun b hb => hset b (one (h0.lR b hb) (by omega))), own_keep h0.out (fun b hb => hset b (one (h0.lO b hb) (by omega))), fun i x hx => ?_, h0.few, h0.hand, h0.lT, h0.lR, h0.lO, h0.labs⟩⟩
      obtain ⟨S, g, r, vU, hT⟩ := h0.ths i x hx
      exact ⟨S, g, r, vU, hT.keep (.refl _ _) rfl rfl (fun b _ hx => hset b (fun e => by rw [e, hlT] at hx; cases hx.2.2))⟩
    · obtain ⟨P, vR, vO, h⟩ := H.tasks o u hu
      have e2 := hev o e
      refine ⟨P, vR, vO, ?_⟩
      rw [e2]
      exact tk_below h (fun b _ _ h2 => hset b (fun e3 => by rw [e3, hlT] at h2; exact e h2.symm)) (.refl _ _) h.labs
  · by_cases h0' : 0 < s.c.m.boxes.length
    · have hr := H.boxes.row 0 h0'
      exact H.boxes.keep (.refl _ _) (by rw [hsz]; exact Nat.le_refl _) (fun b hs hx => hset b (ne (by rcases hx with rfl | hx <;> omega)))
    · have hx0 : W.x = [] := List.eq_nil_of_length_eq_zero (by have := H.boxes.len; omega)
      exact ⟨H.boxes.len, fun n hn => absurd hn (by show ¬ n < s.c.m.boxes.length; omega), fun n q hq => by rw [hx0] at hq; cases hq⟩
end

/-- What holds at the head of hear's loop. -/
structure HrAt (s : Sx) (L : Lab) (w : World) (W : Wd) (vt vx : Value) (Eb k : Nat) (NB : Nat → Nat) (L' : Lab) (wr : World) : Prop where
  le : k ≤ W.ts.length
  wd : WdIn (s.heard k w.heap.size NB) deafW L' wr W vt vx
  ev : EvIn Eb w.heap.size k NB L' wr []
  ext : Ext L L' w
  kp : Kp L w wr
theorem HrAt.more {s : Sx} {L : Lab} {w : World} {W : Wd} {vt vx : Value} {Eb k : Nat} {NB : Nat → Nat} {L' : Lab} {wr : World} (h : HrAt s L w W vt vx Eb k NB L' wr) (hk : k < W.ts.length) :
    ∃ NB' L2, NB' k = wr.heap.size ∧ HrAt s L w W vt vx Eb (k + 1) NB' L2 ((wr.alloc (.cells #[.int .i64 (k : Int)] 3)).setCell ⟨s.T k, 2, none⟩ (.func (.func 23) #[] #[.pointer (some ⟨wr.heap.size, 0, none⟩), .pointer (some ⟨w.heap.size, 0, none⟩)])) := by
  obtain ⟨t, ht⟩ : ∃ t, W.ts[k]? = some t := ⟨_, List.getElem?_eq_getElem hk⟩
  have hzw := h.kp.size
  have hHz := lt_of_block h.ev.hear
  have hok := h.wd.ok
  have hb : Below wr.heap.size wr (wr.alloc (.cells #[.int .i64 (k : Int)] 3)) := (Below.refl _ wr).alloc (Nat.le_refl _) _
  have hbk : (wr.alloc (.cells #[.int .i64 (k : Int)] 3)).heap[wr.heap.size]? = some (.cells #[.int .i64 (k : Int)] 3 (0, 0)) := heap_alloc_new wr _
  have hz1 : (wr.alloc (.cells #[.int .i64 (k : Int)] 3)).heap.size = wr.heap.size + 1 := by simp
  generalize wr.alloc (.cells #[.int .i64 (k : Int)] 3) = W1 at *
  have hE : Ext L' (fun b => if b = wr.heap.size then ⟨3, k, 0, 3⟩ else L' b) wr := fun b hb => by simp; intro e; omega
  have hL : ∀ b, (if b = wr.heap.size then (⟨3, k, 0, 3⟩ : _) else L' b) = L' b ∨ ((if b = wr.heap.size then (⟨3, k, 0, 3⟩ : _) else L' b) : _).cls = 3 := fun b => by
    by_cases e : b = wr.heap.size
    · right; simp [e]
    · left; simp [e]
  have hBz : s.c.B ≤ wr.heap.size := hok.size
  have H1 := h.wd.label hb hE hL ⟨fun b hb' => by
    have : b < s.c.B := hb'
    (try simp only)
    rw [if_neg (by omega)]
    exact hok.low b hb', fun b hb' => by (try simp only); rw [if_neg (by omega)]; exact hok.new b (by omega), by show s.c.B ≤ _; omega⟩
  have H2 := H1.hears ht (N' := (s.heard (k + 1) w.heap.size (fun o => if o = k then wr.heap.size else NB o)).N) (caps' := (s.heard (k + 1) w.heap.size (fun o => if o = k then wr.heap.size else NB o)).caps) (fun o ho => by
    simp only [Sx.heard, if_neg ho]
    by_cases h1 : o < k
    · rw [if_pos h1, if_pos h1, if_pos (by omega), if_pos (by omega)]; exact ⟨rfl, rfl⟩
    · rw [if_neg h1, if_neg h1, if_neg (by omega), if_neg (by omega)]; exact ⟨rfl, rfl⟩)
  have eN : (s.heard (k + 1) w.heap.size (fun o => if o = k then wr.heap.size else NB o)).N k = 23 := by simp [Sx.heard]
  have eC : (s.heard (k + 1) w.heap.size (fun o => if o = k then wr.heap.size else NB o)).caps k = #[.pointer (some ⟨wr.heap.size, 0, none⟩), .pointer (some ⟨w.heap.size, 0, none⟩)] := by simp [Sx.heard]
  rw [eN, eC] at H2
  obtain ⟨P0, vR0, vO0, h0⟩ := h.wd.tasks k t ht
  have hlT : L' (s.T k) = ⟨1, k, 0, 4⟩ := h0.lT
  have hTz : s.T k < wr.heap.size := lt_of_block h0.blk
  have hset : ∀ b, b ≠ s.T k → (W1.setCell ⟨s.T k, 2, none⟩ (.func (.func 23) #[] #[.pointer (some ⟨wr.heap.size, 0, none⟩), .pointer (some ⟨w.heap.size, 0, none⟩)])).heap[b]? = W1.heap[b]? := fun b hb => Below.heap_setCell _ ⟨s.T k, 2, none⟩ _ _ hb
  refine ⟨fun o => if o = k then wr.heap.size else NB o, fun b => if b = wr.heap.size then ⟨3, k, 0, 3⟩ else L' b, by simp, hk, H2, ?_, fun b hb' => ?_, ⟨hb.os.trans h.kp.os, hb.tape.trans h.kp.tape, hb.output.trans h.kp.output, by simp; omega, fun b hb' h0' => ?_⟩⟩
  · have h2 := h.ev.keep (w' := W1.setCell ⟨s.T k, 2, none⟩ (.func (.func 23) #[] #[.pointer (some ⟨wr.heap.size, 0, none⟩), .pointer (some ⟨w.heap.size, 0, none⟩)])) hE (fun b hs h3 => (hset b (fun e => by rw [e, hlT] at h3; simp at h3)).trans (hb.block b hs))
    refine ⟨h2.row, h2.hear, fun o ho => ?_, h2.lE, h2.lH, fun o ho => ?_⟩
    · by_cases e : o = k
      · subst e
        simp only [if_true]
        exact (hset _ (by omega)).trans hbk
      · simp only [if_neg e]
        exact h2.num o (by omega)
    · by_cases e : o = k
      · subst e; simp
      · simp only [if_neg e]
        exact h2.lN o (by omega)
  · show (if b = wr.heap.size then _ else _) = _
    rw [if_neg (by omega)]
    exact h.ext b hb'
  · refine (hset b (fun e => ?_)).trans ((hb.block b (by omega)).trans (h.kp.block b hb' h0'))
    rw [← h.ext b hb', e, hlT] at h0'
    simp at h0'
end Go.Proofs.YtomneemdbechgaaGreat.Vw

