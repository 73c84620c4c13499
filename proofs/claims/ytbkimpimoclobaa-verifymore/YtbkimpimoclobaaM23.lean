/- A flow whole in memory; the walk of note. -/
import Derived.Test.YtbkimpimoclobaaM22
namespace Go.Proofs.Ytbkimpimoclobaa
open Go.RowKit

/-- The cells of stacks stay. -/
def KC (w w' : World) : Prop := ∀ (b : Nat) (cs : Array Value), w.heap[b]? = some (Obj.cells cs 109 (0, 0)) → w'.heap[b]? = some (Obj.cells cs 109 (0, 0))
theorem KC.trans {a b c : World} (h : KC a b) (k : KC b c) : KC a c := fun x cs hx => k x cs (h x cs hx)
theorem KC.refl (w : World) : KC w w := fun _ _ h => h
theorem kc_grown {w w' : World} {r : Option Nat} (hg : w.grownBy w' r) (hne : ∀ (b : Nat) (cs : Array Value), w.heap[b]? = some (Obj.cells cs 109 (0, 0)) → r ≠ some b) : KC w w' := fun b cs hb => (hg.block b (lt_of_block hb) (fun e => hne b cs hb e.symm)).trans hb
theorem kc_alloc (w : World) (o : Obj) : KC w (w.alloc o) := fun _ _ hb => (Below.heap_alloc _ _ _ (lt_of_block hb)).trans hb
theorem kc_block {w w' : World} {F : Nat} {o : Obj} (hg : w.grownBy w' (some F)) (ho : w.heap[F]? = some o) (ht : ∀ cs, o ≠ Obj.cells cs 109 (0, 0)) : KC w w' := kc_grown hg fun b cs hb e => by
  simp at e
  subst e
  rw [ho] at hb
  simp at hb
  exact ht _ hb

/-- A flow, whole. -/
structure WF (c : FC) (B F : Nat) (w : World) (k : Vf.Kn) (n : Int) (s : Vf.S) : Prop where
  env : Env c B F w
  mB : B ≤ c.M
  fl : ∃ top rv, FlIn c w F top k.st k.fl n rv ∧ QR w B rv s.row
  come : ComeIn w c.M s.come

theorem fl_row {c : FC} {w : World} {F : Nat} {top : Option Addr} {st : List Int} {f : Vf.Fl} {n : Int} {row row' : Value} (h : w.heap[F]? = some (flO c top st f n row)) :
    (w.setCell ⟨F, 15, none⟩ row').heap[F]? = some (flO c top st f n row') := by
  simp only [World.setCell, Array.getElem?_modify, if_true, h, Option.map_some]
  rfl
theorem ComeIn.ne {c : FC} {w : World} {M F : Nat} {come : Nat → Option Vf.Kn} {top : Option Addr} {st : List Int} {f : Vf.Fl} {n : Int} {row : Value} (h : ComeIn w M come) (hF : w.heap[F]? = some (flO c top st f n row)) : M ≠ F := by
  obtain ⟨es, cl, h1, _⟩ := h
  intro e
  subst e
  rw [h1] at hF
  cases hF
/-- What holds of a flow behind a change of its own block alone. -/
theorem WF.own {c : FC} {B F : Nat} {w w' : World} {k k' : Vf.Kn} {n n' : Int} {s : Vf.S} {top : Option Addr} {rv : Value} (h : WF c B F w k n s) (hg : w.grownBy w' (some F)) (hF : FlIn c w' F top k'.st k'.fl n' rv) (hrv : ∀ top rv', FlIn c w F top k.st k.fl n rv' → rv = rv') : WF c B F w' k' n' s := by
  obtain ⟨env, mB, ⟨top0, rv0, hF0, hq⟩, come⟩ := h
  obtain rfl := hrv _ _ hF0
  have hne := come.ne hF0.blk
  have kc := kc_block hg hF0.blk (fun cs e => by cases e)
  exact ⟨env.grown hg, mB, ⟨top, rv, hF, hq.keep fun j hj => hg.block j (hq.lt j hj).2 (fun e => hq.ty hF0.blk (fun cs fr e2 => by cases e2) (by rw [hj, ← e]))⟩, come.keep (hg.block _ come.lt (by simp; omega)) kc⟩

abbrev knO (k : Vf.Kn) (top : Option Addr) : Obj := .cells #[.pointer top, .int .i64 (k.st.length : Int), bvV k.fl.a, bvV k.fl.b, bvV k.fl.c, bvV k.fl.d] 63 (0, 0)
theorem below_grown {B : Nat} {w w' : World} {r : Option Nat} (h : w.grownBy w' r) (hB : B ≤ w.heap.size) (hr : ∀ k, r = some k → B ≤ k) : Below B w w' := (Below.refl B w).grown h hB hr
theorem ComeIn.drew {w : World} {M : Nat} {come : Nat → Option Vf.Kn} (h : ComeIn w M come) : ComeIn w.drew M come := h.keep rfl (fun _ _ hb => hb)
theorem ComeIn.alloc {w : World} {M : Nat} {come : Nat → Option Vf.Kn} (h : ComeIn w M come) (o : Obj) : ComeIn (w.alloc o) M come := h.keep (Below.heap_alloc _ _ _ h.lt) (kc_alloc _ _)
theorem SkIn.drew {w : World} {a : Option Addr} {st : List Int} (h : SkIn w a st) : SkIn w.drew a st := h.keep fun _ _ hb => hb

/-- Behind the laying down in the map. -/
theorem note_map {c : FC} {B F : Nat} {w w2 : World} {k : Vf.Kn} {n : Int} {s : Vf.S} {top : Option Addr} {rv : Value} {o : Obj} (hF : FlIn c w F top k.st k.fl n rv) (hq : QR w B rv s.row) (hC : ComeIn w c.M s.come) (hg : (w.alloc o).drew.grownBy w2 (some c.M)) : FlIn c w2 F top k.st k.fl n rv ∧ QR w2 B rv s.row ∧ KC w w2 := by
  have hne := hC.ne hF.blk
  have hkc : KC w w2 := KC.trans (kc_alloc w o) (kc_grown (grown_drew hg) fun b cs hb e => by
    simp at e
    subst e
    obtain ⟨es, cl, h1, _⟩ := hC.alloc o
    have h2 : (w.alloc o).heap[c.M]? = some (Obj.cells cs 109 (0, 0)) := hb
    rw [h1] at h2
    cases h2)
  have blk : ∀ j, j < w.heap.size → j ≠ c.M → w2.heap[j]? = w.heap[j]? := fun j hj hjm => (hg.block j (by show j < (w.alloc o).heap.size; simp; omega) (by simp; omega)).trans (Below.heap_alloc _ _ _ hj)
  refine ⟨⟨(blk F (lt_of_block hF.blk) (by omega)).trans hF.blk, hF.sk.keep hkc⟩, hq.keep fun j hj => blk j (hq.lt j hj).2 (fun e => ?_), hkc⟩
  obtain ⟨es, cl, h1, _⟩ := hC
  subst e
  exact hq.ty h1 (fun cs fr e => by cases e) hj

/-- Behind the append to the row. -/
theorem note_end {c : FC} {B F : Nat} {w w2 w4 : World} {k kn : Vf.Kn} {n : Int} {s : Vf.S} {top : Option Addr} {rv v' : Value} {o2 o : Obj} {tz : Nat} (h : WF c B F w k n s) (hF0 : FlIn c w F top k.st k.fl n rv)
    (hF : FlIn c w2 F top k.st k.fl n rv) (hq : QR w2 B rv s.row) (hC : ComeIn w2 c.M (s.note tz kn).come) (hg2 : (w.alloc o2).drew.grownBy w2 (some c.M)) (hg : (w2.alloc o).grownBy w4 rv.ownBlock) (hq4 : QR w4 B v' (s.row ++ [tz])) :
    WF c B F (w4.setCell ⟨F, 15, none⟩ v') k n (s.note tz kn) ∧ Below B w (w4.setCell ⟨F, 15, none⟩ v') := by
  have hlt := lt_of_block hF.blk
  have ho : rv.ownBlock ≠ some F := hq.ty hF.blk (fun cs fr e => by cases e)
  have blk : ∀ j, j < w2.heap.size → rv.ownBlock ≠ some j → w4.heap[j]? = w2.heap[j]? := fun j hj h1 => (hg.block j (by simp; omega) (fun e => h1 e.symm)).trans (Below.heap_alloc _ _ _ hj)
  have kc4 : KC w2 w4 := fun b cs hb => (blk b (lt_of_block hb) (hq.ty hb (fun cs' fr e => by cases e))).trans hb
  have hF4 : w4.heap[F]? = some (flO c top k.st k.fl n rv) := (blk F hlt ho).trans hF.blk
  have kc5 : KC w4 (w4.setCell ⟨F, 15, none⟩ v') := fun b cs hb => (Below.heap_setCell _ ⟨F, 15, none⟩ _ _ (fun e => by
    have e1 : b = F := e
    subst e1
    rw [hF4] at hb
    cases hb)).trans hb
  have hMF := hC.ne hF.blk
  have hM4 : w4.heap[c.M]? = w2.heap[c.M]? := blk c.M hC.lt (by
    obtain ⟨es, cl, h1, _⟩ := hC
    exact hq.ty h1 (fun cs fr e => by cases e))
  have hsz := h.env.lt
  have hB : B ≤ w.heap.size := by have := h.env.base; omega
  have hb2 : Below B w w2 := ((Below.refl B w).alloc hB o2).trans (by have := below_grown hg2 (by show B ≤ (w.alloc o2).heap.size; simp; omega) (fun j e => by cases e; exact h.mB); exact ⟨this.os, this.tape, this.output, this.size, this.block⟩)
  have hb4 : Below B w2 w4 := ((Below.refl B w2).alloc (by have := hb2.size; omega) o).trans (below_grown hg (by have := hb2.size; simp; omega) (fun j e => (hq.lt j e).1))
  have hb5 : Below B w4 (w4.setCell ⟨F, 15, none⟩ v') := (Below.refl B w4).setCell (p := ⟨F, 15, none⟩) h.env.base _
  have hall := (hb2.trans hb4).trans hb5
  refine ⟨⟨⟨h.env.md.low (fun j hj => hall.block j hj), h.env.un.low (fun j hj => hall.block j hj), h.env.base, ?_⟩, h.mB, ⟨top, v', ⟨fl_row hF4, hF.sk.keep (kc4.trans kc5)⟩, hq4.keep fun j hj => Below.heap_setCell _ ⟨F, 15, none⟩ _ _ (fun e => ?_)⟩, hC.keep ((Below.heap_setCell _ ⟨F, 15, none⟩ _ _ (by show c.M ≠ F; omega)).trans hM4) (kc4.trans kc5)⟩, hall⟩
  · have := lt_of_block hF4
    simp [World.setCell]
    omega
  · have e1 : j = F := e
    subst e1
    exact hq4.ty hF4 (fun cs fr e => by cases e) hj

theorem one_news (W : World) (u : Value) (t : TypeId) : ∀ j u', [u][j]? = some u' → (W.alloc (.cells #[u] t)).cell? ((⟨W.heap.size, 0, none⟩ : Addr).add j) = some u'
  | 0, u', h => by simp at h; subst h; simp [Addr.add]
  | j + 1, u', h => by simp at h

set_option maxRecDepth 100000 in
set_option maxHeartbeats 2000000 in
theorem note_any (c : FC) (B F : Nat) (k kn : Vf.Kn) (n : Int) (s : Vf.S) (tz : Nat) (top' : Option Addr) (w : World) (h : Hid (WF c B F w k n s)) (hs : Hid (SkIn w top' kn.st)) (hn : s.row.length ≤ 100000000) :
    Calls Try.prog 44 #[.pointer (some ⟨F, 0, none⟩), .int .i64 (tz : Int), knV kn top'] w fun e w' => e = .returned (.tuple #[]) ∧ WF c B F w' k n (s.note tz kn) ∧ Below B w w' := by
  obtain ⟨top, rv, hF, hq⟩ := h.out.fl
  have hlt := h.out.env.lt
  have hB0 := h.out.env.base
  have hC1 : ComeIn (w.alloc (knO kn top')).drew c.M s.come := (h.out.come.alloc _).drew
  obtain ⟨w2, hup, hC2, hg2⟩ := run_note (k := tz) hC1 ((hs.out.keep (kc_alloc w (knO kn top'))).drew)
  obtain ⟨hF2, hq2, hk2⟩ := note_map hF hq h.out.come hg2
  have c16 := (fl_cells4 (hF.alloc (knO kn top')).blk).2.2.1
  obtain ⟨d14, d15, d16, z14, z15⟩ := fl_cells4 hF2.blk
  have hz2 := hg2.size
  have hz2' : w.heap.size + 1 ≤ w2.heap.size := by simpa using hz2
  have ho : rv.ownBlock ≠ some F := hq2.ty hF2.blk (fun cs fr e => by cases e)
  have HO := hide ho
  have HF := hide hF
  have HF2 := hide hF2
  have HQ2 := hide hq2
  have HC2 := hide hC2
  have HG2 := hide hg2
  obtain ⟨ar, cr, hrv⟩ := hq2.form
  subst hrv
  clear hF hq hC1 hF2 hq2 hk2 hC2 hg2 hz2 d14 d16 z14 ho
  go_enter Try.func44, Try.ntmps44
  go_wp2
  go_region
  all_goals
    go_wp2_with (at_builtin; refine wpList_append_q rfl _ _ rfl B _ s.row tz rfl (HQ2.out.alloc _) ⟨w2.heap.size, 0, none⟩ rfl (one_news _ _ _) hn (by simp; omega) ?_; intro v' w4 hq4 hg4; obtain ⟨a4, c4, hv4⟩ := hq4.form; obtain ⟨L4, hL4⟩ : ∃ L4, L4 = (s.row ++ [tz]).length := ⟨_, rfl⟩; rw [← hL4] at hv4; subst hv4; have HE := hide (note_end (kn := kn) h.out HF.out HF2.out HQ2.out HC2.out HG2.out hg4 hq4); have hb4 : w4.heap[F]? = some (flO c top k.st k.fl n (.slice ar s.row.length cr)) := ((hg4.block F (by simp; omega) (fun e => HO.out e.symm)).trans (Below.heap_alloc _ _ _ (by omega))).trans HF2.out.blk; have b15 := (fl_cells4 hb4).2.1; have y15 := (fl_cells4 hb4).2.2.2.2; clear hq4 hg4 hb4 hL4)
    go_wp2
    go_end0
    exact ⟨rfl, HE.out⟩

end Go.Proofs.Ytbkimpimoclobaa

