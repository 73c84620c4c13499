/- A flow whole in memory; the walk of note. -/
import Derived.Test.YtnfbfdajdflfgaaGreatM34
import Derived.Test.YtnfbfdajdflfgaaGreatM33
namespace Go.Proofs.YtnfbfdajdflfgaaGreat
open Go.RowKit

/-- The cells of stacks stay. -/
def KC (w w' : World) : Prop := ∀ (b : Nat) (cs : Array Value), w.heap[b]? = some (Obj.cells cs 156 (0, 0)) → w'.heap[b]? = some (Obj.cells cs 156 (0, 0))
theorem KC.trans {a b c : World} (h : KC a b) (k : KC b c) : KC a c := fun x cs hx => k x cs (h x cs hx)
theorem KC.refl (w : World) : KC w w := fun _ _ h => h
theorem kc_grown {w w' : World} {r : Option Nat} (hg : w.grownBy w' r) (hne : ∀ (b : Nat) (cs : Array Value), w.heap[b]? = some (Obj.cells cs 156 (0, 0)) → r ≠ some b) : KC w w' := fun b cs hb => (hg.block b (lt_of_block hb) (fun e => hne b cs hb e.symm)).trans hb
theorem kc_alloc (w : World) (o : Obj) : KC w (w.alloc o) := fun _ _ hb => (Below.heap_alloc _ _ _ (lt_of_block hb)).trans hb
theorem kc_block {w w' : World} {F : Nat} {o : Obj} (hg : w.grownBy w' (some F)) (ho : w.heap[F]? = some o) (ht : ∀ cs, o ≠ Obj.cells cs 156 (0, 0)) : KC w w' := kc_grown hg fun b cs hb e => by
  simp at e
  subst e
  rw [ho] at hb
  simp at hb
  exact ht _ hb

/-- A flow, whole. -/
structure WF (c : FC) (B F : Nat) (w : World) (k : Vf.Kn) (n : Int) (s : Vf.S) : Prop where
  env : Env c B F w
  mB : B ≤ c.M
  fl : ∃ top rv, FlIn c w F top k.st k.fl n rv ∧ QR w B rv s.row
  come : ComeIn w c.M s.come

theorem fl_row {c : FC} {w : World} {F : Nat} {top : Option Addr} {st : List Int} {f : Vf.Fl} {n : Int} {row row' : Value} (h : w.heap[F]? = some (flO c top st f n row)) :
    (w.setCell ⟨F, 15, none⟩ row').heap[F]? = some (flO c top st f n row') := by
  simp only [World.setCell, Array.getElem?_modify, if_true, h, Option.map_some]
  rfl
theorem ComeIn.ne {c : FC} {w : World} {M F : Nat} {come : Nat → Option Vf.Kn} {top : Option Addr} {st : List Int} {f : Vf.Fl} {n : Int} {row : Value} (h : ComeIn w M come) (hF : w.heap[F]? = some (flO c top st f n row)) : M ≠ F := by
  obtain ⟨es, cl, h1, _⟩ := h
  intro e
  subst e
  rw [h1] at hF
  cases hF
/-- What holds of a flow behind a change of its own block alone. -/
theorem WF.own {c : FC} {B F : Nat} {w w' : World} {k k' : Vf.Kn} {n n' : Int} {s : Vf.S} {top : Option Addr} {rv : Value} (h : WF c B F w k n s) (hg : w.grownBy w' (some F)) (hF : FlIn c w' F top k'.st k'.fl n' rv) (hrv : ∀ top rv', FlIn c w F top k.st k.fl n rv' → rv = rv') : WF c B F w' k' n' s := by
  obtain ⟨env, mB, ⟨top0, rv0, hF0, hq⟩, come⟩ := h
  obtain rfl := hrv _ _ hF0
  have hne := come.ne hF0.blk
  have kc := kc_block hg hF0.blk (fun cs e => by cases e)
  exact ⟨env.grown hg, mB, ⟨top, rv, hF, hq.keep fun j hj => hg.block j (hq.lt j hj).2 (fun e => hq.ty hF0.blk (fun cs fr e2 => by cases e2) (by rw [hj, ← e]))⟩, come.keep (hg.block _ come.lt (by simp; omega)) kc⟩

abbrev knO (k : Vf.Kn) (top : Option Addr) : Obj := .cells #[.pointer top, .int .i64 (k.st.length : Int), bvV k.fl.a, bvV k.fl.b, bvV k.fl.c, bvV k.fl.d] 96 (0, 0)
theorem below_grown {B : Nat} {w w' : World} {r : Option Nat} (h : w.grownBy w' r) (hB : B ≤ w.heap.size) (hr : ∀ k, r = some k → B ≤ k) : Below B w w' := (Below.refl B w).grown h hB hr
theorem ComeIn.drew {w : World} {M : Nat} {come : Nat → Option Vf.Kn} (h : ComeIn w M come) : ComeIn w.drew M come := h.keep rfl (fun _ _ hb => hb)
theorem ComeIn.alloc {w : World} {M : Nat} {come : Nat → Option Vf.Kn} (h : ComeIn w M come) (o : Obj) : ComeIn (w.alloc o) M come := h.keep (Below.heap_alloc _ _ _ h.lt) (kc_alloc _ _)
theorem SkIn.drew {w : World} {a : Option Addr} {st : List Int} (h : SkIn w a st) : SkIn w.drew a st := h.keep fun _ _ hb => hb

/-- Behind the laying down in the map. -/
theorem note_map {c : FC} {B F : Nat} {w w2 : World} {k : Vf.Kn} {n : Int} {s : Vf.S} {top : Option Addr} {rv : Value} {o : Obj} (hF : FlIn c w F top k.st k.fl n rv) (hq : QR w B rv s.row) (hC : ComeIn w c.M s.come) (hg : (w.alloc o).drew.grownBy w2 (some c.M)) : FlIn c w2 F top k.st k.fl n rv ∧ QR w2 B rv s.row ∧ KC w w2 := by
  have hne := hC.ne hF.blk
  have hkc : KC w w2 := KC.trans (kc_alloc w o) (kc_grown (grown_drew hg) fun b cs hb e => by
    simp at e
    subst e
    obtain ⟨es, cl, h1, _⟩ := hC.alloc o
    have h2 : (w.alloc o).heap[c.M]? = some (Obj.cells cs 156 (0, 0)) := hb
    rw [h1] at h2
    cases h2)
  have blk : ∀ j, j < w.heap.size → j ≠ c.M → w2.heap[j]? = w.heap[j]? := fun j hj hjm => (hg.block j (by show j < (w.alloc o).heap.size; simp; omega) (by simp; omega)).trans (Below.heap_alloc _ _ _ hj)
  refine ⟨⟨(blk F (lt_of_block hF.blk) (by omega)).trans hF.blk, hF.sk.keep hkc⟩, hq.keep fun j hj => blk j (hq.lt j hj).2 (fun e => ?_), hkc⟩
  obtain ⟨es, cl, h1, _⟩ := hC
  subst e
  exact hq.ty h1 (fun cs fr e => by cases e) hj

/-- Behind the append to the row. -/
theorem note_end {c : FC} {B F : Nat} {w w2 w4 : World} {k kn : Vf.Kn} {n : Int} {s : Vf.S} {top : Option Addr} {rv v' : Value} {o2 o : Obj} {tz : Nat} (h : WF c B F w k n s) (hF0 : FlIn c w F top k.st k.fl n rv)
    (hF : FlIn c w2 F top k.st k.fl n rv) (hq : QR w2 B rv s.row) (hC : ComeIn w2 c.M (s.note tz kn).come) (hg2 : (w.alloc o2).drew.grownBy w2 (some c.M)) (hg : (w2.alloc o).grownBy w4 rv.ownBlock) (hq4 : QR w4 B v' (s.row ++ [tz])) :
    WF c B F (w4.setCell ⟨F, 15, none⟩ v') k n (s.note tz kn) ∧ Below B w (w4.setCell ⟨F, 15, none⟩ v') := by
  have hlt := lt_of_block hF.blk
  have ho : rv.ownBlock ≠ some F := hq.ty hF.blk (fun cs fr e => by cases e)
  have blk : ∀ j, j < w2.heap.size → rv.ownBlock ≠ some j → w4.heap[j]? = w2.heap[j]? := fun j hj h1 => (hg.block j (by simp; omega) (fun e => h1 e.symm)).trans (Below.heap_alloc _ _ _ hj)
  have kc4 : KC w2 w4 := fun b cs hb => (blk b (lt_of_block hb) (hq.ty hb (fun cs' fr e => by cases e))).trans hb
  have hF4 : w4.heap[F]? = some (flO c top k.st k.fl n rv) := (blk F hlt ho).trans hF.blk
  have kc5 : KC w4 (w4.setCell ⟨F, 15, none⟩ v') := fun b cs hb => (Below.heap_setCell _ ⟨F, 15, none⟩ _ _ (fun e => by
    have e1 : b = F := e
    subst e1
    rw [hF4] at hb
    cases hb)).trans hb
  have hMF := hC.ne hF.blk
  have hM4 : w4.heap[c.M]? = w2.heap[c.M]? := blk c.M hC.lt (by
    obtain ⟨es, cl, h1, _⟩ := hC
    exact hq.ty h1 (fun cs fr e => by cases e))
  have hsz := h.env.lt
  have hB : B ≤ w.heap.size := by have := h.env.base; omega
  have hb2 : Below B w w2 := ((Below.refl B w).alloc hB o2).trans (by have := below_grown hg2 (by show B ≤ (w.alloc o2).heap.size; simp; omega) (fun j e => by cases e; exact h.mB); exact ⟨this.os, this.tape, this.output, this.size, this.block⟩)
  have hb4 : Below B w2 w4 := ((Below.refl B w2).alloc (by have := hb2.size; omega) o).trans (below_grown hg (by have := hb2.size; simp; omega) (fun j e => (hq.lt j e).1))
  have hb5 : Below B w4 (w4.setCell ⟨F, 15, none⟩ v') := (Below.refl B w4).setCell (p := ⟨F, 15, none⟩) h.env.base _
  have hall := (hb2.trans hb4).trans hb5
  refine ⟨⟨⟨h.env.md.low (fun j hj => hall.block j hj), h.env.un.low (fun j hj => hall.block j hj), h.env.base, ?_⟩, h.mB, ⟨top, v', ⟨fl_row hF4, hF.sk.keep (kc4.trans kc5)⟩, hq4.keep fun j hj => Below.heap_setCell _ ⟨F, 15, none⟩ _ _ (fun e => ?_)⟩, hC.keep ((Below.heap_setCell _ ⟨F, 15, none⟩ _ _ (by show c.M ≠ F; omega)).trans hM4) (kc4.trans kc5)⟩, hall⟩
  · have := lt_of_block hF4
    simp [World.setCell]
    omega
  · have e1 : j = F := e
    subst e1
    exact hq4.ty hF4 (fun cs fr e => by cases e) hj

theorem one_news (W : World) (u : Value) (t : TypeId) : ∀ j u', [u][j]? = some u' → (W.alloc (.cells #[u] t)).cell? ((⟨W.heap.size, 0, none⟩ : Addr).add j) = some u'
  | 0, u', h => by simp at h; subst h; simp [Addr.add]
  | j + 1, u', h => by simp at h

set_option maxRecDepth 100000 in
set_option maxHeartbeats 2000000 in
theorem note_any (c : FC) (B F : Nat) (k kn : Vf.Kn) (n : Int) (s : Vf.S) (tz : Nat) (top' : Option Addr) (w : World) (h : Hid (WF c B F w k n s)) (hs : Hid (SkIn w top' kn.st)) (hn : s.row.length ≤ 100000000) :
    Calls Tryz.prog 62 #[.pointer (some ⟨F, 0, none⟩), .int .i64 (tz : Int), knV kn top'] w fun e w' => e = .returned (.tuple #[]) ∧ WF c B F w' k n (s.note tz kn) ∧ Below B w w' := by
  obtain ⟨top, rv, hF, hq⟩ := h.out.fl
  have hlt := h.out.env.lt
  have hB0 := h.out.env.base
  have hC1 : ComeIn (w.alloc (knO kn top')).drew c.M s.come := (h.out.come.alloc _).drew
  obtain ⟨w2, hup, hC2, hg2⟩ := run_note (k := tz) hC1 ((hs.out.keep (kc_alloc w (knO kn top'))).drew)
  obtain ⟨hF2, hq2, hk2⟩ := note_map hF hq h.out.come hg2
  have c16 := (fl_cells4 (hF.alloc (knO kn top')).blk).2.2.1
  obtain ⟨d14, d15, d16, z14, z15⟩ := fl_cells4 hF2.blk
  have hz2 := hg2.size
  have hz2' : w.heap.size + 1 ≤ w2.heap.size := by simpa using hz2
  have ho : rv.ownBlock ≠ some F := hq2.ty hF2.blk (fun cs fr e => by cases e)
  have HO := hide ho
  have HF := hide hF
  have HF2 := hide hF2
  have HQ2 := hide hq2
  have HC2 := hide hC2
  have HG2 := hide hg2
  obtain ⟨ar, cr, hrv⟩ := hq2.form
  subst hrv
  clear hF hq hC1 hF2 hq2 hk2 hC2 hg2 hz2 d14 d16 z14 ho
  go_enter Tryz.func62, Tryz.ntmps62
  go_wp2
  go_region
  all_goals
    go_wp2_with (at_builtin; refine wpList_append_q rfl _ _ rfl B _ s.row tz rfl (HQ2.out.alloc _) ⟨w2.heap.size, 0, none⟩ rfl (one_news _ _ _) hn (by simp; omega) ?_; intro v' w4 hq4 hg4; obtain ⟨a4, c4, hv4⟩ := hq4.form; obtain ⟨L4, hL4⟩ : ∃ L4, L4 = (s.row ++ [tz]).length := ⟨_, rfl⟩; rw [← hL4] at hv4; subst hv4; have HE := hide (note_end (kn := kn) h.out HF.out HF2.out HQ2.out HC2.out HG2.out hg4 hq4); have hb4 : w4.heap[F]? = some (flO c top k.st k.fl n (.slice ar s.row.length cr)) := ((hg4.block F (by simp; omega) (fun e => HO.out e.symm)).trans (Below.heap_alloc _ _ _ (by omega))).trans HF2.out.blk; have b15 := (fl_cells4 hb4).2.1; have y15 := (fl_cells4 hb4).2.2.2.2; clear hq4 hg4 hb4 hL4)
    go_wp2
    go_end0
    exact ⟨rfl, HE.out⟩

end Go.Proofs.YtnfbfdajdflfgaaGreat

/- The map of how often units are met; whoever is told. -/
namespace Go.Proofs.YtnfbfdajdflfgaaGreat
open Go.RowKit

theorem grownM_of0 {a b : World} {M : Nat} (h : a.grownBy b none) : a.grownBy b (some M) := ⟨h.os, h.tape, h.output, h.size, fun k hk _ => h.block k hk (by simp)⟩
theorem lowM {B M : Nat} {w w' : World} (h : w.grownBy w' (some M)) (hM : B ≤ M) (hB : B ≤ w.heap.size) : Low B w w' := fun k hk => h.block k (by omega) (by simp; omega)
theorem grownT {a b c : World} {T N : Nat} (h : a.grownBy b (some T)) (k : b.grownBy c (some N)) (hN : a.heap.size ≤ N ∨ N = T) : a.grownBy c (some T) := h.andThen k (fun j e => by cases e; rcases hN with h | h; exact .inl h; exact .inr (by rw [h]))
theorem grownT0 {a b c : World} {T : Nat} (h : a.grownBy b (some T)) (k : b.grownBy c none) : a.grownBy c (some T) := h.andThen k (fun j e => by cases e)

theorem LkIn.keep {w w' : World} {M : Nat} {l : LL} (h : LkIn w M l) (hk : w'.heap[M]? = w.heap[M]?) : LkIn w' M l := hk.trans h
theorem LkIn.alloc {w : World} {M : Nat} {l : LL} (h : LkIn w M l) (o : Obj) : LkIn (w.alloc o) M l := h.keep (Below.heap_alloc _ _ _ (lt_of_block h))
theorem LkIn.lt {w : World} {M : Nat} {l : LL} (h : LkIn w M l) : M < w.heap.size := lt_of_block h
abbrev lkB (k : Lk) : Obj := .cells #[.int .i64 k.1, .int .i64 k.2] 102 (0, 0)
theorem lk_cell {w : World} {N : Nat} {k : Lk} (h : w.heap[N]? = some (lkB k)) : w.cell? ⟨N, 0, none⟩ = some (.int .i64 k.1) ∧ w.cell? ⟨N, 1, none⟩ = some (.int .i64 k.2) := by simp [World.cell?, h]

theorem QR.at {w : World} {B i x : Nat} {v : Value} {ws : List Nat} (h : QR w B v ws) (hx : ws[i]? = some x) : ∃ g off cap, v = .slice (some ⟨g, off, none⟩) ws.length cap ∧ g < w.heap.size ∧ w.cell? ⟨g, off + i, none⟩ = some (.int .i64 (x : Int)) := by
  rcases h with ⟨_, rfl⟩ | ⟨g, off, cap, cs, rfl, _, hh, h1, h2, h3⟩
  · simp at hx
  · exact ⟨g, off, cap, rfl, lt_of_block hh, by simp [World.cell?, hh, h3 i x hx]⟩

/-- How often each was met, as a map in block M. -/
def MtIn (w : World) (M : Nat) (f : Int → Int) : Prop :=
  ∃ es cl, w.heap[M]? = some (.map es cl) ∧ Keyed' es.toList ∧ ∀ k : Nat, (f k = 0 ∧ fnd es.toList k 0 = some none) ∨ ∃ i, fnd es.toList k 0 = some (some (i, .int .i64 (f k)))
theorem MtIn.lt {w : World} {M : Nat} {f : Int → Int} (h : MtIn w M f) : M < w.heap.size := by
  obtain ⟨es, cl, h1, _⟩ := h
  exact lt_of_block h1
theorem MtIn.keep {w w' : World} {M : Nat} {f : Int → Int} (h : MtIn w M f) (hM : w'.heap[M]? = w.heap[M]?) : MtIn w' M f := by
  obtain ⟨es, cl, h1, h2⟩ := h
  exact ⟨es, cl, hM.trans h1, h2⟩
theorem MtIn.new (w : World) : MtIn (w.alloc (.map #[] 0)) w.heap.size (fun _ => 0) := ⟨#[], 0, heap_alloc_new w _, fun _ h => (by cases h), fun _ => .inl ⟨rfl, rfl⟩⟩
theorem MtIn.obj {w : World} {M : Nat} {f : Int → Int} (h : MtIn w M f) : ∃ o, w.heap[M]? = some o ∧ ∀ cs fr, o ≠ .cells cs 3 fr := by
  obtain ⟨es, cl, h1, h2⟩ := h
  exact ⟨_, h1, fun _ _ e => by cases e⟩
theorem run_met {w : World} {M : Nat} {f : Int → Int} (h : MtIn w M f) (k : Nat) : (Instr.lookup 129 (.map (some M)) (.int .i64 (k : Int)) false).run Tryz.prog w = .ok (.int .i64 (f k)) w := by
  obtain ⟨es, cl, h1, h2, h3⟩ := h
  have hg : (getObj M).run Tryz.prog w = .ok (.map es cl) w := MapKept.run_getObj_map h1
  have hu := run_underlying (w := w) Tryz.underlying129
  have hzv : (zeroValue 3).run Tryz.prog w = .ok (.int .i64 0) w := by kernel_rfl
  rcases h3 k with ⟨h4, h5⟩ | ⟨i, h5⟩
  · have hkk := MapKept.run_findKey (P := Tryz.prog) (w := w) (kt := 3) Tryz.underlying3 h5
    simp [Instr.lookup, hu, hg, run_key, hkk, hzv, h4]
  · have hkk := MapKept.run_findKey (P := Tryz.prog) (w := w) (kt := 3) Tryz.underlying3 h5
    simp [Instr.lookup, hu, hg, run_key, hkk]
/-- Another number there. -/
theorem run_meet {w : World} {M : Nat} {f : Int → Int} (h : MtIn w M f) (k : Nat) (v : Int) :
    ∃ w', (Instr.mapUpdate 129 (.map (some M)) (.int .i64 (k : Int)) (.int .i64 v)).run Tryz.prog w = .ok () w' ∧ MtIn w' M (fun q => if q = (k : Int) then v else f q) ∧ w.grownBy w' (some M) := by
  obtain ⟨es, cl, h1, h2, h3⟩ := h
  have hg : (getObj M).run Tryz.prog w = .ok (.map es cl) w := MapKept.run_getObj_map h1
  have hu := run_underlying (w := w) Tryz.underlying129
  have fin : ∀ es' cl', Keyed' es'.toList → (∀ j : Nat, j ≠ k → fnd es'.toList j 0 = fnd es.toList j 0) → (∃ i, fnd es'.toList k 0 = some (some (i, .int .i64 v))) →
      MtIn { w with heap := w.heap.setIfInBounds M (.map es' cl') } M (fun q => if q = (k : Int) then v else f q) ∧ w.grownBy { w with heap := w.heap.setIfInBounds M (.map es' cl') } (some M) := by
    intro es' cl' hK hF hk
    obtain ⟨m1, m2⟩ := MapKept.heap_set (o' := .map es' cl') h1
    refine ⟨⟨es', cl', m1, hK, fun j => ?_⟩, ⟨rfl, rfl, rfl, by simp, fun b _ hne => m2 b (fun e => hne (by rw [e]))⟩⟩
    by_cases hjk : j = k
    · subst hjk
      simp only [if_true]
      exact .inr hk
    · have e : ¬ (j : Int) = (k : Int) := by omega
      simp only [hF j hjk, if_neg e]
      exact h3 j
  rcases h3 k with ⟨_, hf⟩ | ⟨i, hf⟩
  · have hkk := MapKept.run_findKey (P := Tryz.prog) (w := w) (kt := 3) Tryz.underlying3 hf
    have hset := MapKept.run_setObj_map (P := Tryz.prog) (.map (es.push { key := .int .i64 (k : Int), val := .int .i64 v, born := cl }) (cl + 1)) h1
    refine ⟨_, by simp [Instr.mapUpdate, hu, hg, run_key, hkk, hset]; rfl, fin _ _ (by rw [Array.toList_push]; exact h2.push _ (j := k) rfl) (fun j hj => ?_) ?_⟩
    · rw [Array.toList_push, fnd_push (j := k) rfl _ _ h2]
      cases hx : fnd es.toList j 0 with
      | none => rfl
      | some x =>
        cases x with
        | none => simp [hj]
        | some y => rfl
    · rw [Array.toList_push, fnd_push (j := k) rfl _ _ h2, hf]
      simp
  · have hkk := MapKept.run_findKey (P := Tryz.prog) (w := w) (kt := 3) Tryz.underlying3 hf
    obtain ⟨j0, e0, hj0, he0, hek, hev⟩ := fnd_at es.toList 0 i _ h2 hf
    obtain rfl : i = j0 := by omega
    have hes : es[i]? = some e0 := by simpa using he0
    have hst := MapKept.run_keyThatStays (P := Tryz.prog) (w := w) (d := .int .i64) (k := .int .i64 (k : Int)) (by simp [MapKept.IsKey])
    have hset := MapKept.run_setObj_map (P := Tryz.prog) (.map (es.modify i fun e => { e with key := .int .i64 (k : Int), val := .int .i64 v }) cl) h1
    have hm := fun k' => fnd_modify (k := k) (v := .int .i64 v) es.toList 0 i (.int .i64 (f k)) h2 (by rw [Nat.zero_add]; exact hf) k'
    refine ⟨_, by simp [Instr.mapUpdate, hu, hg, run_key, hkk, hes, hek, hst, hset]; rfl, fin _ _ (by rw [Array.toList_modify]; exact h2.modify i) (fun j hj => ?_) ?_⟩
    · rw [Array.toList_modify, hm j, if_neg hj]
    · rw [Array.toList_modify, hm k, if_pos rfl]
      exact ⟨_, rfl⟩

/-- A module in a block of Comes' own. -/
abbrev maO (m : Vf.Md) (ab au : Option Addr) (cb cu : Nat) : Obj := .cells #[.slice ab m.boxes.length cb, .slice au m.units.length cu] 25 (0, 0)
/-- Whoever is told: what it keeps lies below N, and M alone turns. -/
structure Teller (g : FuncId) (caps : Array Value) (N M : Nat) (I : List Lk → World → Prop) : Prop where
  keep : ∀ ts w w', I ts w → (∀ k, k < N → w'.heap[k]? = w.heap[k]?) → I ts w'
  call : ∀ (ts : List Lk) (op a : Int) (w : World), I ts w → ts.length ≤ 130000 → Calls Tryz.prog g (#[.int .i64 op, .int .i64 a] ++ caps) w fun e w' => e = .returned (.tuple #[]) ∧ I (ts ++ [(op, a)]) w' ∧ w.grownBy w' (some M)
/-- At the head of a loop of Comes. -/
structure ComAt (m : Vf.Md) (ab au : Option Addr) (cb cu n M : Nat) (w : World) (I : List Lk → World → Prop) (i j : Nat) (v : Value) (R : List Nat) (ts : List Lk) (f : Int → Int) (W : World) : Prop where
  wk : Vf.Wkr m n i j R ts f
  row : QR W w.heap.size v R
  met : MtIn W (w.heap.size + 1 + 1) f
  tell : I ts W
  md : W.heap[w.heap.size]? = some (maO m ab au cb cu)
  grown : w.grownBy W (some M)

theorem ma_cells {w : World} {N : Nat} {m : Vf.Md} {ab au : Option Addr} {cb cu : Nat} (h : w.heap[N]? = some (maO m ab au cb cu)) : w.cell? ⟨N, 0, none⟩ = some (.slice ab m.boxes.length cb) ∧ w.cell? ⟨N, 1, none⟩ = some (.slice au m.units.length cu) := by simp [World.cell?, h]
/-- A block more, and what a telling or a meeting leaves. -/
theorem ComAt.step {m : Vf.Md} {ab au : Option Addr} {cb cu n M i j i' j' : Nat} {w W W2 W3 : World} {I : List Lk → World → Prop} {v : Value} {R : List Nat} {ts ts' : List Lk} {f f' : Int → Int} {t : Option Nat} (h : ComAt m ab au cb cu n M w I i j v R ts f W) (h2 : W.grownBy W2 none) (h3 : W2.grownBy W3 t) (ht : t = some M ∨ t = some (w.heap.size + 1 + 1)) (hM : M < w.heap.size)
    (hw : Vf.Wkr m n i' j' R ts' f') (hm : MtIn W3 (w.heap.size + 1 + 1) f') (hI : I ts' W3) : ComAt m ab au cb cu n M w I i' j' v R ts' f' W3 := by
  have hz := h2.size
  have hg2 := grownT0 h.grown h2
  have hgz := hg2.size
  obtain ⟨o, ho, hno⟩ := h.met.obj
  have key : ∀ k, w.heap.size ≤ k → k < W.heap.size → k ≠ w.heap.size + 1 + 1 → W3.heap[k]? = W.heap[k]? := fun k hk hk2 hk3 => (h3.block k (by omega) (by rcases ht with rfl | rfl <;> simp <;> omega)).trans (h2.block k hk2 (by simp))
  refine ⟨hw, h.row.keep fun k hk => key k (h.row.lt k hk).1 (h.row.lt k hk).2 (fun e => h.row.ty ho hno (e ▸ hk)), hm, hI, (key _ (Nat.le_refl _) (lt_of_block h.md) (by omega)).trans h.md, ?_⟩
  rcases ht with rfl | rfl
  · exact grownT hg2 h3 (.inr rfl)
  · exact grownT hg2 h3 (.inl (by omega))
/-- A unit more in the row. -/
theorem ComAt.more {m : Vf.Md} {ab au : Option Addr} {cb cu n M i j i' j' : Nat} {w W W3 W4 : World} {I : List Lk → World → Prop} {g : FuncId} {caps : Array Value} {v v' : Value} {R R' : List Nat} {ts : List Lk} {f f' : Int → Int} (h : ComAt m ab au cb cu n M w I i j v R ts f W) (hT : Teller g caps w.heap.size M I) (h3 : W.grownBy W3 (some (w.heap.size + 1 + 1))) (h4 : W3.grownBy W4 v.ownBlock) (hq3 : QR W3 w.heap.size v R)
    (hw : Vf.Wkr m n i' j' R' ts f') (hm : MtIn W3 (w.heap.size + 1 + 1) f') (hq : QR W4 w.heap.size v' R') : ComAt m ab au cb cu n M w I i' j' v' R' ts f' W4 := by
  have hz := h3.size
  have hgz := h.grown.size
  obtain ⟨o, ho, hno⟩ := hm.obj
  have hb3 : W3.heap[w.heap.size]? = some (maO m ab au cb cu) := (h3.block _ (lt_of_block h.md) (by simp; omega)).trans h.md
  have hn1 := hq3.ty ho hno
  have hn2 := hq3.ty hb3 (fun cs fr e => by cases e)
  refine ⟨hw, hq, hm.keep (h4.block _ hm.lt (fun e => hn1 e.symm)), hT.keep _ _ _ h.tell (fun k hk => (h4.block k (by omega) (fun e => ?_)).trans (h3.block k (by omega) (by simp; omega))), (h4.block _ (lt_of_block hb3) (fun e => hn2 e.symm)).trans hb3, ?_⟩
  · have := (hq3.lt k e.symm).1
    omega
  · exact (grownT h.grown h3 (.inl (by omega))).andThen h4 (fun k e => .inl (hq3.lt k e).1)

end Go.Proofs.YtnfbfdajdflfgaaGreat

