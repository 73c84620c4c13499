/- A flow whole in memory; the walk of note. -/
import Derived.Test.YtlicfdligldhdaaGreatDoorM25
namespace Go.Proofs.YtlicfdligldhdaaGreatDoor
open Go.RowKit

/-- The cells of stacks stay. -/
def KC (w w' : World) : Prop := ∀ (b : Nat) (cs : Array Value), w.heap[b]? = some (Obj.cells cs 177 (0, 0)) → w'.heap[b]? = some (Obj.cells cs 177 (0, 0))
theorem KC.trans {a b c : World} (h : KC a b) (k : KC b c) : KC a c := fun x cs hx => k x cs (h x cs hx)
theorem KC.refl (w : World) : KC w w := fun _ _ h => h
theorem kc_grown {w w' : World} {r : Option Nat} (hg : w.grownBy w' r) (hne : ∀ (b : Nat) (cs : Array Value), w.heap[b]? = some (Obj.cells cs 177 (0, 0)) → r ≠ some b) : KC w w' := fun b cs hb => (hg.block b (lt_of_block hb) (fun e => hne b cs hb e.symm)).trans hb
theorem kc_alloc (w : World) (o : Obj) : KC w (w.alloc o) := fun _ _ hb => (Below.heap_alloc _ _ _ (lt_of_block hb)).trans hb
theorem kc_block {w w' : World} {F : Nat} {o : Obj} (hg : w.grownBy w' (some F)) (ho : w.heap[F]? = some o) (ht : ∀ cs, o ≠ Obj.cells cs 177 (0, 0)) : KC w w' := kc_grown hg fun b cs hb e => by
  simp at e
  subst e
  rw [ho] at hb
  simp at hb
  exact ht _ hb

/-- A flow, whole. -/
structure WF (c : FC) (B F : Nat) (w : World) (k : Vf.Kn) (n : Int) (s : Vf.S) : Prop where
  env : Env c B F w
  mB : B ≤ c.M
  fl : ∃ top rv, FlIn c w F top k.st k.fl n rv ∧ QR w B rv s.row
  come : ComeIn w c.M s.come

theorem fl_row {c : FC} {w : World} {F : Nat} {top : Option Addr} {st : List Int} {f : Vf.Fl} {n : Int} {row row' : Value} (h : w.heap[F]? = some (flO c top st f n row)) :
    (w.setCell ⟨F, 15, none⟩ row').heap[F]? = some (flO c top st f n row') := by
  simp only [World.setCell, Array.getElem?_modify, if_true, h, Option.map_some]
  rfl
theorem ComeIn.ne {c : FC} {w : World} {M F : Nat} {come : Nat → Option Vf.Kn} {top : Option Addr} {st : List Int} {f : Vf.Fl} {n : Int} {row : Value} (h : ComeIn w M come) (hF : w.heap[F]? = some (flO c top st f n row)) : M ≠ F := by
  obtain ⟨es, cl, h1, _⟩ := h
  intro e
  subst e
  rw [h1] at hF
  cases hF
/-- What holds of a flow behind a change of its own block alone. -/
theorem WF.own {c : FC} {B F : Nat} {w w' : World} {k k' : Vf.Kn} {n n' : Int} {s : Vf.S} {top : Option Addr} {rv : Value} (h : WF c B F w k n s) (hg : w.grownBy w' (some F)) (hF : FlIn c w' F top k'.st k'.fl n' rv) (hrv : ∀ top rv', FlIn c w F top k.st k.fl n rv' → rv = rv') : WF c B F w' k' n' s := by
  obtain ⟨env, mB, ⟨top0, rv0, hF0, hq⟩, come⟩ := h
  obtain rfl := hrv _ _ hF0
  have hne := come.ne hF0.blk
  have kc := kc_block hg hF0.blk (fun cs e => by cases e)
  exact ⟨env.grown hg, mB, ⟨top, rv, hF, hq.keep fun j hj => hg.block j (hq.lt j hj).2 (fun e => hq.ty hF0.blk (fun cs fr e2 => by cases e2) (by rw [hj, ← e]))⟩, come.keep (hg.block _ come.lt (by simp; omega)) kc⟩

abbrev knO (k : Vf.Kn) (top : Option Addr) : Obj := .cells #[.pointer top, .int .i64 (k.st.length : Int), bvV k.fl.a, bvV k.fl.b, bvV k.fl.c, bvV k.fl.d] 92 (0, 0)
theorem below_grown {B : Nat} {w w' : World} {r : Option Nat} (h : w.grownBy w' r) (hB : B ≤ w.heap.size) (hr : ∀ k, r = some k → B ≤ k) : Below B w w' := (Below.refl B w).grown h hB hr
theorem ComeIn.drew {w : World} {M : Nat} {come : Nat → Option Vf.Kn} (h : ComeIn w M come) : ComeIn w.drew M come := h.keep rfl (fun _ _ hb => hb)
theorem ComeIn.alloc {w : World} {M : Nat} {come : Nat → Option Vf.Kn} (h : ComeIn w M come) (o : Obj) : ComeIn (w.alloc o) M come := h.keep (Below.heap_alloc _ _ _ h.lt) (kc_alloc _ _)
theorem SkIn.drew {w : World} {a : Option Addr} {st : List Int} (h : SkIn w a st) : SkIn w.drew a st := h.keep fun _ _ hb => hb

/-- Behind the laying down in the map. -/
theorem note_map {c : FC} {B F : Nat} {w w2 : World} {k : Vf.Kn} {n : Int} {s : Vf.S} {top : Option Addr} {rv : Value} {o : Obj} (hF : FlIn c w F top k.st k.fl n rv) (hq : QR w B rv s.row) (hC : ComeIn w c.M s.come) (hg : (w.alloc o).drew.grownBy w2 (some c.M)) : FlIn c w2 F top k.st k.fl n rv ∧ QR w2 B rv s.row ∧ KC w w2 := by
  have hne := hC.ne hF.blk
  have hkc : KC w w2 := KC.trans (kc_alloc w o) (kc_grown (grown_drew hg) fun b cs hb e => by
    simp at e
    subst e
    obtain ⟨es, cl, h1, _⟩ := hC.alloc o
    have h2 : (w.alloc o).heap[c.M]? = some (Obj.cells cs 177 (0, 0)) := hb
    rw [h1] at h2
    cases h2)
  have blk : ∀ j, j < w.heap.size → j ≠ c.M → w2.heap[j]? = w.heap[j]? := fun j hj hjm => (hg.block j (by show j < (w.alloc o).heap.size; simp; omega) (by simp; omega)).trans (Below.heap_alloc _ _ _ hj)
  refine ⟨⟨(blk F (lt_of_block hF.blk) (by omega)).trans hF.blk, hF.sk.keep hkc⟩, hq.keep fun j hj => blk j (hq.lt j hj).2 (fun e => ?_), hkc⟩
  obtain ⟨es, cl, h1, _⟩ := hC
  subst e
  exact hq.ty h1 (fun cs fr e => by cases e) hj

/-- Behind the append to the row. -/
theorem note_end {c : FC} {B F : Nat} {w w2 w4 : World} {k kn : Vf.Kn} {n : Int} {s : Vf.S} {top : Option Addr} {rv v' : Value} {o2 o : Obj} {tz : Nat} (h : WF c B F w k n s) (hF0 : FlIn c w F top k.st k.fl n rv)
    (hF : FlIn c w2 F top k.st k.fl n rv) (hq : QR w2 B rv s.row) (hC : ComeIn w2 c.M (s.note tz kn).come) (hg2 : (w.alloc o2).drew.grownBy w2 (some c.M)) (hg : (w2.alloc o).grownBy w4 rv.ownBlock) (hq4 : QR w4 B v' (s.row ++ [tz])) :
    WF c B F (w4.setCell ⟨F, 15, none⟩ v') k n (s.note tz kn) ∧ Below B w (w4.setCell ⟨F, 15, none⟩ v') := by
  have hlt := lt_of_block hF.blk
  have ho : rv.ownBlock ≠ some F := hq.ty hF.blk (fun cs fr e => by cases e)
  have blk : ∀ j, j < w2.heap.size → rv.ownBlock ≠ some j → w4.heap[j]? = w2.heap[j]? := fun j hj h1 => (hg.block j (by simp; omega) (fun e => h1 e.symm)).trans (Below.heap_alloc _ _ _ hj)
  have kc4 : KC w2 w4 := fun b cs hb => (blk b (lt_of_block hb) (hq.ty hb (fun cs' fr e => by cases e))).trans hb
  have hF4 : w4.heap[F]? = some (flO c top k.st k.fl n rv) := (blk F hlt ho).trans hF.blk
  have kc5 : KC w4 (w4.setCell ⟨F, 15, none⟩ v') := fun b cs hb => (Below.heap_setCell _ ⟨F, 15, none⟩ _ _ (fun e => by
    have e1 : b = F := e
    subst e1
    rw [hF4] at hb
    cases hb)).trans hb
  have hMF := hC.ne hF.blk
  have hM4 : w4.heap[c.M]? = w2.heap[c.M]? := blk c.M hC.lt (by
    obtain ⟨es, cl, h1, _⟩ := hC
    exact hq.ty h1 (fun cs fr e => by cases e))
  have hsz := h.env.lt
  have hB : B ≤ w.heap.size := by have := h.env.base; omega
  have hb2 : Below B w w2 := ((Below.refl B w).alloc hB o2).trans (by have := below_grown hg2 (by show B ≤ (w.alloc o2).heap.size; simp; omega) (fun j e => by cases e; exact h.mB); exact ⟨this.os, this.tape, this.output, this.size, this.block⟩)
  have hb4 : Below B w2 w4 := ((Below.refl B w2).alloc (by have := hb2.size; omega) o).trans (below_grown hg (by have := hb2.size; simp; omega) (fun j e => (hq.lt j e).1))
  have hb5 : Below B w4 (w4.setCell ⟨F, 15, none⟩ v') := (Below.refl B w4).setCell (p := ⟨F, 15, none⟩) h.env.base _
  have hall := (hb2.trans hb4).trans hb5
  refine ⟨⟨⟨h.env.md.low (fun j hj => hall.block j hj), h.env.un.low (fun j hj => hall.block j hj), h.env.base, ?_⟩, h.mB, ⟨top, v', ⟨fl_row hF4, hF.sk.keep (kc4.trans kc5)⟩, hq4.keep fun j hj => Below.heap_setCell _ ⟨F, 15, none⟩ _ _ (fun e => ?_)⟩, hC.keep ((Below.heap_setCell _ ⟨F, 15, none⟩ _ _ (by show c.M ≠ F; omega)).trans hM4) (kc4.trans kc5)⟩, hall⟩
  · have := lt_of_block hF4
    simp [World.setCell]
    omega
  · have e1 : j = F := e
    subst e1
    exact hq4.ty hF4 (fun cs fr e => by cases e) hj

theorem one_news (W : World) (u : Value) (t : TypeId) : ∀ j u', [u][j]? = some u' → (W.alloc (.cells #[u] t)).cell? ((⟨W.heap.size, 0, none⟩ : Addr).add j) = some u'
  | 0, u', h => by simp at h; subst h; simp [Addr.add]
  | j + 1, u', h => by simp at h

set_option maxRecDepth 100000 in
set_option maxHeartbeats 2000000 in
theorem note_any (c : FC) (B F : Nat) (k kn : Vf.Kn) (n : Int) (s : Vf.S) (tz : Nat) (top' : Option Addr) (w : World) (h : Hid (WF c B F w k n s)) (hs : Hid (SkIn w top' kn.st)) (hn : s.row.length ≤ 100000000) :
    Calls Tryz.prog 62 #[.pointer (some ⟨F, 0, none⟩), .int .i64 (tz : Int), knV kn top'] w fun e w' => e = .returned (.tuple #[]) ∧ WF c B F w' k n (s.note tz kn) ∧ Below B w w' := by
  obtain ⟨top, rv, hF, hq⟩ := h.out.fl
  have hlt := h.out.env.lt
  have hB0 := h.out.env.base
  have hC1 : ComeIn (w.alloc (knO kn top')).drew c.M s.come := (h.out.come.alloc _).drew
  obtain ⟨w2, hup, hC2, hg2⟩ := run_note (k := tz) hC1 ((hs.out.keep (kc_alloc w (knO kn top'))).drew)
  obtain ⟨hF2, hq2, hk2⟩ := note_map hF hq h.out.come hg2
  have c16 := (fl_cells4 (hF.alloc (knO kn top')).blk).2.2.1
  obtain ⟨d14, d15, d16, z14, z15⟩ := fl_cells4 hF2.blk
  have hz2 := hg2.size
  have hz2' : w.heap.size + 1 ≤ w2.heap.size := by simpa using hz2
  have ho : rv.ownBlock ≠ some F := hq2.ty hF2.blk (fun cs fr e => by cases e)
  have HO := hide ho
  have HF := hide hF
  have HF2 := hide hF2
  have HQ2 := hide hq2
  have HC2 := hide hC2
  have HG2 := hide hg2
  obtain ⟨ar, cr, hrv⟩ := hq2.form
  subst hrv
  clear hF hq hC1 hF2 hq2 hk2 hC2 hg2 hz2 d14 d16 z14 ho
  go_enter Tryz.func62, Tryz.ntmps62
  go_wp2
  go_region
  all_goals
    go_wp2_with (at_builtin; refine wpList_append_q rfl _ _ rfl B _ s.row tz rfl (HQ2.out.alloc _) ⟨w2.heap.size, 0, none⟩ rfl (one_news _ _ _) hn (by simp; omega) ?_; intro v' w4 hq4 hg4; obtain ⟨a4, c4, hv4⟩ := hq4.form; obtain ⟨L4, hL4⟩ : ∃ L4, L4 = (s.row ++ [tz]).length := ⟨_, rfl⟩; rw [← hL4] at hv4; subst hv4; have HE := hide (note_end (kn := kn) h.out HF.out HF2.out HQ2.out HC2.out HG2.out hg4 hq4); have hb4 : w4.heap[F]? = some (flO c top k.st k.fl n (.slice ar s.row.length cr)) := ((hg4.block F (by simp; omega) (fun e => HO.out e.symm)).trans (Below.heap_alloc _ _ _ (by omega))).trans HF2.out.blk; have b15 := (fl_cells4 hb4).2.1; have y15 := (fl_cells4 hb4).2.2.2.2; clear hq4 hg4 hb4 hL4)
    go_wp2
    go_end0
    exact ⟨rfl, HE.out⟩

end Go.Proofs.YtlicfdligldhdaaGreatDoor

/- The walk of goOn: what it wants besides. -/
namespace Go.Proofs.YtlicfdligldhdaaGreatDoor
open Go.RowKit

theorem Tryz.infou : (Tryz.prog.info? 88).map (fun i => i.size) = some 1 := by kernel_rfl
theorem eq_u64 (d : Nat) (x y : BitVec 64) (w : World) : (Op.equalIn (d + 1) 88 (bvV x) (bvV y)).run Tryz.prog w = .ok (x == y) w := by
  have e : ((x.toNat : Int) == (y.toNat : Int)) = (x == y) := by
    by_cases h : x = y
    · subst h; simp
    · have h0 : x.toNat ≠ y.toNat := fun e => h (BitVec.eq_of_toNat_eq e)
      have h1 : (x == y) = false := by simpa using h
      have h2 : ((x.toNat : Int) == (y.toNat : Int)) = false := by rw [beq_eq_false_iff_ne]; omega
      rw [h1, h2]
  simp [Op.equalIn, run_underlying Tryz.underlying88, e]
theorem fl_neq (f g : Vf.Fl) (w : World) : (Op.equalIn 10000 90 (flV f) (flV g)).run Tryz.prog w = .ok (Vf.Fl.eq f g) w := by
  have hu := run_underlying (P := Tryz.prog) (w := w) Tryz.underlying90
  have h : ∀ d : Nat, (Op.equalIn (d + 2) 90 (flV f) (flV g)).run Tryz.prog w = .ok (Vf.Fl.eq f g) w := fun d => by
    obtain ⟨j, hj, hj2⟩ := Option.map_eq_some_iff.1 Tryz.infou
    have e4 : List.range' 0 4 = [0, 1, 2, 3] := rfl
    have p0 : ∀ (a b c e : BitVec 64) (w : World), (part 88 #[bvV a, bvV b, bvV c, bvV e] 0).run Tryz.prog w = .ok (bvV a) w := fun _ _ _ _ _ => by simp [part, sizeOf, typeInfo, hj, hj2]
    have p1 : ∀ (a b c e : BitVec 64) (w : World), (part 88 #[bvV a, bvV b, bvV c, bvV e] 1).run Tryz.prog w = .ok (bvV b) w := fun _ _ _ _ _ => by simp [part, sizeOf, typeInfo, hj, hj2]
    have p2 : ∀ (a b c e : BitVec 64) (w : World), (part 88 #[bvV a, bvV b, bvV c, bvV e] 2).run Tryz.prog w = .ok (bvV c) w := fun _ _ _ _ _ => by simp [part, sizeOf, typeInfo, hj, hj2]
    have p3 : ∀ (a b c e : BitVec 64) (w : World), (part 88 #[bvV a, bvV b, bvV c, bvV e] 3).run Tryz.prog w = .ok (bvV e) w := fun _ _ _ _ _ => by simp [part, sizeOf, typeInfo, hj, hj2]
    rw [Op.equalIn]
    simp [hu, sizeOf, typeInfo, hj, hj2, e4, p0, p1, p2, p3, eq_u64]
    unfold Vf.Fl.eq
    by_cases ha : f.a = g.a
    · by_cases hb : f.b = g.b
      · by_cases hc : f.c = g.c
        · by_cases hd : f.d = g.d
          · simp [ha, hb, hc, hd]
          · simp [ha, hb, hc, hd]
        · simp [ha, hb, hc]
      · simp [ha, hb]
    · simp [ha]
  exact h 9998

theorem low_grown0 {B : Nat} {w w' : World} (h : w.grownBy w' none) (hB : B ≤ w.heap.size) : Low B w w' := fun k hk => h.block k (by omega) (by simp)
theorem kc_grown0 {w w' : World} (h : w.grownBy w' none) : KC w w' := kc_grown h (fun _ _ _ e => by cases e)
theorem WF.quiet {c : FC} {B F : Nat} {w w' : World} {k : Vf.Kn} {n : Int} {s : Vf.S} (h : WF c B F w k n s) (hg : w.grownBy w' none) : WF c B F w' k n s := by
  obtain ⟨top, rv, hF, hq⟩ := h.fl
  have hB : B ≤ w.heap.size := by have := h.env.base; have := h.env.lt; omega
  exact ⟨⟨h.env.md.low (low_grown0 hg hB), h.env.un.low (low_grown0 hg hB), h.env.base, by have := hg.size; have := h.env.lt; omega⟩, h.mB, ⟨top, rv, ⟨(hg.block F h.env.lt (by simp)).trans hF.blk, hF.sk.keep (kc_grown0 hg)⟩, hq.keep fun j hj => hg.block j (hq.lt j hj).2 (by simp)⟩, h.come.keep (hg.block _ h.come.lt (by simp)) (kc_grown0 hg)⟩
theorem WF.set {c : FC} {B F N : Nat} {w : World} {k : Vf.Kn} {n : Int} {s : Vf.S} {cs : Array Value} {t : TypeId} {fr : Nat × Nat} (h : WF c B F w k n s) (hN : w.heap[N]? = some (.cells cs t fr)) (h1 : t ≠ 177) (h2 : t ≠ 3) (h3 : t ≠ 94) (hB : B ≤ N) (o : Nat) (v : Value) : WF c B F (w.setCell ⟨N, o, none⟩ v) k n s := by
  obtain ⟨top, rv, hF, hq⟩ := h.fl
  have far : ∀ j, j ≠ N → (w.setCell ⟨N, o, none⟩ v).heap[j]? = w.heap[j]? := fun j hj => Below.heap_setCell _ ⟨N, o, none⟩ _ _ hj
  have kc : KC w (w.setCell ⟨N, o, none⟩ v) := fun b cs' hb => (far b (fun e => by subst e; rw [hN] at hb; cases hb; exact h1 rfl)).trans hb
  have hNF : F ≠ N := fun e => by subst e; rw [hF.blk] at hN; cases hN; exact h3 rfl
  have hNM : c.M ≠ N := fun e => by
    obtain ⟨es, cl, hm, _⟩ := h.come
    subst e
    rw [hm] at hN
    cases hN
  have low : Low B w (w.setCell ⟨N, o, none⟩ v) := fun j hj => far j (by omega)
  refine ⟨⟨h.env.md.low low, h.env.un.low low, h.env.base, by have := h.env.lt; simp [World.setCell]; omega⟩, h.mB, ⟨top, rv, ⟨(far F hNF).trans hF.blk, hF.sk.keep kc⟩, hq.keep fun j hj => far j (fun e => ?_)⟩, h.come.keep (far _ hNM) kc⟩
  subst e
  exact hq.ty hN (fun cs fr e => by cases e; exact h2 rfl) hj

/-- What comes of going on. -/
structure GEnd (c : FC) (B F : Nat) (k : Vf.Kn) (n : Int) (r : Except Int Vf.S) (w : World) (e : Ending) (w' : World) : Prop where
  below : Below B w w'
  no : ∀ er, r = .error er → e = .panicked [fltE er n]
  yes : ∀ s, r = .ok s → e = .returned (.tuple #[]) ∧ WF c B F w' k n s
theorem GEnd.bad {c : FC} {B F : Nat} {k : Vf.Kn} {n : Int} {r : Except Int Vf.S} {w w' : World} {er : Int} (hb : Below B w w') (hr : r = .error er) : GEnd c B F k n r w (.panicked [fltE er n]) w' :=
  ⟨hb, fun er' e => (by rw [hr] at e; cases e; rfl), fun s e => (by rw [hr] at e; cases e)⟩
theorem GEnd.good {c : FC} {B F : Nat} {k : Vf.Kn} {n : Int} {r : Except Int Vf.S} {w w' : World} {s : Vf.S} (hb : Below B w w') (hr : r = .ok s) (hF : WF c B F w' k n s) : GEnd c B F k n r w (.returned (.tuple #[])) w' :=
  ⟨hb, fun er' e => (by rw [hr] at e; cases e), fun s e => (by rw [hr] at e; cases e; exact ⟨rfl, hF⟩)⟩
theorem below0 {B : Nat} {w w' : World} (h : w.grownBy w' none) (hB : B ≤ w.heap.size) : Below B w w' := below_grown h hB (fun _ e => by cases e)

theorem kn_cells {w : World} {N : Nat} {k : Vf.Kn} {top : Option Addr} (h : w.heap[N]? = some (knO k top)) : w.cell? ⟨N, 0, none⟩ = some (.pointer top) ∧ w.cell? ⟨N, 1, none⟩ = some (.int .i64 (k.st.length : Int)) ∧ w.cell? ⟨N, 2, none⟩ = some (bvV k.fl.a) ∧ w.cell? ⟨N, 3, none⟩ = some (bvV k.fl.b) ∧ w.cell? ⟨N, 4, none⟩ = some (bvV k.fl.c) ∧ w.cell? ⟨N, 5, none⟩ = some (bvV k.fl.d) := by
  simp [World.cell?, h]
theorem kn_frozen {w : World} {N : Nat} {k : Vf.Kn} {top : Option Addr} (h : w.heap[N]? = some (knO k top)) : w.frozen? ⟨N, 2, none⟩ = false ∧ w.frozen? ⟨N, 3, none⟩ = false ∧ w.frozen? ⟨N, 4, none⟩ = false ∧ w.frozen? ⟨N, 5, none⟩ = false := by
  simp [World.frozen?, h]
theorem kn_set {w : World} {N : Nat} {k : Vf.Kn} {top : Option Addr} (h : w.heap[N]? = some (knO k top)) (f : Vf.Fl) : ((((w.setCell ⟨N, 2, none⟩ (bvV f.a)).setCell ⟨N, 3, none⟩ (bvV f.b)).setCell ⟨N, 4, none⟩ (bvV f.c)).setCell ⟨N, 5, none⟩ (bvV f.d)).heap[N]? = some (knO ⟨k.st, f⟩ top) := by
  simp only [World.setCell, Array.getElem?_modify, if_true, h, Option.map_some]
  rfl
theorem kn_wf {c : FC} {B F N : Nat} {w : World} {k t : Vf.Kn} {n : Int} {s : Vf.S} {top : Option Addr} (h : WF c B F w k n s) (hN : w.heap[N]? = some (knO t top)) (hB : B ≤ N) (f : Vf.Fl) : WF c B F ((((w.setCell ⟨N, 2, none⟩ (bvV f.a)).setCell ⟨N, 3, none⟩ (bvV f.b)).setCell ⟨N, 4, none⟩ (bvV f.c)).setCell ⟨N, 5, none⟩ (bvV f.d)) k n s ∧ Below B w ((((w.setCell ⟨N, 2, none⟩ (bvV f.a)).setCell ⟨N, 3, none⟩ (bvV f.b)).setCell ⟨N, 4, none⟩ (bvV f.c)).setCell ⟨N, 5, none⟩ (bvV f.d)) ∧ KC w ((((w.setCell ⟨N, 2, none⟩ (bvV f.a)).setCell ⟨N, 3, none⟩ (bvV f.b)).setCell ⟨N, 4, none⟩ (bvV f.c)).setCell ⟨N, 5, none⟩ (bvV f.d)) := by
  have step : ∀ {w : World} {cs : Array Value}, w.heap[N]? = some (.cells cs 92 (0, 0)) → ∀ (o : Nat) (v : Value), (w.setCell ⟨N, o, none⟩ v).heap[N]? = some (.cells (cs.setIfInBounds o v) 92 (0, 0)) := fun hw o v => by
    simp only [World.setCell, Array.getElem?_modify, if_true, hw, Option.map_some]
    rfl
  have kc : ∀ {w : World} {cs : Array Value}, w.heap[N]? = some (.cells cs 92 (0, 0)) → ∀ (o : Nat) (v : Value), KC w (w.setCell ⟨N, o, none⟩ v) := fun {w cs} hw o v b cs' hb => (Below.heap_setCell w ⟨N, o, none⟩ v b (fun e => by
    have e1 : b = N := e
    subst e1
    rw [hw] at hb
    cases hb)).trans hb
  have h1 := step hN 2 (bvV f.a)
  have h2 := step h1 3 (bvV f.b)
  have h3 := step h2 4 (bvV f.c)
  refine ⟨(((h.set hN (by decide) (by decide) (by decide) hB _ _).set h1 (by decide) (by decide) (by decide) hB _ _).set h2 (by decide) (by decide) (by decide) hB _ _).set h3 (by decide) (by decide) (by decide) hB _ _, ((((Below.refl B w).setCell (p := ⟨N, 2, none⟩) hB _).setCell (p := ⟨N, 3, none⟩) hB _).setCell (p := ⟨N, 4, none⟩) hB _).setCell (p := ⟨N, 5, none⟩) hB _, ((kc hN _ _).trans (kc h1 _ _)).trans ((kc h2 _ _).trans (kc h3 _ _))⟩

end Go.Proofs.YtlicfdligldhdaaGreatDoor

