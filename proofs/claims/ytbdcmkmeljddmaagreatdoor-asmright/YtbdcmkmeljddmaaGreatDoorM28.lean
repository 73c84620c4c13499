/- The map of how often units are met; whoever is told. -/
import Derived.Test.YtbdcmkmeljddmaaGreatDoorM26
import Derived.Test.YtbdcmkmeljddmaaGreatDoorM27
namespace Go.Proofs.YtbdcmkmeljddmaaGreatDoor
open Go.RowKit

theorem grownM_of0 {a b : World} {M : Nat} (h : a.grownBy b none) : a.grownBy b (some M) := ⟨h.os, h.tape, h.output, h.size, fun k hk _ => h.block k hk (by simp)⟩
theorem lowM {B M : Nat} {w w' : World} (h : w.grownBy w' (some M)) (hM : B ≤ M) (hB : B ≤ w.heap.size) : Low B w w' := fun k hk => h.block k (by omega) (by simp; omega)
theorem grownT {a b c : World} {T N : Nat} (h : a.grownBy b (some T)) (k : b.grownBy c (some N)) (hN : a.heap.size ≤ N ∨ N = T) : a.grownBy c (some T) := h.andThen k (fun j e => by cases e; rcases hN with h | h; exact .inl h; exact .inr (by rw [h]))
theorem grownT0 {a b c : World} {T : Nat} (h : a.grownBy b (some T)) (k : b.grownBy c none) : a.grownBy c (some T) := h.andThen k (fun j e => by cases e)

theorem LkIn.keep {w w' : World} {M : Nat} {l : LL} (h : LkIn w M l) (hk : w'.heap[M]? = w.heap[M]?) : LkIn w' M l := hk.trans h
theorem LkIn.alloc {w : World} {M : Nat} {l : LL} (h : LkIn w M l) (o : Obj) : LkIn (w.alloc o) M l := h.keep (Below.heap_alloc _ _ _ (lt_of_block h))
theorem LkIn.lt {w : World} {M : Nat} {l : LL} (h : LkIn w M l) : M < w.heap.size := lt_of_block h
abbrev lkB (k : Lk) : Obj := .cells #[.int .i64 k.1, .int .i64 k.2] 98 (0, 0)
theorem lk_cell {w : World} {N : Nat} {k : Lk} (h : w.heap[N]? = some (lkB k)) : w.cell? ⟨N, 0, none⟩ = some (.int .i64 k.1) ∧ w.cell? ⟨N, 1, none⟩ = some (.int .i64 k.2) := by simp [World.cell?, h]

theorem QR.at {w : World} {B i x : Nat} {v : Value} {ws : List Nat} (h : QR w B v ws) (hx : ws[i]? = some x) : ∃ g off cap, v = .slice (some ⟨g, off, none⟩) ws.length cap ∧ g < w.heap.size ∧ w.cell? ⟨g, off + i, none⟩ = some (.int .i64 (x : Int)) := by
  rcases h with ⟨_, rfl⟩ | ⟨g, off, cap, cs, rfl, _, hh, h1, h2, h3⟩
  · simp at hx
  · exact ⟨g, off, cap, rfl, lt_of_block hh, by simp [World.cell?, hh, h3 i x hx]⟩

/-- How often each was met, as a map in block M. -/
def MtIn (w : World) (M : Nat) (f : Int → Int) : Prop :=
  ∃ es cl, w.heap[M]? = some (.map es cl) ∧ Keyed' es.toList ∧ ∀ k : Nat, (f k = 0 ∧ fnd es.toList k 0 = some none) ∨ ∃ i, fnd es.toList k 0 = some (some (i, .int .i64 (f k)))
theorem MtIn.lt {w : World} {M : Nat} {f : Int → Int} (h : MtIn w M f) : M < w.heap.size := by
  obtain ⟨es, cl, h1, _⟩ := h
  exact lt_of_block h1
theorem MtIn.keep {w w' : World} {M : Nat} {f : Int → Int} (h : MtIn w M f) (hM : w'.heap[M]? = w.heap[M]?) : MtIn w' M f := by
  obtain ⟨es, cl, h1, h2⟩ := h
  exact ⟨es, cl, hM.trans h1, h2⟩
theorem MtIn.new (w : World) : MtIn (w.alloc (.map #[] 0)) w.heap.size (fun _ => 0) := ⟨#[], 0, heap_alloc_new w _, fun _ h => (by cases h), fun _ => .inl ⟨rfl, rfl⟩⟩
theorem MtIn.obj {w : World} {M : Nat} {f : Int → Int} (h : MtIn w M f) : ∃ o, w.heap[M]? = some o ∧ ∀ cs fr, o ≠ .cells cs 3 fr := by
  obtain ⟨es, cl, h1, h2⟩ := h
  exact ⟨_, h1, fun _ _ e => by cases e⟩
theorem run_met {w : World} {M : Nat} {f : Int → Int} (h : MtIn w M f) (k : Nat) : (Instr.lookup 122 (.map (some M)) (.int .i64 (k : Int)) false).run Tryz.prog w = .ok (.int .i64 (f k)) w := by
  obtain ⟨es, cl, h1, h2, h3⟩ := h
  have hg : (getObj M).run Tryz.prog w = .ok (.map es cl) w := MapKept.run_getObj_map h1
  have hu := run_underlying (w := w) Tryz.underlying122
  have hzv : (zeroValue 3).run Tryz.prog w = .ok (.int .i64 0) w := by kernel_rfl
  rcases h3 k with ⟨h4, h5⟩ | ⟨i, h5⟩
  · have hkk := MapKept.run_findKey (P := Tryz.prog) (w := w) (kt := 3) Tryz.underlying3 h5
    simp [Instr.lookup, hu, hg, run_key, hkk, hzv, h4]
  · have hkk := MapKept.run_findKey (P := Tryz.prog) (w := w) (kt := 3) Tryz.underlying3 h5
    simp [Instr.lookup, hu, hg, run_key, hkk]
/-- Another number there. -/
theorem run_meet {w : World} {M : Nat} {f : Int → Int} (h : MtIn w M f) (k : Nat) (v : Int) :
    ∃ w', (Instr.mapUpdate 122 (.map (some M)) (.int .i64 (k : Int)) (.int .i64 v)).run Tryz.prog w = .ok () w' ∧ MtIn w' M (fun q => if q = (k : Int) then v else f q) ∧ w.grownBy w' (some M) := by
  obtain ⟨es, cl, h1, h2, h3⟩ := h
  have hg : (getObj M).run Tryz.prog w = .ok (.map es cl) w := MapKept.run_getObj_map h1
  have hu := run_underlying (w := w) Tryz.underlying122
  have fin : ∀ es' cl', Keyed' es'.toList → (∀ j : Nat, j ≠ k → fnd es'.toList j 0 = fnd es.toList j 0) → (∃ i, fnd es'.toList k 0 = some (some (i, .int .i64 v))) →
      MtIn { w with heap := w.heap.setIfInBounds M (.map es' cl') } M (fun q => if q = (k : Int) then v else f q) ∧ w.grownBy { w with heap := w.heap.setIfInBounds M (.map es' cl') } (some M) := by
    intro es' cl' hK hF hk
    obtain ⟨m1, m2⟩ := MapKept.heap_set (o' := .map es' cl') h1
    refine ⟨⟨es', cl', m1, hK, fun j => ?_⟩, ⟨rfl, rfl, rfl, by simp, fun b _ hne => m2 b (fun e => hne (by rw [e]))⟩⟩
    by_cases hjk : j = k
    · subst hjk
      simp only [if_true]
      exact .inr hk
    · have e : ¬ (j : Int) = (k : Int) := by omega
      simp only [hF j hjk, if_neg e]
      exact h3 j
  rcases h3 k with ⟨_, hf⟩ | ⟨i, hf⟩
  · have hkk := MapKept.run_findKey (P := Tryz.prog) (w := w) (kt := 3) Tryz.underlying3 hf
    have hset := MapKept.run_setObj_map (P := Tryz.prog) (.map (es.push { key := .int .i64 (k : Int), val := .int .i64 v, born := cl }) (cl + 1)) h1
    refine ⟨_, by simp [Instr.mapUpdate, hu, hg, run_key, hkk, hset]; rfl, fin _ _ (by rw [Array.toList_push]; exact h2.push _ (j := k) rfl) (fun j hj => ?_) ?_⟩
    · rw [Array.toList_push, fnd_push (j := k) rfl _ _ h2]
      cases hx : fnd es.toList j 0 with
      | none => rfl
      | some x =>
        cases x with
        | none => simp [hj]
        | some y => rfl
    · rw [Array.toList_push, fnd_push (j := k) rfl _ _ h2, hf]
      simp
  · have hkk := MapKept.run_findKey (P := Tryz.prog) (w := w) (kt := 3) Tryz.underlying3 hf
    obtain ⟨j0, e0, hj0, he0, hek, hev⟩ := fnd_at es.toList 0 i _ h2 hf
    obtain rfl : i = j0 := by omega
    have hes : es[i]? = some e0 := by simpa using he0
    have hst := MapKept.run_keyThatStays (P := Tryz.prog) (w := w) (d := .int .i64) (k := .int .i64 (k : Int)) (by simp [MapKept.IsKey])
    have hset := MapKept.run_setObj_map (P := Tryz.prog) (.map (es.modify i fun e => { e with key := .int .i64 (k : Int), val := .int .i64 v }) cl) h1
    have hm := fun k' => fnd_modify (k := k) (v := .int .i64 v) es.toList 0 i (.int .i64 (f k)) h2 (by rw [Nat.zero_add]; exact hf) k'
    refine ⟨_, by simp [Instr.mapUpdate, hu, hg, run_key, hkk, hes, hek, hst, hset]; rfl, fin _ _ (by rw [Array.toList_modify]; exact h2.modify i) (fun j hj => ?_) ?_⟩
    · rw [Array.toList_modify, hm j, if_neg hj]
    · rw [Array.toList_modify, hm k, if_pos rfl]
      exact ⟨_, rfl⟩

/-- A module in a block of Comes' own. -/
abbrev maO (m : Vf.Md) (ab au : Option Addr) (cb cu : Nat) : Obj := .cells #[.slice ab m.boxes.length cb, .slice au m.units.length cu] 25 (0, 0)
/-- Whoever is told: what it keeps lies below N, and M alone turns. -/
structure Teller (g : FuncId) (caps : Array Value) (N M : Nat) (I : List Lk → World → Prop) : Prop where
  keep : ∀ ts w w', I ts w → (∀ k, k < N → w'.heap[k]? = w.heap[k]?) → I ts w'
  call : ∀ (ts : List Lk) (op a : Int) (w : World), I ts w → ts.length ≤ 130000 → Calls Tryz.prog g (#[.int .i64 op, .int .i64 a] ++ caps) w fun e w' => e = .returned (.tuple #[]) ∧ I (ts ++ [(op, a)]) w' ∧ w.grownBy w' (some M)
/-- At the head of a loop of Comes. -/
structure ComAt (m : Vf.Md) (ab au : Option Addr) (cb cu n M : Nat) (w : World) (I : List Lk → World → Prop) (i j : Nat) (v : Value) (R : List Nat) (ts : List Lk) (f : Int → Int) (W : World) : Prop where
  wk : Vf.Wkr m n i j R ts f
  row : QR W w.heap.size v R
  met : MtIn W (w.heap.size + 1 + 1) f
  tell : I ts W
  md : W.heap[w.heap.size]? = some (maO m ab au cb cu)
  grown : w.grownBy W (some M)

theorem ma_cells {w : World} {N : Nat} {m : Vf.Md} {ab au : Option Addr} {cb cu : Nat} (h : w.heap[N]? = some (maO m ab au cb cu)) : w.cell? ⟨N, 0, none⟩ = some (.slice ab m.boxes.length cb) ∧ w.cell? ⟨N, 1, none⟩ = some (.slice au m.units.length cu) := by simp [World.cell?, h]
/-- A block more, and what a telling or a meeting leaves. -/
theorem ComAt.step {m : Vf.Md} {ab au : Option Addr} {cb cu n M i j i' j' : Nat} {w W W2 W3 : World} {I : List Lk → World → Prop} {v : Value} {R : List Nat} {ts ts' : List Lk} {f f' : Int → Int} {t : Option Nat} (h : ComAt m ab au cb cu n M w I i j v R ts f W) (h2 : W.grownBy W2 none) (h3 : W2.grownBy W3 t) (ht : t = some M ∨ t = some (w.heap.size + 1 + 1)) (hM : M < w.heap.size)
    (hw : Vf.Wkr m n i' j' R ts' f') (hm : MtIn W3 (w.heap.size + 1 + 1) f') (hI : I ts' W3) : ComAt m ab au cb cu n M w I i' j' v R ts' f' W3 := by
  have hz := h2.size
  have hg2 := grownT0 h.grown h2
  have hgz := hg2.size
  obtain ⟨o, ho, hno⟩ := h.met.obj
  have key : ∀ k, w.heap.size ≤ k → k < W.heap.size → k ≠ w.heap.size + 1 + 1 → W3.heap[k]? = W.heap[k]? := fun k hk hk2 hk3 => (h3.block k (by omega) (by rcases ht with rfl | rfl <;> simp <;> omega)).trans (h2.block k hk2 (by simp))
  refine ⟨hw, h.row.keep fun k hk => key k (h.row.lt k hk).1 (h.row.lt k hk).2 (fun e => h.row.ty ho hno (e ▸ hk)), hm, hI, (key _ (Nat.le_refl _) (lt_of_block h.md) (by omega)).trans h.md, ?_⟩
  rcases ht with rfl | rfl
  · exact grownT hg2 h3 (.inr rfl)
  · exact grownT hg2 h3 (.inl (by omega))
/-- A unit more in the row. -/
theorem ComAt.more {m : Vf.Md} {ab au : Option Addr} {cb cu n M i j i' j' : Nat} {w W W3 W4 : World} {I : List Lk → World → Prop} {g : FuncId} {caps : Array Value} {v v' : Value} {R R' : List Nat} {ts : List Lk} {f f' : Int → Int} (h : ComAt m ab au cb cu n M w I i j v R ts f W) (hT : Teller g caps w.heap.size M I) (h3 : W.grownBy W3 (some (w.heap.size + 1 + 1))) (h4 : W3.grownBy W4 v.ownBlock) (hq3 : QR W3 w.heap.size v R)
    (hw : Vf.Wkr m n i' j' R' ts f') (hm : MtIn W3 (w.heap.size + 1 + 1) f') (hq : QR W4 w.heap.size v' R') : ComAt m ab au cb cu n M w I i' j' v' R' ts f' W4 := by
  have hz := h3.size
  have hgz := h.grown.size
  obtain ⟨o, ho, hno⟩ := hm.obj
  have hb3 : W3.heap[w.heap.size]? = some (maO m ab au cb cu) := (h3.block _ (lt_of_block h.md) (by simp; omega)).trans h.md
  have hn1 := hq3.ty ho hno
  have hn2 := hq3.ty hb3 (fun cs fr e => by cases e)
  refine ⟨hw, hq, hm.keep (h4.block _ hm.lt (fun e => hn1 e.symm)), hT.keep _ _ _ h.tell (fun k hk => (h4.block k (by omega) (fun e => ?_)).trans (h3.block k (by omega) (by simp; omega))), (h4.block _ (lt_of_block hb3) (fun e => hn2 e.symm)).trans hb3, ?_⟩
  · have := (hq3.lt k e.symm).1
    omega
  · exact (grownT h.grown h3 (.inl (by omega))).andThen h4 (fun k e => .inl (hq3.lt k e).1)

end Go.Proofs.YtbdcmkmeljddmaaGreatDoor

/- The walk of goOn: what it wants besides. -/
namespace Go.Proofs.YtbdcmkmeljddmaaGreatDoor
open Go.RowKit

theorem Tryz.infou : (Tryz.prog.info? 88).map (fun i => i.size) = some 1 := by kernel_rfl
theorem eq_u64 (d : Nat) (x y : BitVec 64) (w : World) : (Op.equalIn (d + 1) 88 (bvV x) (bvV y)).run Tryz.prog w = .ok (x == y) w := by
  have e : ((x.toNat : Int) == (y.toNat : Int)) = (x == y) := by
    by_cases h : x = y
    · subst h; simp
    · have h0 : x.toNat ≠ y.toNat := fun e => h (BitVec.eq_of_toNat_eq e)
      have h1 : (x == y) = false := by simpa using h
      have h2 : ((x.toNat : Int) == (y.toNat : Int)) = false := by rw [beq_eq_false_iff_ne]; omega
      rw [h1, h2]
  simp [Op.equalIn, run_underlying Tryz.underlying88, e]
theorem fl_neq (f g : Vf.Fl) (w : World) : (Op.equalIn 10000 90 (flV f) (flV g)).run Tryz.prog w = .ok (Vf.Fl.eq f g) w := by
  have hu := run_underlying (P := Tryz.prog) (w := w) Tryz.underlying90
  have h : ∀ d : Nat, (Op.equalIn (d + 2) 90 (flV f) (flV g)).run Tryz.prog w = .ok (Vf.Fl.eq f g) w := fun d => by
    obtain ⟨j, hj, hj2⟩ := Option.map_eq_some_iff.1 Tryz.infou
    have e4 : List.range' 0 4 = [0, 1, 2, 3] := rfl
    have p0 : ∀ (a b c e : BitVec 64) (w : World), (part 88 #[bvV a, bvV b, bvV c, bvV e] 0).run Tryz.prog w = .ok (bvV a) w := fun _ _ _ _ _ => by simp [part, sizeOf, typeInfo, hj, hj2]
    have p1 : ∀ (a b c e : BitVec 64) (w : World), (part 88 #[bvV a, bvV b, bvV c, bvV e] 1).run Tryz.prog w = .ok (bvV b) w := fun _ _ _ _ _ => by simp [part, sizeOf, typeInfo, hj, hj2]
    have p2 : ∀ (a b c e : BitVec 64) (w : World), (part 88 #[bvV a, bvV b, bvV c, bvV e] 2).run Tryz.prog w = .ok (bvV c) w := fun _ _ _ _ _ => by simp [part, sizeOf, typeInfo, hj, hj2]
    have p3 : ∀ (a b c e : BitVec 64) (w : World), (part 88 #[bvV a, bvV b, bvV c, bvV e] 3).run Tryz.prog w = .ok (bvV e) w := fun _ _ _ _ _ => by simp [part, sizeOf, typeInfo, hj, hj2]
    rw [Op.equalIn]
    simp [hu, sizeOf, typeInfo, hj, hj2, e4, p0, p1, p2, p3, eq_u64]
    unfold Vf.Fl.eq
    by_cases ha : f.a = g.a
    · by_cases hb : f.b = g.b
      · by_cases hc : f.c = g.c
        · by_cases hd : f.d = g.d
          · simp [ha, hb, hc, hd]
          · simp [ha, hb, hc, hd]
        · simp [ha, hb, hc]
      · simp [ha, hb]
    · simp [ha]
  exact h 9998

theorem low_grown0 {B : Nat} {w w' : World} (h : w.grownBy w' none) (hB : B ≤ w.heap.size) : Low B w w' := fun k hk => h.block k (by omega) (by simp)
theorem kc_grown0 {w w' : World} (h : w.grownBy w' none) : KC w w' := kc_grown h (fun _ _ _ e => by cases e)
theorem WF.quiet {c : FC} {B F : Nat} {w w' : World} {k : Vf.Kn} {n : Int} {s : Vf.S} (h : WF c B F w k n s) (hg : w.grownBy w' none) : WF c B F w' k n s := by
  obtain ⟨top, rv, hF, hq⟩ := h.fl
  have hB : B ≤ w.heap.size := by have := h.env.base; have := h.env.lt; omega
  exact ⟨⟨h.env.md.low (low_grown0 hg hB), h.env.un.low (low_grown0 hg hB), h.env.base, by have := hg.size; have := h.env.lt; omega⟩, h.mB, ⟨top, rv, ⟨(hg.block F h.env.lt (by simp)).trans hF.blk, hF.sk.keep (kc_grown0 hg)⟩, hq.keep fun j hj => hg.block j (hq.lt j hj).2 (by simp)⟩, h.come.keep (hg.block _ h.come.lt (by simp)) (kc_grown0 hg)⟩
theorem WF.set {c : FC} {B F N : Nat} {w : World} {k : Vf.Kn} {n : Int} {s : Vf.S} {cs : Array Value} {t : TypeId} {fr : Nat × Nat} (h : WF c B F w k n s) (hN : w.heap[N]? = some (.cells cs t fr)) (h1 : t ≠ 179) (h2 : t ≠ 3) (h3 : t ≠ 94) (hB : B ≤ N) (o : Nat) (v : Value) : WF c B F (w.setCell ⟨N, o, none⟩ v) k n s := by
  obtain ⟨top, rv, hF, hq⟩ := h.fl
  have far : ∀ j, j ≠ N → (w.setCell ⟨N, o, none⟩ v).heap[j]? = w.heap[j]? := fun j hj => Below.heap_setCell _ ⟨N, o, none⟩ _ _ hj
  have kc : KC w (w.setCell ⟨N, o, none⟩ v) := fun b cs' hb => (far b (fun e => by subst e; rw [hN] at hb; cases hb; exact h1 rfl)).trans hb
  have hNF : F ≠ N := fun e => by subst e; rw [hF.blk] at hN; cases hN; exact h3 rfl
  have hNM : c.M ≠ N := fun e => by
    obtain ⟨es, cl, hm, _⟩ := h.come
    subst e
    rw [hm] at hN
    cases hN
  have low : Low B w (w.setCell ⟨N, o, none⟩ v) := fun j hj => far j (by omega)
  refine ⟨⟨h.env.md.low low, h.env.un.low low, h.env.base, by have := h.env.lt; simp [World.setCell]; omega⟩, h.mB, ⟨top, rv, ⟨(far F hNF).trans hF.blk, hF.sk.keep kc⟩, hq.keep fun j hj => far j (fun e => ?_)⟩, h.come.keep (far _ hNM) kc⟩
  subst e
  exact hq.ty hN (fun cs fr e => by cases e; exact h2 rfl) hj

/-- What comes of going on. -/
structure GEnd (c : FC) (B F : Nat) (k : Vf.Kn) (n : Int) (r : Except Int Vf.S) (w : World) (e : Ending) (w' : World) : Prop where
  below : Below B w w'
  no : ∀ er, r = .error er → e = .panicked [fltE er n]
  yes : ∀ s, r = .ok s → e = .returned (.tuple #[]) ∧ WF c B F w' k n s
theorem GEnd.bad {c : FC} {B F : Nat} {k : Vf.Kn} {n : Int} {r : Except Int Vf.S} {w w' : World} {er : Int} (hb : Below B w w') (hr : r = .error er) : GEnd c B F k n r w (.panicked [fltE er n]) w' :=
  ⟨hb, fun er' e => (by rw [hr] at e; cases e; rfl), fun s e => (by rw [hr] at e; cases e)⟩
theorem GEnd.good {c : FC} {B F : Nat} {k : Vf.Kn} {n : Int} {r : Except Int Vf.S} {w w' : World} {s : Vf.S} (hb : Below B w w') (hr : r = .ok s) (hF : WF c B F w' k n s) : GEnd c B F k n r w (.returned (.tuple #[])) w' :=
  ⟨hb, fun er' e => (by rw [hr] at e; cases e), fun s e => (by rw [hr] at e; cases e; exact ⟨rfl, hF⟩)⟩
theorem below0 {B : Nat} {w w' : World} (h : w.grownBy w' none) (hB : B ≤ w.heap.size) : Below B w w' := below_grown h hB (fun _ e => by cases e)

theorem kn_cells {w : World} {N : Nat} {k : Vf.Kn} {top : Option Addr} (h : w.heap[N]? = some (knO k top)) : w.cell? ⟨N, 0, none⟩ = some (.pointer top) ∧ w.cell? ⟨N, 1, none⟩ = some (.int .i64 (k.st.length : Int)) ∧ w.cell? ⟨N, 2, none⟩ = some (bvV k.fl.a) ∧ w.cell? ⟨N, 3, none⟩ = some (bvV k.fl.b) ∧ w.cell? ⟨N, 4, none⟩ = some (bvV k.fl.c) ∧ w.cell? ⟨N, 5, none⟩ = some (bvV k.fl.d) := by
  simp [World.cell?, h]
theorem kn_frozen {w : World} {N : Nat} {k : Vf.Kn} {top : Option Addr} (h : w.heap[N]? = some (knO k top)) : w.frozen? ⟨N, 2, none⟩ = false ∧ w.frozen? ⟨N, 3, none⟩ = false ∧ w.frozen? ⟨N, 4, none⟩ = false ∧ w.frozen? ⟨N, 5, none⟩ = false := by
  simp [World.frozen?, h]
theorem kn_set {w : World} {N : Nat} {k : Vf.Kn} {top : Option Addr} (h : w.heap[N]? = some (knO k top)) (f : Vf.Fl) : ((((w.setCell ⟨N, 2, none⟩ (bvV f.a)).setCell ⟨N, 3, none⟩ (bvV f.b)).setCell ⟨N, 4, none⟩ (bvV f.c)).setCell ⟨N, 5, none⟩ (bvV f.d)).heap[N]? = some (knO ⟨k.st, f⟩ top) := by
  simp only [World.setCell, Array.getElem?_modify, if_true, h, Option.map_some]
  rfl
theorem kn_wf {c : FC} {B F N : Nat} {w : World} {k t : Vf.Kn} {n : Int} {s : Vf.S} {top : Option Addr} (h : WF c B F w k n s) (hN : w.heap[N]? = some (knO t top)) (hB : B ≤ N) (f : Vf.Fl) : WF c B F ((((w.setCell ⟨N, 2, none⟩ (bvV f.a)).setCell ⟨N, 3, none⟩ (bvV f.b)).setCell ⟨N, 4, none⟩ (bvV f.c)).setCell ⟨N, 5, none⟩ (bvV f.d)) k n s ∧ Below B w ((((w.setCell ⟨N, 2, none⟩ (bvV f.a)).setCell ⟨N, 3, none⟩ (bvV f.b)).setCell ⟨N, 4, none⟩ (bvV f.c)).setCell ⟨N, 5, none⟩ (bvV f.d)) ∧ KC w ((((w.setCell ⟨N, 2, none⟩ (bvV f.a)).setCell ⟨N, 3, none⟩ (bvV f.b)).setCell ⟨N, 4, none⟩ (bvV f.c)).setCell ⟨N, 5, none⟩ (bvV f.d)) := by
  have step : ∀ {w : World} {cs : Array Value}, w.heap[N]? = some (.cells cs 92 (0, 0)) → ∀ (o : Nat) (v : Value), (w.setCell ⟨N, o, none⟩ v).heap[N]? = some (.cells (cs.setIfInBounds o v) 92 (0, 0)) := fun hw o v => by
    simp only [World.setCell, Array.getElem?_modify, if_true, hw, Option.map_some]
    rfl
  have kc : ∀ {w : World} {cs : Array Value}, w.heap[N]? = some (.cells cs 92 (0, 0)) → ∀ (o : Nat) (v : Value), KC w (w.setCell ⟨N, o, none⟩ v) := fun {w cs} hw o v b cs' hb => (Below.heap_setCell w ⟨N, o, none⟩ v b (fun e => by
    have e1 : b = N := e
    subst e1
    rw [hw] at hb
    cases hb)).trans hb
  have h1 := step hN 2 (bvV f.a)
  have h2 := step h1 3 (bvV f.b)
  have h3 := step h2 4 (bvV f.c)
  refine ⟨(((h.set hN (by decide) (by decide) (by decide) hB _ _).set h1 (by decide) (by decide) (by decide) hB _ _).set h2 (by decide) (by decide) (by decide) hB _ _).set h3 (by decide) (by decide) (by decide) hB _ _, ((((Below.refl B w).setCell (p := ⟨N, 2, none⟩) hB _).setCell (p := ⟨N, 3, none⟩) hB _).setCell (p := ⟨N, 4, none⟩) hB _).setCell (p := ⟨N, 5, none⟩) hB _, ((kc hN _ _).trans (kc h1 _ _)).trans ((kc h2 _ _).trans (kc h3 _ _))⟩

end Go.Proofs.YtbdcmkmeljddmaaGreatDoor

