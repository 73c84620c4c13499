/- Maps of what is done with boxes and units: how they lie, and what a doing more makes of them. -/
import Derived.Test.YtbkimpimoclobaaM14
import Derived.MapKept
import Derived.Maps.RangeRun
namespace Go.Proofs.Ytbkimpimoclobaa
open Go.RowKit

abbrev Lk : Type := Int × Int
abbrev LL : Type := List (Lk × Int)
namespace Vf
def idx (k : Lk) : LL → Nat
  | [] => 0
  | p :: r => if k = p.1 then 0 else idx k r + 1
/-- How often. -/
def cnt (k : Lk) (l : LL) : Int := ((l[idx k l]?).map (·.2)).getD 0
def ent0 (k : Lk) (l : LL) : LL := if idx k l < l.length then l else l ++ [(k, 0)]
def setv (j : Nat) (v : Int) (l : LL) : LL := l.modify j (fun p => (p.1, v))
/-- Once more. -/
def bump (k : Lk) (l : LL) : LL := setv (idx k l) (cnt k l + 1) (ent0 k l)
theorem idx_le (k : Lk) : ∀ l : LL, idx k l ≤ l.length
  | [] => Nat.le_refl _
  | p :: r => by
    unfold idx
    split
    · exact Nat.zero_le _
    · have := idx_le k r; simp; omega
theorem idx_at {k : Lk} : ∀ {l : LL}, idx k l < l.length → ∃ v, l[idx k l]? = some (k, v)
  | [], h => by simp at h
  | p :: r, h => by
    unfold idx at h ⊢
    split
    · rename_i hk
      exact ⟨p.2, by rw [hk]; rfl⟩
    · rename_i hk
      rw [if_neg hk] at h
      obtain ⟨v, hv⟩ := idx_at (k := k) (l := r) (by simp at h; omega)
      exact ⟨v, by simpa using hv⟩
theorem idx_app {k : Lk} {v : Int} : ∀ {l : LL}, ¬ idx k l < l.length → idx k (l ++ [(k, v)]) = l.length
  | [], _ => by simp [idx]
  | p :: r, h => by
    unfold idx at h
    by_cases hk : k = p.1
    · rw [if_pos hk] at h; simp at h
    · rw [if_neg hk] at h
      have := idx_app (k := k) (v := v) (l := r) (by simp at h; omega)
      show (if k = p.1 then 0 else idx k (r ++ [(k, v)]) + 1) = _
      rw [if_neg hk, this]
      rfl
theorem ent0_idx (k : Lk) (l : LL) : idx k (ent0 k l) = idx k l ∧ idx k l < (ent0 k l).length ∧ (ent0 k l)[idx k l]? = some (k, cnt k l) := by
  unfold ent0
  by_cases h : idx k l < l.length
  · rw [if_pos h]
    obtain ⟨v, hv⟩ := idx_at h
    exact ⟨rfl, h, by unfold cnt; rw [hv]; rfl⟩
  · rw [if_neg h]
    have e : idx k l = l.length := by have := idx_le k l; omega
    refine ⟨(idx_app h).trans e.symm, by simp; omega, ?_⟩
    unfold cnt
    rw [e]
    simp
end Vf

abbrev lkV (k : Lk) : Value := .agg #[.int .i64 k.1, .int .i64 k.2]
def ents : LL → Nat → List MapEntry
  | [], _ => []
  | p :: r, i => { key := lkV p.1, val := .int .i64 p.2, born := i } :: ents r (i + 1)
theorem ents_get : ∀ (l : LL) (i j : Nat), (ents l i)[j]? = (l[j]?).map (fun p => { key := lkV p.1, val := .int .i64 p.2, born := i + j })
  | [], _, _ => by simp [ents]
  | p :: r, i, 0 => by simp [ents]
  | p :: r, i, j + 1 => by
    have := ents_get r (i + 1) j
    simp only [ents, List.getElem?_cons_succ]
    rw [this]
    congr 2
    funext p
    congr 1
    omega
theorem ents_app (k : Lk) (v : Int) : ∀ (l : LL) (i : Nat), ents (l ++ [(k, v)]) i = ents l i ++ [{ key := lkV k, val := .int .i64 v, born := i + l.length }]
  | [], i => rfl
  | p :: r, i => by
    simp only [ents, List.cons_append]
    rw [ents_app k v r (i + 1)]
    congr 4
    simp
    omega
theorem ents_set (v : Int) : ∀ (l : LL) (i j : Nat), (ents l i).modify j (fun e => { e with val := .int .i64 v }) = ents (Vf.setv j v l) i
  | [], i, j => by cases j <;> rfl
  | p :: r, i, 0 => rfl
  | p :: r, i, j + 1 => by
    show _ :: (ents r (i + 1)).modify j _ = _
    rw [ents_set v r (i + 1) j]
    rfl
theorem ents_key {k : Lk} : ∀ (l : LL) (i j : Nat) (v : Int), l[j]? = some (k, v) → (ents l i).modify j (fun e => { e with key := lkV k }) = ents l i
  | [], i, j, v, h => by simp at h
  | p :: r, i, 0, v, h => by simp at h; subst h; rfl
  | p :: r, i, j + 1, v, h => by
    show _ :: (ents r (i + 1)).modify j _ = _
    rw [ents_key r (i + 1) j v (by simpa using h)]
    rfl

/-- A map of links in block M. -/
def LkIn (w : World) (M : Nat) (l : LL) : Prop := w.heap[M]? = some (.map (ents l 0).toArray l.length)

theorem Try.infolink : (Try.prog.info? 3).map (fun i => i.size) = some 1 := by kernel_rfl
theorem eq_int (d : Nat) (x y : Int) (w : World) : (Op.equalIn (d + 1) 3 (.int .i64 x) (.int .i64 y)).run Try.prog w = .ok (x == y) w := by
  simp [Op.equalIn, run_underlying Try.underlying3]
theorem eq_link (k k' : Lk) (w : World) : (Op.equal 69 (lkV k) (lkV k')).run Try.prog w = .ok (decide (k = k')) w := by
  have hu := run_underlying (P := Try.prog) (w := w) Try.underlying69
  obtain ⟨j, hj, hj2⟩ := Option.map_eq_some_iff.1 Try.infolink
  have p0 : ∀ (a b : Value) (w : World), (part 3 #[a, b] 0).run Try.prog w = .ok a w := fun _ _ _ => by simp [part, sizeOf, typeInfo, hj, hj2]
  have p1 : ∀ (a b : Value) (w : World), (part 3 #[a, b] 1).run Try.prog w = .ok b w := fun _ _ _ => by simp [part, sizeOf, typeInfo, hj, hj2]
  have hst : Try.prog.stoodInHeld 69 = false := by kernel_rfl
  have h : ∀ d : Nat, (Op.equalIn (d + 2) 69 (lkV k) (lkV k')).run Try.prog w = .ok (decide (k = k')) w := fun d => by
    rw [Op.equalIn]
    have hp : (Sem.program Sem.pure).run Try.prog w = .ok Try.prog w := rfl
    simp [hu, program, hp, hst, p0, p1, eq_int]
    obtain ⟨a, b⟩ := k
    obtain ⟨a', b'⟩ := k'
    by_cases ha : a = a'
    · by_cases hb : b = b'
      · simp [ha, hb]
      · simp [ha, hb]
    · simp [ha]
  exact h 9998

def fndL (k : Lk) : LL → Nat → Option (Nat × Value)
  | [], _ => none
  | p :: r, i => if k = p.1 then some (i, .int .i64 p.2) else fndL k r (i + 1)
theorem run_asking (k : Lk) (w : World) : ∀ (l : LL) (i : Nat), (Instr.findAsking 69 (lkV k) (ents l i) i).run Try.prog w = .ok (fndL k l i) w
  | [], i => rfl
  | (k', v) :: r, i => by
    have h := eq_link k k' w
    have hr := run_asking k w r (i + 1)
    unfold ents Instr.findAsking fndL
    by_cases hk : k = k'
    · subst hk
      simp [h]
    · simp [h, hk, hr]
theorem fndL_eq (k : Lk) : ∀ (l : LL) (i : Nat), fndL k l i = if Vf.idx k l < l.length then some (i + Vf.idx k l, .int .i64 (Vf.cnt k l)) else none
  | [], i => rfl
  | p :: r, i => by
    unfold fndL
    by_cases hk : k = p.1
    · have e : Vf.idx k (p :: r) = 0 := by unfold Vf.idx; rw [if_pos hk]
      rw [if_pos hk, e, if_pos (by simp)]
      unfold Vf.cnt
      rw [e]
      rfl
    · have e : Vf.idx k (p :: r) = Vf.idx k r + 1 := by rw [Vf.idx, if_neg hk]
      have ec : Vf.cnt k (p :: r) = Vf.cnt k r := by unfold Vf.cnt; rw [e]; rfl
      rw [if_neg hk, fndL_eq k r (i + 1), e, ec]
      by_cases h : Vf.idx k r < r.length
      · rw [if_pos h, if_pos (by simp; omega), show i + 1 + Vf.idx k r = i + (Vf.idx k r + 1) by omega]
      · rw [if_neg h, if_neg (by simp; omega)]
theorem run_find (k : Lk) (l : LL) (w : World) : (Instr.findKey 69 (lkV k) (ents l 0)).run Try.prog w = .ok (fndL k l 0) w := by
  have hu := run_underlying (P := Try.prog) (w := w) Try.underlying69
  have hr := run_asking k w l 0
  cases l with
  | nil => simp [Instr.findKey, hu, ents, Instr.findNow, fndL]
  | cons p r =>
    have hn : ∀ fs, Instr.findNow (.struct fs) (lkV k) (ents (p :: r) 0) 0 = none := fun fs => by
      unfold ents Instr.findNow
      rfl
    simp [Instr.findKey, hu, hn, hr]
theorem run_keyL (k : Lk) (b : Bool) (w : World) : (Instr.checkKey b 10000 69 (lkV k)).run Try.prog w = .ok () w := by
  have hu := run_underlying (P := Try.prog) (w := w) Try.underlying69
  obtain ⟨j, hj, hj2⟩ := Option.map_eq_some_iff.1 Try.infolink
  have p0 : ∀ (a b : Value) (w : World), (part 3 #[a, b] 0).run Try.prog w = .ok a w := fun _ _ _ => by simp [part, sizeOf, typeInfo, hj, hj2]
  have p1 : ∀ (a b : Value) (w : World), (part 3 #[a, b] 1).run Try.prog w = .ok b w := fun _ _ _ => by simp [part, sizeOf, typeInfo, hj, hj2]
  have hk : ∀ (x : Int), (Instr.checkKey b 9999 3 (.int .i64 x)).run Try.prog w = .ok () w := fun x => MapKept.run_checkKey (n := 9998) Try.underlying3 (by simp [MapKept.IsKey]) b
  rw [show (10000 : Nat) = 9999 + 1 from rfl, Instr.checkKey]
  simp [hu, p0, p1, hk]
theorem cnt_out {k : Lk} {l : LL} (h : ¬ Vf.idx k l < l.length) : Vf.cnt k l = 0 := by
  unfold Vf.cnt
  rw [List.getElem?_eq_none (by omega)]
  rfl
theorem run_lookL {w : World} {M : Nat} {l : LL} (h : LkIn w M l) (k : Lk) : (Instr.lookup 66 (.map (some M)) (lkV k) false).run Try.prog w = .ok (.int .i64 (Vf.cnt k l)) w := by
  unfold LkIn at h
  have hg : (getObj M).run Try.prog w = .ok (.map (ents l 0).toArray l.length) w := MapKept.run_getObj_map h
  have hu := run_underlying (P := Try.prog) (w := w) Try.underlying66
  have hf := run_find k l w
  rw [fndL_eq] at hf
  by_cases hi : Vf.idx k l < l.length
  · rw [if_pos hi] at hf
    simp [Instr.lookup, hu, hg, run_keyL, hf]
  · rw [if_neg hi] at hf
    simp [Instr.lookup, hu, hg, run_keyL, hf, cnt_out hi]

theorem lk_set {w : World} {M : Nat} {l : LL} (h : LkIn w M l) (l' : LL) : LkIn { w with heap := w.heap.setIfInBounds M (.map (ents l' 0).toArray l'.length) } M l' ∧ w.grownBy { w with heap := w.heap.setIfInBounds M (.map (ents l' 0).toArray l'.length) } (some M) := by
  obtain ⟨m1, m2⟩ := MapKept.heap_set (o' := .map (ents l' 0).toArray l'.length) h
  exact ⟨m1, rfl, rfl, rfl, by simp, fun k _ hne => m2 k (fun e => hne (by rw [e]))⟩
theorem run_entL {w : World} {M : Nat} {l : LL} (h : LkIn w M l) (k : Lk) : ∃ w1, (Instr.mapEntry 66 (.map (some M)) (lkV k)).run Try.prog w = .ok (.tuple #[.int .i64 (Vf.cnt k l), goInt (Vf.idx k l)]) w1 ∧ LkIn w1 M (Vf.ent0 k l) ∧ w.grownBy w1 (some M) := by
  have h0 := h
  unfold LkIn at h
  have hg : (getObj M).run Try.prog w = .ok (.map (ents l 0).toArray l.length) w := MapKept.run_getObj_map h
  have hu := run_underlying (P := Try.prog) (w := w) Try.underlying66
  have hf := run_find k l w
  rw [fndL_eq] at hf
  by_cases hi : Vf.idx k l < l.length
  · rw [if_pos hi] at hf
    obtain ⟨v, hv⟩ := Vf.idx_at hi
    have hes : (ents l 0)[Vf.idx k l]? = some { key := lkV k, val := .int .i64 v, born := 0 + Vf.idx k l } := by
      rw [ents_get, hv]
      rfl
    have hst : (Instr.keyThatStays (lkV k) (lkV k)).run Try.prog w = .ok (lkV k) w := by
      unfold Instr.keyThatStays
      simp [Instr.sameBits]
    have hmod := ents_key l 0 _ v hv
    have hset := MapKept.run_setObj_map (P := Try.prog) (.map (ents l 0).toArray l.length) h
    have he : Vf.ent0 k l = l := by unfold Vf.ent0; rw [if_pos hi]
    refine ⟨_, ?_, by rw [he]; exact (lk_set h0 l).1, (lk_set h0 l).2⟩
    simp only [Nat.zero_add] at hf hes
    simp [Instr.mapEntry, hu, hg, run_keyL, hf, hes, hst, hmod, hset]
  · rw [if_neg hi] at hf
    have hset := MapKept.run_setObj_map (P := Try.prog) (.map (ents (l ++ [(k, 0)]) 0).toArray (l ++ [(k, 0)]).length) h
    have he : Vf.ent0 k l = l ++ [(k, 0)] := by unfold Vf.ent0; rw [if_neg hi]
    have hpush := ents_app k 0 l 0
    rw [Nat.zero_add] at hpush
    have hlen : (l ++ [(k, 0)]).length = l.length + 1 := by simp
    have hix : Vf.idx k l = l.length := by have := Vf.idx_le k l; omega
    rw [hlen] at hset
    refine ⟨_, ?_, by rw [he]; exact (lk_set h0 (l ++ [(k, 0)])).1, (lk_set h0 (l ++ [(k, 0)])).2⟩
    rw [cnt_out hi, hix, hlen]
    simp [Instr.mapEntry, hu, hg, run_keyL, hf, ← hpush, hset]
theorem find_born : ∀ (l : LL) (i j : Nat), j < l.length → (ents l i).findIdx? (fun e => ((e.born : Int) == ((i + j : Nat) : Int))) = some j
  | [], i, j, h => by simp at h
  | p :: r, i, 0, h => by simp [ents, List.findIdx?_cons]
  | p :: r, i, j + 1, h => by
    have := find_born r (i + 1) j (by simp at h; omega)
    rw [show i + 1 + j = i + (j + 1) by omega] at this
    simp only [ents, List.findIdx?_cons]
    rw [if_neg (by simp; omega), this]
    rfl
theorem run_stoL {w : World} {M : Nat} {l : LL} (h : LkIn w M l) {j : Nat} (hj : j < l.length) (v : Int) : ∃ w1, (Instr.entryStore 66 (.map (some M)) (goInt j) (.int .i64 v)).run Try.prog w = .ok () w1 ∧ LkIn w1 M (Vf.setv j v l) ∧ w.grownBy w1 (some M) := by
  have h0 := h
  unfold LkIn at h
  have hg : (getObj M).run Try.prog w = .ok (.map (ents l 0).toArray l.length) w := MapKept.run_getObj_map h
  have hlen : (Vf.setv j v l).length = l.length := by unfold Vf.setv; simp
  have hset := MapKept.run_setObj_map (P := Try.prog) (.map (ents (Vf.setv j v l) 0).toArray l.length) h
  have hfi := find_born l 0 j hj
  rw [Nat.zero_add] at hfi
  have hmod := ents_set v l 0 j
  have hs := lk_set h0 (Vf.setv j v l)
  rw [hlen] at hs
  refine ⟨_, ?_, hs.1, hs.2⟩
  simp [Instr.entryStore, hg, goInt, asInt, asIntOf, hfi, hmod, hset]

/-- ONCE MORE, in whatever order it is looked and entered. -/
theorem run_bump {w : World} {M : Nat} {l : LL} (h : LkIn w M l) (k : Lk) : ∃ w1 w2, (Instr.mapEntry 66 (.map (some M)) (lkV k)).run Try.prog w = .ok (.tuple #[.int .i64 (Vf.cnt k l), goInt (Vf.idx k l)]) w1 ∧ (Instr.lookup 66 (.map (some M)) (lkV k) false).run Try.prog w1 = .ok (.int .i64 (Vf.cnt k l)) w1 ∧
    (Instr.entryStore 66 (.map (some M)) (.int .i64 ((Vf.idx k l : Nat) : Int)) (.int .i64 (Vf.cnt k l + 1))).run Try.prog w1 = .ok () w2 ∧ LkIn w2 M (Vf.bump k l) ∧ w.grownBy w1 (some M) ∧ w.grownBy w2 (some M) := by
  obtain ⟨w1, h1, h2, h3⟩ := run_entL h k
  obtain ⟨e1, e2, e3⟩ := Vf.ent0_idx k l
  obtain ⟨w2, h4, h5, h6⟩ := run_stoL h2 e2 (Vf.cnt k l + 1)
  have hl := run_lookL h2 k
  have ec : Vf.cnt k (Vf.ent0 k l) = Vf.cnt k l := by
    conv => lhs; unfold Vf.cnt
    rw [e1, e3]
    rfl
  rw [ec] at hl
  exact ⟨w1, w2, h1, hl, h4, h5, h3, ⟨h6.os.trans h3.os, h6.tape.trans h3.tape, h6.output.trans h3.output, Nat.le_trans h3.size h6.size, fun j hj hne => (h6.block j (by have := h3.size; omega) hne).trans (h3.block j hj hne)⟩⟩

end Go.Proofs.Ytbkimpimoclobaa

