/- Maps of what is done with boxes and units: how they lie, and what a doing more makes of them. -/
import Derived.Test.YtlicfdligldhdaaGreatDoorM22
import Derived.MapKept
import Derived.Maps.RangeRun
import Derived.Test.YtlicfdligldhdaaGreatDoorM19
namespace Go.Proofs.YtlicfdligldhdaaGreatDoor
open Go.RowKit

abbrev Lk : Type := Int × Int
abbrev LL : Type := List (Lk × Int)
namespace Vf
def idx (k : Lk) : LL → Nat
  | [] => 0
  | p :: r => if k = p.1 then 0 else idx k r + 1
/-- How often. -/
def cnt (k : Lk) (l : LL) : Int := ((l[idx k l]?).map (·.2)).getD 0
def ent0 (k : Lk) (l : LL) : LL := if idx k l < l.length then l else l ++ [(k, 0)]
def setv (j : Nat) (v : Int) (l : LL) : LL := l.modify j (fun p => (p.1, v))
/-- Once more. -/
def bump (k : Lk) (l : LL) : LL := setv (idx k l) (cnt k l + 1) (ent0 k l)
theorem idx_le (k : Lk) : ∀ l : LL, idx k l ≤ l.length
  | [] => Nat.le_refl _
  | p :: r => by
    unfold idx
    split
    · exact Nat.zero_le _
    · have := idx_le k r; simp; omega
theorem idx_at {k : Lk} : ∀ {l : LL}, idx k l < l.length → ∃ v, l[idx k l]? = some (k, v)
  | [], h => by simp at h
  | p :: r, h => by
    unfold idx at h ⊢
    split
    · rename_i hk
      exact ⟨p.2, by rw [hk]; rfl⟩
    · rename_i hk
      rw [if_neg hk] at h
      obtain ⟨v, hv⟩ := idx_at (k := k) (l := r) (by simp at h; omega)
      exact ⟨v, by simpa using hv⟩
theorem idx_app {k : Lk} {v : Int} : ∀ {l : LL}, ¬ idx k l < l.length → idx k (l ++ [(k, v)]) = l.length
  | [], _ => by simp [idx]
  | p :: r, h => by
    unfold idx at h
    by_cases hk : k = p.1
    · rw [if_pos hk] at h; simp at h
    · rw [if_neg hk] at h
      have := idx_app (k := k) (v := v) (l := r) (by simp at h; omega)
      show (if k = p.1 then 0 else idx k (r ++ [(k, v)]) + 1) = _
      rw [if_neg hk, this]
      rfl
theorem ent0_idx (k : Lk) (l : LL) : idx k (ent0 k l) = idx k l ∧ idx k l < (ent0 k l).length ∧ (ent0 k l)[idx k l]? = some (k, cnt k l) := by
  unfold ent0
  by_cases h : idx k l < l.length
  · rw [if_pos h]
    obtain ⟨v, hv⟩ := idx_at h
    exact ⟨rfl, h, by unfold cnt; rw [hv]; rfl⟩
  · rw [if_neg h]
    have e : idx k l = l.length := by have := idx_le k l; omega
    refine ⟨(idx_app h).trans e.symm, by simp; omega, ?_⟩
    unfold cnt
    rw [e]
    simp
end Vf

abbrev lkV (k : Lk) : Value := .agg #[.int .i64 k.1, .int .i64 k.2]
def ents : LL → Nat → List MapEntry
  | [], _ => []
  | p :: r, i => { key := lkV p.1, val := .int .i64 p.2, born := i } :: ents r (i + 1)
theorem ents_get : ∀ (l : LL) (i j : Nat), (ents l i)[j]? = (l[j]?).map (fun p => { key := lkV p.1, val := .int .i64 p.2, born := i + j })
  | [], _, _ => by simp [ents]
  | p :: r, i, 0 => by simp [ents]
  | p :: r, i, j + 1 => by
    have := ents_get r (i + 1) j
    simp only [ents, List.getElem?_cons_succ]
    rw [this]
    congr 2
    funext p
    congr 1
    omega
theorem ents_app (k : Lk) (v : Int) : ∀ (l : LL) (i : Nat), ents (l ++ [(k, v)]) i = ents l i ++ [{ key := lkV k, val := .int .i64 v, born := i + l.length }]
  | [], i => rfl
  | p :: r, i => by
    simp only [ents, List.cons_append]
    rw [ents_app k v r (i + 1)]
    congr 4
    simp
    omega
theorem ents_set (v : Int) : ∀ (l : LL) (i j : Nat), (ents l i).modify j (fun e => { e with val := .int .i64 v }) = ents (Vf.setv j v l) i
  | [], i, j => by cases j <;> rfl
  | p :: r, i, 0 => rfl
  | p :: r, i, j + 1 => by
    show _ :: (ents r (i + 1)).modify j _ = _
    rw [ents_set v r (i + 1) j]
    rfl
theorem ents_key {k : Lk} : ∀ (l : LL) (i j : Nat) (v : Int), l[j]? = some (k, v) → (ents l i).modify j (fun e => { e with key := lkV k }) = ents l i
  | [], i, j, v, h => by simp at h
  | p :: r, i, 0, v, h => by simp at h; subst h; rfl
  | p :: r, i, j + 1, v, h => by
    show _ :: (ents r (i + 1)).modify j _ = _
    rw [ents_key r (i + 1) j v (by simpa using h)]
    rfl

/-- A map of links in block M. -/
def LkIn (w : World) (M : Nat) (l : LL) : Prop := w.heap[M]? = some (.map (ents l 0).toArray l.length)

theorem Tryz.infolink : (Tryz.prog.info? 3).map (fun i => i.size) = some 1 := by kernel_rfl
theorem eq_int (d : Nat) (x y : Int) (w : World) : (Op.equalIn (d + 1) 3 (.int .i64 x) (.int .i64 y)).run Tryz.prog w = .ok (x == y) w := by
  simp [Op.equalIn, run_underlying Tryz.underlying3]
theorem eq_link (k k' : Lk) (w : World) : (Op.equal 98 (lkV k) (lkV k')).run Tryz.prog w = .ok (decide (k = k')) w := by
  have hu := run_underlying (P := Tryz.prog) (w := w) Tryz.underlying98
  obtain ⟨j, hj, hj2⟩ := Option.map_eq_some_iff.1 Tryz.infolink
  have p0 : ∀ (a b : Value) (w : World), (part 3 #[a, b] 0).run Tryz.prog w = .ok a w := fun _ _ _ => by simp [part, sizeOf, typeInfo, hj, hj2]
  have p1 : ∀ (a b : Value) (w : World), (part 3 #[a, b] 1).run Tryz.prog w = .ok b w := fun _ _ _ => by simp [part, sizeOf, typeInfo, hj, hj2]
  have hst : Tryz.prog.stoodInHeld 98 = false := by kernel_rfl
  have h : ∀ d : Nat, (Op.equalIn (d + 2) 98 (lkV k) (lkV k')).run Tryz.prog w = .ok (decide (k = k')) w := fun d => by
    rw [Op.equalIn]
    have hp : (Sem.program Sem.pure).run Tryz.prog w = .ok Tryz.prog w := rfl
    simp [hu, program, hp, hst, p0, p1, eq_int]
    obtain ⟨a, b⟩ := k
    obtain ⟨a', b'⟩ := k'
    by_cases ha : a = a'
    · by_cases hb : b = b'
      · simp [ha, hb]
      · simp [ha, hb]
    · simp [ha]
  exact h 9998

def fndL (k : Lk) : LL → Nat → Option (Nat × Value)
  | [], _ => none
  | p :: r, i => if k = p.1 then some (i, .int .i64 p.2) else fndL k r (i + 1)
theorem run_asking (k : Lk) (w : World) : ∀ (l : LL) (i : Nat), (Instr.findAsking 98 (lkV k) (ents l i) i).run Tryz.prog w = .ok (fndL k l i) w
  | [], i => rfl
  | (k', v) :: r, i => by
    have h := eq_link k k' w
    have hr := run_asking k w r (i + 1)
    unfold ents Instr.findAsking fndL
    by_cases hk : k = k'
    · subst hk
      simp [h]
    · simp [h, hk, hr]
theorem fndL_eq (k : Lk) : ∀ (l : LL) (i : Nat), fndL k l i = if Vf.idx k l < l.length then some (i + Vf.idx k l, .int .i64 (Vf.cnt k l)) else none
  | [], i => rfl
  | p :: r, i => by
    unfold fndL
    by_cases hk : k = p.1
    · have e : Vf.idx k (p :: r) = 0 := by unfold Vf.idx; rw [if_pos hk]
      rw [if_pos hk, e, if_pos (by simp)]
      unfold Vf.cnt
      rw [e]
      rfl
    · have e : Vf.idx k (p :: r) = Vf.idx k r + 1 := by rw [Vf.idx, if_neg hk]
      have ec : Vf.cnt k (p :: r) = Vf.cnt k r := by unfold Vf.cnt; rw [e]; rfl
      rw [if_neg hk, fndL_eq k r (i + 1), e, ec]
      by_cases h : Vf.idx k r < r.length
      · rw [if_pos h, if_pos (by simp; omega), show i + 1 + Vf.idx k r = i + (Vf.idx k r + 1) by omega]
      · rw [if_neg h, if_neg (by simp; omega)]
theorem run_find (k : Lk) (l : LL) (w : World) : (Instr.findKey 98 (lkV k) (ents l 0)).run Tryz.prog w = .ok (fndL k l 0) w := by
  have hu := run_underlying (P := Tryz.prog) (w := w) Tryz.underlying98
  have hr := run_asking k w l 0
  cases l with
  | nil => simp [Instr.findKey, hu, ents, Instr.findNow, fndL]
  | cons p r =>
    have hn : ∀ fs, Instr.findNow (.struct fs) (lkV k) (ents (p :: r) 0) 0 = none := fun fs => by
      unfold ents Instr.findNow
      rfl
    simp [Instr.findKey, hu, hn, hr]
theorem run_keyL (k : Lk) (b : Bool) (w : World) : (Instr.checkKey b 10000 98 (lkV k)).run Tryz.prog w = .ok () w := by
  have hu := run_underlying (P := Tryz.prog) (w := w) Tryz.underlying98
  obtain ⟨j, hj, hj2⟩ := Option.map_eq_some_iff.1 Tryz.infolink
  have p0 : ∀ (a b : Value) (w : World), (part 3 #[a, b] 0).run Tryz.prog w = .ok a w := fun _ _ _ => by simp [part, sizeOf, typeInfo, hj, hj2]
  have p1 : ∀ (a b : Value) (w : World), (part 3 #[a, b] 1).run Tryz.prog w = .ok b w := fun _ _ _ => by simp [part, sizeOf, typeInfo, hj, hj2]
  have hk : ∀ (x : Int), (Instr.checkKey b 9999 3 (.int .i64 x)).run Tryz.prog w = .ok () w := fun x => MapKept.run_checkKey (n := 9998) Tryz.underlying3 (by simp [MapKept.IsKey]) b
  rw [show (10000 : Nat) = 9999 + 1 from rfl, Instr.checkKey]
  simp [hu, p0, p1, hk]
theorem cnt_out {k : Lk} {l : LL} (h : ¬ Vf.idx k l < l.length) : Vf.cnt k l = 0 := by
  unfold Vf.cnt
  rw [List.getElem?_eq_none (by omega)]
  rfl
theorem run_lookL {w : World} {M : Nat} {l : LL} (h : LkIn w M l) (k : Lk) : (Instr.lookup 95 (.map (some M)) (lkV k) false).run Tryz.prog w = .ok (.int .i64 (Vf.cnt k l)) w := by
  unfold LkIn at h
  have hg : (getObj M).run Tryz.prog w = .ok (.map (ents l 0).toArray l.length) w := MapKept.run_getObj_map h
  have hu := run_underlying (P := Tryz.prog) (w := w) Tryz.underlying95
  have hf := run_find k l w
  rw [fndL_eq] at hf
  by_cases hi : Vf.idx k l < l.length
  · rw [if_pos hi] at hf
    simp [Instr.lookup, hu, hg, run_keyL, hf]
  · rw [if_neg hi] at hf
    simp [Instr.lookup, hu, hg, run_keyL, hf, cnt_out hi]

theorem lk_set {w : World} {M : Nat} {l : LL} (h : LkIn w M l) (l' : LL) : LkIn { w with heap := w.heap.setIfInBounds M (.map (ents l' 0).toArray l'.length) } M l' ∧ w.grownBy { w with heap := w.heap.setIfInBounds M (.map (ents l' 0).toArray l'.length) } (some M) := by
  obtain ⟨m1, m2⟩ := MapKept.heap_set (o' := .map (ents l' 0).toArray l'.length) h
  exact ⟨m1, rfl, rfl, rfl, by simp, fun k _ hne => m2 k (fun e => hne (by rw [e]))⟩
theorem run_entL {w : World} {M : Nat} {l : LL} (h : LkIn w M l) (k : Lk) : ∃ w1, (Instr.mapEntry 95 (.map (some M)) (lkV k)).run Tryz.prog w = .ok (.tuple #[.int .i64 (Vf.cnt k l), goInt (Vf.idx k l)]) w1 ∧ LkIn w1 M (Vf.ent0 k l) ∧ w.grownBy w1 (some M) := by
  have h0 := h
  unfold LkIn at h
  have hg : (getObj M).run Tryz.prog w = .ok (.map (ents l 0).toArray l.length) w := MapKept.run_getObj_map h
  have hu := run_underlying (P := Tryz.prog) (w := w) Tryz.underlying95
  have hf := run_find k l w
  rw [fndL_eq] at hf
  by_cases hi : Vf.idx k l < l.length
  · rw [if_pos hi] at hf
    obtain ⟨v, hv⟩ := Vf.idx_at hi
    have hes : (ents l 0)[Vf.idx k l]? = some { key := lkV k, val := .int .i64 v, born := 0 + Vf.idx k l } := by
      rw [ents_get, hv]
      rfl
    have hst : (Instr.keyThatStays (lkV k) (lkV k)).run Tryz.prog w = .ok (lkV k) w := by
      unfold Instr.keyThatStays
      simp [Instr.sameBits]
    have hmod := ents_key l 0 _ v hv
    have hset := MapKept.run_setObj_map (P := Tryz.prog) (.map (ents l 0).toArray l.length) h
    have he : Vf.ent0 k l = l := by unfold Vf.ent0; rw [if_pos hi]
    refine ⟨_, ?_, by rw [he]; exact (lk_set h0 l).1, (lk_set h0 l).2⟩
    simp only [Nat.zero_add] at hf hes
    simp [Instr.mapEntry, hu, hg, run_keyL, hf, hes, hst, hmod, hset]
  · rw [if_neg hi] at hf
    have hset := MapKept.run_setObj_map (P := Tryz.prog) (.map (ents (l ++ [(k, 0)]) 0).toArray (l ++ [(k, 0)]).length) h
    have he : Vf.ent0 k l = l ++ [(k, 0)] := by unfold Vf.ent0; rw [if_neg hi]
    have hpush := ents_app k 0 l 0
    rw [Nat.zero_add] at hpush
    have hlen : (l ++ [(k, 0)]).length = l.length + 1 := by simp
    have hix : Vf.idx k l = l.length := by have := Vf.idx_le k l; omega
    rw [hlen] at hset
    refine ⟨_, ?_, by rw [he]; exact (lk_set h0 (l ++ [(k, 0)])).1, (lk_set h0 (l ++ [(k, 0)])).2⟩
    rw [cnt_out hi, hix, hlen]
    simp [Instr.mapEntry, hu, hg, run_keyL, hf, ← hpush, hset]
theorem find_born : ∀ (l : LL) (i j : Nat), j < l.length → (ents l i).findIdx? (fun e => ((e.born : Int) == ((i + j : Nat) : Int))) = some j
  | [], i, j, h => by simp at h
  | p :: r, i, 0, h => by simp [ents, List.findIdx?_cons]
  | p :: r, i, j + 1, h => by
    have := find_born r (i + 1) j (by simp at h; omega)
    rw [show i + 1 + j = i + (j + 1) by omega] at this
    simp only [ents, List.findIdx?_cons]
    rw [if_neg (by simp; omega), this]
    rfl
theorem run_stoL {w : World} {M : Nat} {l : LL} (h : LkIn w M l) {j : Nat} (hj : j < l.length) (v : Int) : ∃ w1, (Instr.entryStore 95 (.map (some M)) (goInt j) (.int .i64 v)).run Tryz.prog w = .ok () w1 ∧ LkIn w1 M (Vf.setv j v l) ∧ w.grownBy w1 (some M) := by
  have h0 := h
  unfold LkIn at h
  have hg : (getObj M).run Tryz.prog w = .ok (.map (ents l 0).toArray l.length) w := MapKept.run_getObj_map h
  have hlen : (Vf.setv j v l).length = l.length := by unfold Vf.setv; simp
  have hset := MapKept.run_setObj_map (P := Tryz.prog) (.map (ents (Vf.setv j v l) 0).toArray l.length) h
  have hfi := find_born l 0 j hj
  rw [Nat.zero_add] at hfi
  have hmod := ents_set v l 0 j
  have hs := lk_set h0 (Vf.setv j v l)
  rw [hlen] at hs
  refine ⟨_, ?_, hs.1, hs.2⟩
  simp [Instr.entryStore, hg, goInt, asInt, asIntOf, hfi, hmod, hset]

/-- ONCE MORE, in whatever order it is looked and entered. -/
theorem run_bump {w : World} {M : Nat} {l : LL} (h : LkIn w M l) (k : Lk) : ∃ w1 w2, (Instr.mapEntry 95 (.map (some M)) (lkV k)).run Tryz.prog w = .ok (.tuple #[.int .i64 (Vf.cnt k l), goInt (Vf.idx k l)]) w1 ∧ (Instr.lookup 95 (.map (some M)) (lkV k) false).run Tryz.prog w1 = .ok (.int .i64 (Vf.cnt k l)) w1 ∧
    (Instr.entryStore 95 (.map (some M)) (.int .i64 ((Vf.idx k l : Nat) : Int)) (.int .i64 (Vf.cnt k l + 1))).run Tryz.prog w1 = .ok () w2 ∧ LkIn w2 M (Vf.bump k l) ∧ w.grownBy w1 (some M) ∧ w.grownBy w2 (some M) := by
  obtain ⟨w1, h1, h2, h3⟩ := run_entL h k
  obtain ⟨e1, e2, e3⟩ := Vf.ent0_idx k l
  obtain ⟨w2, h4, h5, h6⟩ := run_stoL h2 e2 (Vf.cnt k l + 1)
  have hl := run_lookL h2 k
  have ec : Vf.cnt k (Vf.ent0 k l) = Vf.cnt k l := by
    conv => lhs; unfold Vf.cnt
    rw [e1, e3]
    rfl
  rw [ec] at hl
  exact ⟨w1, w2, h1, hl, h4, h5, h3, ⟨h6.os.trans h3.os, h6.tape.trans h3.tape, h6.output.trans h3.output, Nat.le_trans h3.size h6.size, fun j hj hne => (h6.block j (by have := h3.size; omega) hne).trans (h3.block j hj hne)⟩⟩

end Go.Proofs.YtlicfdligldhdaaGreatDoor

/- What flows keep to, plainly: stacks that are not too great, of types that are there; faults that are some. -/
namespace Go.Proofs.YtlicfdligldhdaaGreatDoor

/-- What is wrong is something. -/
def NZ {α : Type} (r : Except Int α) : Prop := ∀ e, r = .error e → e ≠ 0
theorem NZ.ok {α : Type} (x : α) : NZ (.ok x) := fun e h => by cases h
theorem NZ.err {α : Type} {e : Int} (h : e ≠ 0) : NZ (.error e : Except Int α) := fun e' h' => by cases h'; exact h
theorem NZ.andThen {α β : Type} {r : Except Int α} {f : α → Except Int β} (h : NZ r) (hf : ∀ x, r = .ok x → NZ (f x)) : NZ (Vf.andThen r f) := by
  cases r with
  | error e => exact .err (h e rfl)
  | ok x => exact hf x rfl
theorem ite_ind {α : Type} {P : α → Prop} {c : Prop} [Decidable c] {a b : α} (h1 : c → P a) (h2 : ¬ c → P b) : P (if c then a else b) := by
  by_cases h : c
  · rw [if_pos h]; exact h1 h
  · rw [if_neg h]; exact h2 h
theorem put_nz (t : Int) (st : List Int) : NZ (Vf.put t st) := by
  unfold Vf.put
  split
  · exact .ok _
  · exact .err (by decide)
theorem takeR_nz : ∀ (ts st : List Int), NZ (Vf.takeR ts st)
  | [], st => .ok _
  | _ :: _, [] => .err (by decide)
  | t :: ts, x :: r => by
    unfold Vf.takeR
    split
    · exact takeR_nz ts r
    · exact .err (by decide)
theorem turn_nz (t : Int) (l st : List Int) : NZ (Vf.turn t l st) := (takeR_nz _ _).andThen fun _ _ => put_nz _ _
theorem pop_nz (st : List Int) : NZ (Vf.pop st) := by
  cases st with
  | nil => exact .err (by decide)
  | cons t r => exact .ok _
theorem must_nz {b : Bool} {e : Int} (he : e ≠ 0) (st : List Int) : NZ (Vf.must b e st) := by
  unfold Vf.must
  split
  · exact .ok _
  · exact .err he
theorem popPlain_nz (st : List Int) : NZ (Vf.popPlain st) := (pop_nz st).andThen fun p _ => by
  split
  · exact .ok _
  · exact .err (by decide)
theorem popGen_nz (st : List Int) : NZ (Vf.popGen st) := (pop_nz st).andThen fun p _ => by
  split
  · exact .ok _
  · exact .err (by decide)
theorem resume_nz (m : Vf.Md) (st : List Int) : NZ (Vf.resume m st) := (pop_nz st).andThen fun _ _ => (popGen_nz _).andThen fun _ _ => (must_nz (by decide) _).andThen fun _ _ => put_nz _ _
theorem speak_nz (m : Vf.Md) (u : Vf.Un) (c : Vf.Ins) (st : List Int) : NZ (Vf.speak m u c st) := by
  unfold Vf.speak
  refine ite_ind (P := NZ) (fun h1 => ?_) (fun g1 => ?_)
  · exact turn_nz _ _ _
  refine ite_ind (P := NZ) (fun h1 => ?_) (fun g2 => ?_)
  · exact turn_nz _ _ _
  refine ite_ind (P := NZ) (fun h1 => ?_) (fun g3 => ?_)
  · exact takeR_nz _ _
  refine ite_ind (P := NZ) (fun h1 => ?_) (fun g4 => ?_)
  · exact put_nz _ _
  refine ite_ind (P := NZ) (fun h1 => ?_) (fun g5 => ?_)
  · exact resume_nz _ _
  refine ite_ind (P := NZ) (fun h1 => ?_) (fun g6 => ?_)
  · exact (popGen_nz _).andThen fun _ _ => put_nz _ _
  refine ite_ind (P := NZ) (fun h1 => ?_) (fun g7 => ?_)
  · exact (must_nz (by decide) _).andThen fun _ _ => turn_nz _ _ _
  refine ite_ind (P := NZ) (fun h1 => ?_) (fun g8 => ?_)
  · exact (must_nz (by decide) _).andThen fun _ _ => (takeR_nz _ _).andThen fun _ _ => must_nz (by decide) _
  refine ite_ind (P := NZ) (fun h1 => ?_) (fun g9 => ?_)
  · exact (must_nz (by decide) _).andThen fun _ _ => must_nz (by decide) _
  · exact .ok _
theorem reckS_nz (m : Vf.Md) (u : Vf.Un) (c : Vf.Ins) (k : Vf.Kn) : NZ (Vf.reckS m u c k) := by
  unfold Vf.reckS
  refine ite_ind (P := NZ) (fun h1 => ?_) (fun g1 => ?_)
  · exact put_nz _ _
  refine ite_ind (P := NZ) (fun h1 => ?_) (fun g2 => ?_)
  · exact put_nz _ _
  refine ite_ind (P := NZ) (fun h1 => ?_) (fun g3 => ?_)
  · exact (must_nz (by decide) _).andThen fun _ _ => put_nz _ _
  refine ite_ind (P := NZ) (fun h1 => ?_) (fun g4 => ?_)
  · exact takeR_nz _ _
  refine ite_ind (P := NZ) (fun h1 => ?_) (fun g5 => ?_)
  · exact (pop_nz _).andThen fun _ _ => .ok _
  refine ite_ind (P := NZ) (fun h1 => ?_) (fun g6 => ?_)
  · exact turn_nz _ _ _
  refine ite_ind (P := NZ) (fun h1 => ?_) (fun g7 => ?_)
  · exact turn_nz _ _ _
  refine ite_ind (P := NZ) (fun h1 => ?_) (fun g8 => ?_)
  · exact turn_nz _ _ _
  refine ite_ind (P := NZ) (fun h1 => ?_) (fun g9 => ?_)
  · exact turn_nz _ _ _
  refine ite_ind (P := NZ) (fun h1 => ?_) (fun g10 => ?_)
  · exact turn_nz _ _ _
  refine ite_ind (P := NZ) (fun h1 => ?_) (fun g11 => ?_)
  · exact (popPlain_nz _).andThen fun _ _ => turn_nz _ _ _
  refine ite_ind (P := NZ) (fun h1 => ?_) (fun g12 => ?_)
  · exact (popPlain_nz _).andThen fun _ _ => .ok _
  refine ite_ind (P := NZ) (fun h1 => ?_) (fun g13 => ?_)
  · exact takeR_nz _ _
  · exact speak_nz _ _ _ _
theorem goOn_nz (len : Nat) (k : Vf.Kn) (t : Int) (s : Vf.S) : NZ (Vf.goOn len k t s) := by
  unfold Vf.goOn
  split
  · split
    · exact .ok _
    · split
      · split
        · exact .ok _
        · exact .ok _
      · exact .err (by decide)
  · exact .err (by decide)
theorem goAll_nz (len : Nat) (k : Vf.Kn) : ∀ (l : List Int) (s : Vf.S), NZ (Vf.goAll len k l s)
  | [], _ => .ok _
  | _ :: l, _ => (goOn_nz _ _ _ _).andThen fun s' _ => goAll_nz len k l s'
theorem look_nz (m : Vf.Md) (u : Vf.Un) (n : Nat) (s : Vf.S) : NZ (Vf.look m u n s) := by
  unfold Vf.look
  split
  · exact ((reckS_nz _ _ _ _).andThen fun _ _ => .ok _).andThen fun _ _ => goAll_nz _ _ _ _
  · exact .ok _

/-- Types that are there. -/
def OkT (m : Vf.Md) (t : Int) : Prop := Vf.plain t = true ∨ (10 ≤ t ∧ Vf.is m 3 (t - 10) = true)
/-- A stack that is not too great, of types that are there. -/
def OkS (m : Vf.Md) (st : List Int) : Prop := Gens m st ∧ st.length ≤ 300
/-- What comes of it is one, if it was. -/
def Ok {α : Type} (p : α → Prop) (r : Except Int α) : Prop := ∀ x, r = .ok x → p x
theorem Ok.andThen {α β : Type} {p : α → Prop} {q : β → Prop} {r : Except Int α} {f : α → Except Int β} (h : Ok p r) (hf : ∀ x, p x → Ok q (f x)) : Ok q (Vf.andThen r f) := by
  cases r with
  | error e => intro x hx; cases hx
  | ok x => exact hf x (h x rfl)
theorem put_ok {m : Vf.Md} {t : Int} {st : List Int} (ht : OkT m t) (h : OkS m st) : Ok (OkS m) (Vf.put t st) := by
  intro x hx
  unfold Vf.put at hx
  split at hx
  · cases hx
    refine ⟨fun y hy => ?_, by simp; omega⟩
    rcases List.mem_cons.1 hy with rfl | hy
    · exact ht
    · exact h.1 y hy
  · cases hx
theorem OkS.tail {m : Vf.Md} {t : Int} {st : List Int} (h : OkS m (t :: st)) : OkS m st := ⟨fun x hx => h.1 x (List.mem_cons_of_mem _ hx), by have := h.2; simp at this; omega⟩
theorem takeR_ok {m : Vf.Md} : ∀ (ts st : List Int), OkS m st → Ok (OkS m) (Vf.takeR ts st)
  | [], st, h => fun x hx => by cases hx; exact h
  | _ :: _, [], _ => fun x hx => by cases hx
  | t :: ts, y :: r, h => fun x hx => by
    unfold Vf.takeR at hx
    split at hx
    · exact takeR_ok ts r h.tail x hx
    · cases hx
theorem turn_ok {m : Vf.Md} {t : Int} {l st : List Int} (ht : OkT m t) (h : OkS m st) : Ok (OkS m) (Vf.turn t l st) := (takeR_ok _ _ h).andThen fun _ h => put_ok ht h
theorem pop_ok {m : Vf.Md} {st : List Int} (h : OkS m st) : Ok (fun p => OkT m p.1 ∧ OkS m p.2) (Vf.pop st) := fun x hx => by
  cases st with
  | nil => cases hx
  | cons t r => cases hx; exact ⟨h.1 t List.mem_cons_self, h.tail⟩
theorem popPlain_ok {m : Vf.Md} {st : List Int} (h : OkS m st) : Ok (fun p => OkT m p.1 ∧ OkS m p.2) (Vf.popPlain st) := (pop_ok h).andThen fun p hp x hx => by
  split at hx
  · cases hx; exact hp
  · cases hx
theorem popGen_ok {m : Vf.Md} {st : List Int} (h : OkS m st) : Ok (fun p => (10 ≤ p.1 ∧ OkT m p.1) ∧ OkS m p.2) (Vf.popGen st) := (pop_ok h).andThen fun p hp x hx => by
  split at hx
  · cases hx; exact ⟨⟨by assumption, hp.1⟩, hp.2⟩
  · cases hx
theorem must_ok {m : Vf.Md} {b : Bool} {e : Int} {st : List Int} (h : OkS m st) : Ok (OkS m) (Vf.must b e st) := fun x hx => by
  unfold Vf.must at hx
  split at hx
  · cases hx; exact h
  · cases hx

theorem typed_of {m : Vf.Md} {u : Vf.Un} (h : Vf.headE m u = 0) : (u.kind = 4 ∨ Vf.plain u.result = true) ∧ (u.kind ≠ 3 ∨ Vf.plain u.takes = true) ∧ ∀ t ∈ u.locals, OkT m t := by
  obtain ⟨_, _, h3⟩ := headE_zero h
  unfold Vf.typed Vf.heads at h3
  simp only [Bool.and_eq_true, Bool.or_eq_true, beq_iff_eq, bne_iff_ne, List.all_eq_true] at h3
  obtain ⟨⟨h4, h5⟩, h6⟩ := h3
  refine ⟨h4, h5, fun t ht => ?_⟩
  rcases h6 t ht with h7 | h7
  · exact .inl h7
  · obtain ⟨_, _, _, h8⟩ := is_some h7
    exact .inr ⟨by omega, h7⟩
theorem num_ok (m : Vf.Md) : OkT m 1 := .inl rfl
theorem tru_ok (m : Vf.Md) : OkT m 2 := .inl rfl
theorem result_ok {m : Vf.Md} (hR : Rt m) {k : Nat} {x : Vf.Un} (hx : m.units[k]? = some x) (hk : x.kind ≠ 4) : OkT m x.result := by
  rcases (typed_of (hR.heads k x hx).1).1 with h | h
  · exact absurd h hk
  · exact .inl h
theorem is_unit {m : Vf.Md} {kd a : Int} (h : Vf.is m kd a = true) : ∃ k : Nat, a = k ∧ m.units[k]? = some (Vf.unit m a) ∧ (Vf.unit m a).kind = kd := by
  obtain ⟨x, h1, h2, h3⟩ := is_some h
  have e : Vf.unit m a = x := by unfold Vf.unit; rw [h1]; rfl
  exact ⟨a.toNat, by omega, by rw [e]; exact h1, by rw [e]; exact h2⟩

theorem speak_ok {m : Vf.Md} {u : Vf.Un} {c : Vf.Ins} {st : List Int} (hR : Rt m) (hu : Vf.headE m u = 0) (hf : Vf.formE m u c = 0) (h : OkS m st) : Ok (OkS m) (Vf.speak m u c st) := by
  obtain ⟨_, _, hrg⟩ := formE_zero hf
  unfold Vf.speak
  refine ite_ind (P := Ok (OkS m)) (fun h1 => ?_) (fun g1 => ?_)
  · have h2 : Vf.is m 2 c.a = true := by
      rw [← hrg]
      unfold Vf.ranged
      rw [if_neg (by omega), if_neg (by omega), if_neg (by omega), if_pos h1]
    obtain ⟨k, _, h3, h4⟩ := is_unit h2
    exact turn_ok (result_ok hR h3 (by omega)) h
  refine ite_ind (P := Ok (OkS m)) (fun h1 => ?_) (fun g2 => ?_)
  · have h2 : Vf.is m 3 c.a = true := by
      rw [← hrg]
      unfold Vf.ranged
      rw [if_neg (by omega), if_neg (by omega), if_neg (by omega), if_neg (by omega), if_pos h1]
    obtain ⟨k, h5, _, _⟩ := is_unit h2
    exact turn_ok (.inr ⟨by omega, by rw [show 10 + c.a - 10 = c.a by omega]; exact h2⟩) h
  refine ite_ind (P := Ok (OkS m)) (fun h1 => ?_) (fun g3 => ?_)
  · exact takeR_ok _ _ h
  refine ite_ind (P := Ok (OkS m)) (fun h1 => ?_) (fun g4 => ?_)
  · have h2 : (decide (0 ≤ c.a) && decide (c.a < m.boxes.length)) = true := by
      rw [← hrg]
      unfold Vf.ranged
      rw [if_neg (by omega), if_neg (by omega), if_neg (by omega), if_neg (by omega), if_neg (by omega), if_pos (.inr h1)]
    simp only [Bool.and_eq_true, decide_eq_true_eq] at h2
    have h3 : m.boxes[c.a.toNat]? = some m.boxes[c.a.toNat] := List.getElem?_eq_getElem (by omega)
    refine put_ok (.inl ?_) h
    unfold Vf.boxTy
    rw [h3]
    exact hR.boxes _ _ h3
  refine ite_ind (P := Ok (OkS m)) (fun h1 => ?_) (fun g5 => ?_)
  · refine (pop_ok h).andThen fun p hp => (popGen_ok hp.2).andThen fun g hg => (must_ok hg.2).andThen fun st' hst => put_ok ?_ hst
    rcases hg.1.2 with h1 | ⟨_, h1⟩
    · have := hg.1.1
      unfold Vf.plain at h1
      simp at h1
      omega
    · obtain ⟨k, _, h3, h4⟩ := is_unit h1
      exact result_ok hR h3 (by omega)
  refine ite_ind (P := Ok (OkS m)) (fun h1 => ?_) (fun g6 => ?_)
  · exact (popGen_ok h).andThen fun g hg => put_ok (tru_ok m) hg.2
  refine ite_ind (P := Ok (OkS m)) (fun h1 => ?_) (fun g7 => ?_)
  · intro x hx
    by_cases hk : u.kind = 3
    · refine ((must_ok h).andThen fun st' hst => turn_ok ?_ hst) x hx
      rcases (typed_of hu).2.1 with h1 | h1
      · exact absurd hk h1
      · exact .inl h1
    · have e : (u.kind == 3) = false := by simpa using hk
      rw [e] at hx
      cases hx
  refine ite_ind (P := Ok (OkS m)) (fun h1 => ?_) (fun g8 => ?_)
  · exact (must_ok h).andThen fun _ h => (takeR_ok _ _ h).andThen fun _ h => must_ok h
  refine ite_ind (P := Ok (OkS m)) (fun h1 => ?_) (fun g9 => ?_)
  · exact (must_ok h).andThen fun _ h => must_ok h
  · intro x hx; cases hx; exact h

theorem reckS_ok {m : Vf.Md} {u : Vf.Un} {c : Vf.Ins} {k : Vf.Kn} (hR : Rt m) (hu : Vf.headE m u = 0) (hf : Vf.formE m u c = 0) (h : OkS m k.st) : Ok (OkS m) (Vf.reckS m u c k) := by
  obtain ⟨_, _, hrg⟩ := formE_zero hf
  unfold Vf.reckS
  refine ite_ind (P := Ok (OkS m)) (fun h1 => ?_) (fun g1 => ?_)
  · exact put_ok (num_ok m) h
  refine ite_ind (P := Ok (OkS m)) (fun h1 => ?_) (fun g2 => ?_)
  · exact put_ok (tru_ok m) h
  refine ite_ind (P := Ok (OkS m)) (fun h1 => ?_) (fun g3 => ?_)
  · have h2 : (decide (0 ≤ c.a) && decide (c.a < u.locals.length)) = true := by
      rw [← hrg]
      unfold Vf.ranged
      rw [if_neg (by omega), if_pos (.inl h1)]
    simp only [Bool.and_eq_true, decide_eq_true_eq] at h2
    have h3 : u.locals[c.a.toNat]? = some u.locals[c.a.toNat] := List.getElem?_eq_getElem (by omega)
    refine (must_ok h).andThen fun _ h => put_ok ?_ h
    unfold Vf.localTy
    rw [h3]
    exact (typed_of hu).2.2 _ (List.mem_of_getElem? h3)
  refine ite_ind (P := Ok (OkS m)) (fun h1 => ?_) (fun g4 => ?_)
  · exact takeR_ok _ _ h
  refine ite_ind (P := Ok (OkS m)) (fun h1 => ?_) (fun g5 => ?_)
  · exact (pop_ok h).andThen fun p hp x hx => by cases hx; exact hp.2
  refine ite_ind (P := Ok (OkS m)) (fun h1 => ?_) (fun g6 => ?_)
  · exact turn_ok (num_ok m) h
  refine ite_ind (P := Ok (OkS m)) (fun h1 => ?_) (fun g7 => ?_)
  · exact turn_ok (tru_ok m) h
  refine ite_ind (P := Ok (OkS m)) (fun h1 => ?_) (fun g8 => ?_)
  · exact turn_ok (num_ok m) h
  refine ite_ind (P := Ok (OkS m)) (fun h1 => ?_) (fun g9 => ?_)
  · exact turn_ok (tru_ok m) h
  refine ite_ind (P := Ok (OkS m)) (fun h1 => ?_) (fun g10 => ?_)
  · exact turn_ok (tru_ok m) h
  refine ite_ind (P := Ok (OkS m)) (fun h1 => ?_) (fun g11 => ?_)
  · exact (popPlain_ok h).andThen fun p hp => turn_ok (tru_ok m) hp.2
  refine ite_ind (P := Ok (OkS m)) (fun h1 => ?_) (fun g12 => ?_)
  · exact (popPlain_ok h).andThen fun p hp x hx => by cases hx; exact hp.2
  refine ite_ind (P := Ok (OkS m)) (fun h1 => ?_) (fun g13 => ?_)
  · exact takeR_ok _ _ h
  · exact speak_ok hR hu hf h

/-- What holds whenever an instruction is to be looked at. -/
structure Inv (m : Vf.Md) (u : Vf.Un) (s : Vf.S) : Prop where
  come : ∀ i k, s.come i = some k → i < u.code.length ∧ OkS m k.st
  row : ∀ i ∈ s.row, ∃ k, s.come i = some k
theorem note_inv {m : Vf.Md} {u : Vf.Un} {s : Vf.S} {i : Nat} {k : Vf.Kn} (h : Inv m u s) (hi : i < u.code.length) (hk : OkS m k.st) : Inv m u (s.note i k) := by
  refine ⟨fun j kj hj => ?_, fun j hj => ?_⟩
  · have hj' : (if j = i then some k else s.come j) = some kj := hj
    split at hj'
    · cases hj'; subst_vars; exact ⟨hi, hk⟩
    · exact h.come j kj hj'
  · show ∃ k', (if j = i then some k else s.come j) = some k'
    by_cases hji : j = i
    · exact ⟨k, if_pos hji⟩
    · rw [if_neg hji]
      rcases List.mem_append.1 hj with h1 | h1
      · exact h.row j h1
      · simp at h1; exact absurd h1 hji
theorem goOn_inv {m : Vf.Md} {u : Vf.Un} {s s' : Vf.S} {k : Vf.Kn} {t : Int} (h : Inv m u s) (h0 : 0 ≤ t) (hk : OkS m k.st) (hg : Vf.goOn u.code.length k t s = .ok s') : Inv m u s' ∧ s'.row.length ≤ s.row.length + 1 := by
  unfold Vf.goOn at hg
  split at hg
  · rename_i hlt
    have hn : t.toNat < u.code.length := by omega
    split at hg
    · cases hg
      exact ⟨note_inv h hn hk, by simp [Vf.S.note]⟩
    · rename_i kt hc
      split at hg
      · rename_i hst
        split at hg
        · cases hg; exact ⟨h, by omega⟩
        · cases hg
          exact ⟨note_inv h hn (by show OkS m kt.st; rw [hst]; exact hk), by simp [Vf.S.note]⟩
      · cases hg
  · cases hg
theorem goAll_inv {m : Vf.Md} {u : Vf.Un} {k : Vf.Kn} (hk : OkS m k.st) : ∀ {l : List Int} {s s' : Vf.S}, Inv m u s → (∀ t ∈ l, 0 ≤ t) → Vf.goAll u.code.length k l s = .ok s' → Inv m u s'
  | [], _, _, h, _, hg => by cases hg; exact h
  | t :: l, s, s', h, h0, hg => by
    unfold Vf.goAll Vf.andThen at hg
    split at hg
    · cases hg
    · rename_i s1 h1
      exact goAll_inv hk (goOn_inv h (h0 t List.mem_cons_self) hk h1).1 (fun t ht => h0 t (List.mem_cons_of_mem _ ht)) hg
end Go.Proofs.YtlicfdligldhdaaGreatDoor

