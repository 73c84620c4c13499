/- The map of what is known where; a row that is taken at its front. -/
import Derived.Test.YtbkimpimoclobaaM3
import Derived.MapKept
import Derived.ArgAppend
namespace Go.Proofs.Ytbkimpimoclobaa
open Go.RowKit

theorem Try.info3 : (Try.prog.info? 3).map (fun i => (i.zero, i.size, i.bytes)) = some (some (.int .i64 0), 1, 8) := by kernel_rfl

/-- What a look into entries gives. -/
abbrev fnd (l : List MapEntry) (k : Nat) (i : Nat) : Option (Option (Nat × Value)) := Instr.findNow (.int .i64) (.int .i64 (k : Int)) l i
def Keyed' (l : List MapEntry) : Prop := ∀ e ∈ l, ∃ j : Nat, e.key = .int .i64 (j : Int)

theorem fnd_cons {e : MapEntry} {l : List MapEntry} {j k i : Nat} (he : e.key = .int .i64 (j : Int)) : fnd (e :: l) k i = if k = j then some (some (i, e.val)) else fnd l k (i + 1) := by
  unfold fnd
  rw [Instr.findNow, he]
  by_cases h : k = j
  · subst h; simp [Instr.sameNow]
  · have : ((k : Int) == (j : Int)) = false := by simp; omega
    simp [Instr.sameNow, this, h]
theorem fnd_push {e : MapEntry} {j k : Nat} (he : e.key = .int .i64 (j : Int)) : ∀ (l : List MapEntry) (i : Nat), Keyed' l → fnd (l ++ [e]) k i = match fnd l k i with | some none => if k = j then some (some (i + l.length, e.val)) else some none | x => x
  | [], i, _ => by
    rw [List.nil_append, fnd_cons he]
    rfl
  | a :: l, i, h => by
    obtain ⟨ja, ha⟩ := h a List.mem_cons_self
    rw [List.cons_append, fnd_cons ha, fnd_cons ha]
    by_cases hk : k = ja
    · rw [if_pos hk, if_pos hk]
    · rw [if_neg hk, if_neg hk, fnd_push he l (i + 1) (fun x hx => h x (List.mem_cons_of_mem _ hx))]
      rw [show i + 1 + l.length = i + (a :: l).length by simp; omega]
theorem fnd_at {k : Nat} : ∀ (l : List MapEntry) (i p : Nat) (v : Value), Keyed' l → fnd l k i = some (some (p, v)) → ∃ j e, p = i + j ∧ l[j]? = some e ∧ e.key = .int .i64 (k : Int) ∧ e.val = v
  | [], i, p, v, _, h => by cases h
  | a :: l, i, p, v, hK, h => by
    obtain ⟨ja, ha⟩ := hK a List.mem_cons_self
    rw [fnd_cons ha] at h
    by_cases hk : k = ja
    · rw [if_pos hk] at h
      cases h
      exact ⟨0, a, rfl, rfl, by rw [ha, hk], rfl⟩
    · rw [if_neg hk] at h
      obtain ⟨j, e, h1, h2, h3, h4⟩ := fnd_at l (i + 1) p v (fun x hx => hK x (List.mem_cons_of_mem _ hx)) h
      exact ⟨j + 1, e, by omega, h2, h3, h4⟩
theorem fnd_modify {k : Nat} {v : Value} : ∀ (l : List MapEntry) (i j : Nat) (v0 : Value), Keyed' l → fnd l k i = some (some (i + j, v0)) → ∀ k', fnd (l.modify j (fun e => { e with key := .int .i64 (k : Int), val := v })) k' i = if k' = k then some (some (i + j, v)) else fnd l k' i
  | [], i, j, v0, _, h, _ => by cases h
  | a :: l, i, j, v0, hK, h, k' => by
    obtain ⟨ja, ha⟩ := hK a List.mem_cons_self
    rw [fnd_cons ha] at h
    by_cases hk : k = ja
    · rw [if_pos hk] at h
      obtain rfl : j = 0 := by simp at h; omega
      rw [List.modify_cons, if_pos rfl, fnd_cons (j := k) rfl, fnd_cons ha]
      subst hk
      by_cases h' : k' = k
      · rw [if_pos h', if_pos h']; rfl
      · rw [if_neg h', if_neg h', if_neg h']
    · rw [if_neg hk] at h
      obtain ⟨j', e, h1, h2, h3, h4⟩ := fnd_at l (i + 1) _ v0 (fun x hx => hK x (List.mem_cons_of_mem _ hx)) h
      obtain ⟨q, rfl⟩ : ∃ q, j = q + 1 := ⟨j - 1, by omega⟩
      rw [List.modify_cons, if_neg (by omega), fnd_cons ha, fnd_cons ha]
      have := fnd_modify (v := v) l (i + 1) q v0 (fun x hx => hK x (List.mem_cons_of_mem _ hx)) (by rw [h]; congr 3; omega) k'
      rw [show q + 1 - 1 = q by omega, this]
      by_cases h' : k' = ja
      · rw [if_pos h', if_neg (by omega), if_pos h']
      · rw [if_neg h', if_neg h', show i + 1 + q = i + (q + 1) by omega]
theorem Keyed'.push {l : List MapEntry} (h : Keyed' l) (e : MapEntry) {j : Nat} (he : e.key = .int .i64 (j : Int)) : Keyed' (l ++ [e]) := fun x hx => by
  rcases List.mem_append.1 hx with h1 | h1
  · exact h x h1
  · simp at h1; subst h1; exact ⟨j, he⟩
theorem Keyed'.modify {k : Nat} {v : Value} : ∀ {l : List MapEntry} (_ : Keyed' l) (j : Nat), Keyed' (l.modify j (fun e => { e with key := .int .i64 (k : Int), val := v }))
  | [], _, j => by intro x hx; cases j <;> simp at hx
  | a :: l, h, 0 => by
    intro x hx
    rw [List.modify_cons, if_pos rfl] at hx
    rcases List.mem_cons.1 hx with rfl | h1
    · exact ⟨k, rfl⟩
    · exact h x (List.mem_cons_of_mem _ h1)
  | a :: l, h, j + 1 => by
    intro x hx
    rw [List.modify_cons, if_neg (by omega)] at hx
    rcases List.mem_cons.1 hx with rfl | h1
    · exact h _ List.mem_cons_self
    · exact Keyed'.modify (fun y hy => h y (List.mem_cons_of_mem _ hy)) j x h1

abbrev knV (k : Vf.Kn) (top : Option Addr) : Value := .agg #[.pointer top, .int .i64 (k.st.length : Int), bvV k.fl.a, bvV k.fl.b, bvV k.fl.c, bvV k.fl.d]
/-- What is known where, as a map in block M. -/
def ComeIn (w : World) (M : Nat) (come : Nat → Option Vf.Kn) : Prop :=
  ∃ es cl, w.heap[M]? = some (.map es cl) ∧ Keyed' es.toList ∧ ∀ k : Nat, (come k = none → fnd es.toList k 0 = some none) ∧ ∀ kn, come k = some kn → ∃ i top, fnd es.toList k 0 = some (some (i, knV kn top)) ∧ SkIn w top kn.st
theorem ComeIn.keep {w w' : World} {M : Nat} {come : Nat → Option Vf.Kn} (h : ComeIn w M come) (hM : w'.heap[M]? = w.heap[M]?) (hk : ∀ (b : Nat) (cs : Array Value), w.heap[b]? = some (Obj.cells cs 109 (0, 0)) → w'.heap[b]? = some (Obj.cells cs 109 (0, 0))) : ComeIn w' M come := by
  obtain ⟨es, cl, h1, h2, h3⟩ := h
  refine ⟨es, cl, hM.trans h1, h2, fun k => ⟨(h3 k).1, fun kn hkn => ?_⟩⟩
  obtain ⟨i, top, h4, h5⟩ := (h3 k).2 kn hkn
  exact ⟨i, top, h4, h5.keep hk⟩
theorem ComeIn.lt {w : World} {M : Nat} {come : Nat → Option Vf.Kn} (h : ComeIn w M come) : M < w.heap.size := by
  obtain ⟨es, cl, h1, _⟩ := h
  exact lt_of_block h1
theorem ComeIn.new (w : World) : ComeIn (w.alloc (.map #[] 0)) w.heap.size (fun _ => none) :=
  ⟨#[], 0, heap_alloc_new w _, fun _ h => (by cases h), fun _ => ⟨fun _ => rfl, fun _ h => (by cases h)⟩⟩

theorem run_key {w : World} {k : Nat} (b : Bool) : (Instr.checkKey b 10000 3 (.int .i64 (k : Int))).run Try.prog w = .ok () w := MapKept.run_checkKey (n := 9999) Try.underlying3 (by simp [MapKept.IsKey]) b
theorem run_has {w : World} {M k : Nat} {come : Nat → Option Vf.Kn} {kn : Vf.Kn} (h : ComeIn w M come) (hk : come k = some kn) : ∃ top, SkIn w top kn.st ∧ (Instr.lookup 55 (.map (some M)) (.int .i64 (k : Int)) false).run Try.prog w = .ok (knV kn top) w ∧ (Instr.lookup 55 (.map (some M)) (.int .i64 (k : Int)) true).run Try.prog w = .ok (.tuple #[knV kn top, .bool true]) w := by
  obtain ⟨es, cl, h1, h2, h3⟩ := h
  obtain ⟨i, top, hf, hs⟩ := (h3 k).2 kn hk
  have hg : (getObj M).run Try.prog w = .ok (.map es cl) w := MapKept.run_getObj_map h1
  have hu := run_underlying (w := w) Try.underlying55
  have hkk := MapKept.run_findKey (P := Try.prog) (w := w) (kt := 3) Try.underlying3 hf
  refine ⟨top, hs, ?_, ?_⟩
  · simp [Instr.lookup, hu, hg, run_key, hkk]
  · simp [Instr.lookup, hu, hg, run_key, hkk]
theorem run_hasnt {w : World} {M k : Nat} {come : Nat → Option Vf.Kn} (h : ComeIn w M come) (hk : come k = none) : (Instr.lookup 55 (.map (some M)) (.int .i64 (k : Int)) true).run Try.prog w = .ok (.tuple #[knV ⟨[], Vf.Fl.none⟩ none, .bool false]) w := by
  obtain ⟨es, cl, h1, h2, h3⟩ := h
  have hf := (h3 k).1 hk
  have hg : (getObj M).run Try.prog w = .ok (.map es cl) w := MapKept.run_getObj_map h1
  have hu := run_underlying (w := w) Try.underlying55
  have hkk := MapKept.run_findKey (P := Try.prog) (w := w) (kt := 3) Try.underlying3 hf
  have hzv : (zeroValue 63).run Try.prog w = .ok (knV ⟨[], Vf.Fl.none⟩ none) w := by kernel_rfl
  simp [Instr.lookup, hu, hg, run_key, hkk, hzv]
/-- What is laid down is known there. -/
theorem run_note {w : World} {M k : Nat} {come : Nat → Option Vf.Kn} {kn : Vf.Kn} {top : Option Addr} (h : ComeIn w M come) (hs : SkIn w top kn.st) :
    ∃ w', (Instr.mapUpdate 55 (.map (some M)) (.int .i64 (k : Int)) (knV kn top)).run Try.prog w = .ok () w' ∧ ComeIn w' M (fun i => if i = k then some kn else come i) ∧ w.grownBy w' (some M) := by
  have hM := h.lt
  obtain ⟨es, cl, h1, h2, h3⟩ := h
  have hg : (getObj M).run Try.prog w = .ok (.map es cl) w := MapKept.run_getObj_map h1
  have hu := run_underlying (w := w) Try.underlying55
  have fin : ∀ es' cl', Keyed' es'.toList → (∀ j : Nat, fnd es'.toList j 0 = if j = k then some (some ((fnd es.toList k 0 |>.getD none).map (·.1) |>.getD es.size, knV kn top)) else fnd es.toList j 0) →
      ComeIn { w with heap := w.heap.setIfInBounds M (.map es' cl') } M (fun i => if i = k then some kn else come i) ∧ w.grownBy { w with heap := w.heap.setIfInBounds M (.map es' cl') } (some M) := by
    intro es' cl' hK hF
    obtain ⟨m1, m2⟩ := MapKept.heap_set (o' := .map es' cl') h1
    have kp : ∀ (b : Nat) (cs : Array Value), w.heap[b]? = some (Obj.cells cs 109 (0, 0)) → (w.heap.setIfInBounds M (.map es' cl'))[b]? = some (Obj.cells cs 109 (0, 0)) := fun b cs hb => (m2 b (fun e => by subst e; rw [h1] at hb; cases hb)).trans hb
    refine ⟨⟨es', cl', m1, hK, fun j => ⟨fun hj => ?_, fun kj hj => ?_⟩⟩, ⟨rfl, rfl, rfl, by simp, fun b _ hne => m2 b (fun e => hne (by rw [e]))⟩⟩
    · dsimp only at hj
      by_cases hjk : j = k
      · rw [if_pos hjk] at hj; cases hj
      · rw [if_neg hjk] at hj
        rw [hF j, if_neg hjk]
        exact (h3 j).1 hj
    · dsimp only at hj
      by_cases hjk : j = k
      · rw [if_pos hjk] at hj
        cases hj
        exact ⟨_, top, by rw [hF j, if_pos hjk], hs.keep kp⟩
      · rw [if_neg hjk] at hj
        obtain ⟨i, top', h4, h5⟩ := (h3 j).2 kj hj
        exact ⟨i, top', by rw [hF j, if_neg hjk]; exact h4, h5.keep kp⟩
  cases hc : come k with
  | none =>
    have hf := (h3 k).1 hc
    have hkk := MapKept.run_findKey (P := Try.prog) (w := w) (kt := 3) Try.underlying3 hf
    have hset := MapKept.run_setObj_map (P := Try.prog) (.map (es.push { key := .int .i64 (k : Int), val := knV kn top, born := cl }) (cl + 1)) h1
    refine ⟨_, by simp [Instr.mapUpdate, hu, hg, run_key, hkk, hset]; rfl, fin _ _ (by rw [Array.toList_push]; exact h2.push _ (j := k) rfl) (fun j => ?_)⟩
    rw [Array.toList_push, fnd_push (j := k) rfl _ _ h2]
    by_cases hjk : j = k
    · subst hjk
      rw [hf]
      simp
    · rw [if_neg hjk]
      cases hfj : fnd es.toList j 0 with
      | none => simp [hjk]
      | some x => cases x with
        | none => simp [hjk]
        | some y => simp [hjk]
  | some kn0 =>
    obtain ⟨i, top0, hf, _⟩ := (h3 k).2 kn0 hc
    have hkk := MapKept.run_findKey (P := Try.prog) (w := w) (kt := 3) Try.underlying3 hf
    obtain ⟨j0, e0, hj0, he0, hek, hev⟩ := fnd_at es.toList 0 i _ h2 hf
    obtain rfl : i = j0 := by omega
    have hes : es[i]? = some e0 := by simpa using he0
    have hst := MapKept.run_keyThatStays (P := Try.prog) (w := w) (d := .int .i64) (k := .int .i64 (k : Int)) (by simp [MapKept.IsKey])
    have hset := MapKept.run_setObj_map (P := Try.prog) (.map (es.modify i fun e => { e with key := .int .i64 (k : Int), val := knV kn top }) cl) h1
    refine ⟨_, by simp [Instr.mapUpdate, hu, hg, run_key, hkk, hes, hek, hst, hset]; rfl, fin _ _ (by rw [Array.toList_modify]; exact h2.modify i) (fun j => ?_)⟩
    rw [Array.toList_modify, fnd_modify es.toList 0 i (knV kn0 top0) h2 (by rw [hf]; simp) j, hf]
    simp

end Go.Proofs.Ytbkimpimoclobaa

