/- The listing, plainly: what Print and Read answer, and three laws of it. -/
import Derived.Test.YtlicfdligldhdaaDoorM4
namespace Go.Proofs.YtlicfdligldhdaaDoor.As
open Vf

def badI : List Ins → Nat → Option Nat
  | [], _ => none
  | i :: l, k => if (wordOf i.op).isSome = true then badI l (k + 1) else some k
/-- Unit by unit: what is wrong (number, unit, instruction), or the text. -/
def prt (acc : By) (k : Nat) : List Un → (Nat × Nat × Nat) × By
  | [] => if 60000 < acc.length then ((4, 0, 0), []) else ((0, 0, 0), acc)
  | u :: us => if (headW u.kind).isSome = true then
      match badI u.code 0 with
      | some j => ((1, k, j), [])
      | none => if 60000 < (acc ++ text (linesU u)).length then ((4, 0, 0), []) else prt (acc ++ text (linesU u)) (k + 1) us
    else ((1, k, 0), [])
def printA (m : Md) : (Nat × Nat × Nat) × By := prt (text (m.boxes.map bxL)) 0 m.units
def runF : Md → Nat → List By → Nat × Md
  | m, _, [] => (0, m)
  | m, k, s :: ls => match line m s with
    | none => (k + 1, ⟨[], []⟩)
    | some m' => runF m' (k + 1) ls
/-- What is wrong (number, line), or the module. -/
def readA (s : By) : (Nat × Nat) × Md :=
  if 60000 < s.length then ((4, 0), ⟨[], []⟩)
  else match runF ⟨[], []⟩ 0 (cut s).1 with
    | (0, m) => if (cut s).2 = [] then ((0, 0), m) else ((2, (cut s).1.length), ⟨[], []⟩)
    | (k + 1, _) => ((2, k), ⟨[], []⟩)

theorem text_app (a b : List By) : text (a ++ b) = text a ++ text b := by simp [text]
theorem bad_none : ∀ (l : List Ins) (k : Nat), badI l k = none ↔ ∀ i ∈ l, (wordOf i.op).isSome = true
  | [], _ => by simp [badI]
  | i :: l, k => by
    unfold badI
    split
    · rename_i h
      rw [bad_none l (k + 1)]
      simp [h]
    · rename_i h
      simp [h]
/-- That it has kinds and words. -/
def Said (m : Md) : Prop := ∀ u ∈ m.units, (headW u.kind).isSome = true ∧ ∀ i ∈ u.code, (wordOf i.op).isSome = true
theorem prt_ok : ∀ (us : List Un) (acc : By) (k : Nat) {s : By}, prt acc k us = ((0, 0, 0), s) → (∀ u ∈ us, (headW u.kind).isSome = true ∧ ∀ i ∈ u.code, (wordOf i.op).isSome = true) ∧ s = acc ++ text (us.flatMap linesU) ∧ s.length ≤ 60000
  | [], acc, k, s, e => by
    unfold prt at e
    split at e
    · cases e
    · rename_i h
      cases e
      exact ⟨fun u hu => (by cases hu), by simp [text], by omega⟩
  | u :: us, acc, k, s, e => by
    unfold prt at e
    split at e
    · rename_i hh
      cases hb : badI u.code 0 with
      | some j => rw [hb] at e; cases e
      | none =>
        rw [hb] at e
        simp only at e
        split at e
        · cases e
        · obtain ⟨h1, h2, h3⟩ := prt_ok us _ _ e
          refine ⟨fun v hv => ?_, by rw [h2, List.flatMap_cons, text_app, List.append_assoc], h3⟩
          rcases List.mem_cons.1 hv with rfl | hv
          · exact ⟨hh, (bad_none _ _).1 hb⟩
          · exact h1 v hv
    · cases e
theorem prt_of : ∀ (us : List Un) (acc : By) (k : Nat), (∀ u ∈ us, (headW u.kind).isSome = true ∧ ∀ i ∈ u.code, (wordOf i.op).isSome = true) → (acc ++ text (us.flatMap linesU)).length ≤ 60000 → prt acc k us = ((0, 0, 0), acc ++ text (us.flatMap linesU))
  | [], acc, k, _, h => by
    have : acc ++ text (([] : List Un).flatMap linesU) = acc := by simp [text]
    rw [this] at h ⊢
    unfold prt
    rw [if_neg (by omega)]
  | u :: us, acc, k, hu, h => by
    have e : acc ++ text ((u :: us).flatMap linesU) = (acc ++ text (linesU u)) ++ text (us.flatMap linesU) := by rw [List.flatMap_cons, text_app, List.append_assoc]
    rw [e] at h ⊢
    have h0 := hu u List.mem_cons_self
    unfold prt
    rw [if_pos h0.1, (bad_none _ _).2 h0.2]
    simp only
    rw [if_neg (by rw [List.length_append] at h; omega), prt_of us _ _ (fun v hv => hu v (List.mem_cons_of_mem _ hv)) h]
theorem print_ok {m : Md} {s : By} (e : printA m = ((0, 0, 0), s)) : Said m ∧ s = text (lines m) ∧ s.length ≤ 60000 := by
  obtain ⟨h1, h2, h3⟩ := prt_ok _ _ _ e
  exact ⟨h1, by rw [h2, lines, text_app], h3⟩
theorem print_of {m : Md} (h : Said m) (hl : (text (lines m)).length ≤ 60000) : printA m = ((0, 0, 0), text (lines m)) := by
  unfold printA
  rw [lines, text_app] at hl ⊢
  exact prt_of _ _ _ h hl
theorem runF_run : ∀ (ls : List By) (m m' : Md) (k : Nat), runF m k ls = (0, m') ↔ runL m ls = some m'
  | [], m, m', k => by simp [runF, runL]
  | s :: ls, m, m', k => by
    unfold runF runL
    cases line m s with
    | none => simp
    | some d => exact runF_run ls d m' (k + 1)
theorem read_ok {s : By} {m : Md} : readA s = ((0, 0), m) ↔ s.length ≤ 60000 ∧ ∃ ls, s = text ls ∧ (∀ w ∈ ls, ∀ c ∈ w, c ≠ 10) ∧ runL ⟨[], []⟩ ls = some m := by
  constructor
  · intro e
    unfold readA at e
    split at e
    · cases e
    · rename_i hl
      split at e
      · rename_i m' hr
        split at e
        · rename_i h2
          cases e
          have ht := text_cut s
          rw [h2, List.append_nil] at ht
          exact ⟨by omega, (cut s).1, ht.symm, (cut_none s).1, (runF_run _ _ _ _).1 hr⟩
        · cases e
      · cases e
  · rintro ⟨hl, ls, rfl, hn, hr⟩
    have hc : cut (text ls) = (ls, []) := by
      have := cut_text ls [] hn
      rw [List.append_nil, show cut [] = (([], []) : List By × By) from rfl] at this
      simpa using this
    unfold readA
    rw [if_neg (by omega), hc, (runF_run ls _ _ _).2 hr]
    rfl
theorem join_none {l : List Int} : ∀ c ∈ join (l.map dig), c ≠ 10 := fun c hc => by
  obtain ⟨x, hx, h⟩ := List.mem_flatMap.1 hc
  obtain ⟨n, _, rfl⟩ := List.mem_map.1 hx
  rcases List.mem_cons.1 h with rfl | h
  · decide
  · exact (dig_wordy n c h).2.1
theorem lines_none {m : Md} (h : Said m) : ∀ w ∈ lines m, ∀ c ∈ w, c ≠ 10 := fun w hw c hc => by
  rcases List.mem_append.1 hw with hw | hw
  · obtain ⟨b, _, rfl⟩ := List.mem_map.1 hw
    rcases List.mem_append.1 hc with hc | hc
    · exact (by decide : ∀ c ∈ boxW, c ≠ 10) c hc
    · exact join_none c hc
  · obtain ⟨u, hu, hw⟩ := List.mem_flatMap.1 hw
    obtain ⟨h1, h2⟩ := h u hu
    rcases List.mem_cons.1 hw with rfl | hw
    · rcases List.mem_append.1 hc with hc | hc
      · obtain ⟨x, hx⟩ := Option.isSome_iff_exists.1 h1
        rw [hx, Option.getD_some] at hc
        unfold headW at hx
        split at hx
        · cases hx; exact (by decide : ∀ c ∈ fnW, c ≠ 10) c hc
        split at hx
        · cases hx; exact (by decide : ∀ c ∈ genW, c ≠ 10) c hc
        split at hx
        · cases hx; exact (by decide : ∀ c ∈ taskW, c ≠ 10) c hc
        · cases hx
      · exact join_none c hc
    · obtain ⟨i, hi, rfl⟩ := List.mem_map.1 hw
      obtain ⟨⟨x, k⟩, hx⟩ := Option.isSome_iff_exists.1 (h2 i hi)
      unfold inL at hc
      rw [hx] at hc
      rcases List.mem_cons.1 hc with rfl | hc
      · decide
      · rcases List.mem_append.1 hc with hc | hc
        · exact (word_wordy hx c hc).2.1
        · exact join_none c hc
theorem said_of {m : Md} (h : OkM m) : Said m := fun u hu => ⟨(h.units u hu).head, fun i hi => ((h.units u hu).code i hi).word⟩

/-- That its numbers are numbers. -/
structure NumM (m : Md) : Prop where
  boxes : ∀ b ∈ m.boxes, i64 b.ty = true ∧ i64 b.cap = true
  units : ∀ u ∈ m.units, (∀ n ∈ u.params :: u.result :: u.takes :: u.locals, i64 n = true) ∧ ∀ i ∈ u.code, i64 i.a = true ∧ i64 i.n = true
theorem ok_of {m : Md} (h : Said m) (hn : NumM m) : OkM m :=
  ⟨hn.boxes, fun u hu => ⟨(h u hu).1, (hn.units u hu).1, fun i hi => ⟨(h u hu).2 i hi, ((hn.units u hu).2 i hi).1, ((hn.units u hu).2 i hi).2⟩⟩⟩
/-- WHAT IS WRITTEN IS READ. -/
theorem turns {m : Md} {s : By} (hn : NumM m) (e : printA m = ((0, 0, 0), s)) : readA s = ((0, 0), bare m) := by
  obtain ⟨h1, rfl, h3⟩ := print_ok e
  exact read_ok.2 ⟨h3, lines m, rfl, lines_none h1, run_lines (ok_of h1 hn)⟩
/-- WHAT IS READ IS WRITTEN AS IT WAS. -/
theorem turns_back {m : Md} {s : By} (e : readA s = ((0, 0), m)) : printA m = ((0, 0, 0), s) ∧ OkM m ∧ bare m = m := by
  obtain ⟨h1, ls, rfl, _, h3⟩ := read_ok.1 e
  obtain ⟨h4, h5, h6⟩ := run_back ls (c := ⟨[], []⟩) ⟨fun b hb => (by cases hb), fun u hu => (by cases hu)⟩ h3
  rw [show lines ⟨[], []⟩ = [] from rfl, List.nil_append] at h4
  refine ⟨?_, h5, h6 rfl⟩
  have := print_of (said_of h5) (by rw [h4]; exact h1)
  rw [h4] at this
  exact this
end Go.Proofs.YtlicfdligldhdaaDoor.As

