/- The listing, plainly: what Print and Read answer, and three laws of it. -/
import Derived.Test.YtbdcmkmeljddmaaGreatDoorM2
import Derived.Lib.ParseIntBTie
import Derived.Lib.ItoaNum
import Derived.Lib.SplitLaws
import Derived.Lib.IndexMore
import Derived.Lib.Fields
namespace Go.Proofs.YtbdcmkmeljddmaaGreatDoor.As
open Vf

def badI : List Ins → Nat → Option Nat
  | [], _ => none
  | i :: l, k => if (wordOf i.op).isSome = true then badI l (k + 1) else some k
/-- Unit by unit: what is wrong (number, unit, instruction), or the text. -/
def prt (acc : By) (k : Nat) : List Un → (Nat × Nat × Nat) × By
  | [] => if 60000 < acc.length then ((4, 0, 0), []) else ((0, 0, 0), acc)
  | u :: us => if (headW u.kind).isSome = true then
      match badI u.code 0 with
      | some j => ((1, k, j), [])
      | none => if 60000 < (acc ++ text (linesU u)).length then ((4, 0, 0), []) else prt (acc ++ text (linesU u)) (k + 1) us
    else ((1, k, 0), [])
def printA (m : Md) : (Nat × Nat × Nat) × By := prt (text (m.boxes.map bxL)) 0 m.units
def runF : Md → Nat → List By → Nat × Md
  | m, _, [] => (0, m)
  | m, k, s :: ls => match line m s with
    | none => (k + 1, ⟨[], []⟩)
    | some m' => runF m' (k + 1) ls
/-- What is wrong (number, line), or the module. -/
def readA (s : By) : (Nat × Nat) × Md :=
  if 60000 < s.length then ((4, 0), ⟨[], []⟩)
  else match runF ⟨[], []⟩ 0 (cut s).1 with
    | (0, m) => if (cut s).2 = [] then ((0, 0), m) else ((2, (cut s).1.length), ⟨[], []⟩)
    | (k + 1, _) => ((2, k), ⟨[], []⟩)

theorem text_app (a b : List By) : text (a ++ b) = text a ++ text b := by simp [text]
theorem bad_none : ∀ (l : List Ins) (k : Nat), badI l k = none ↔ ∀ i ∈ l, (wordOf i.op).isSome = true
  | [], _ => by simp [badI]
  | i :: l, k => by
    unfold badI
    split
    · rename_i h
      rw [bad_none l (k + 1)]
      simp [h]
    · rename_i h
      simp [h]
/-- That it has kinds and words. -/
def Said (m : Md) : Prop := ∀ u ∈ m.units, (headW u.kind).isSome = true ∧ ∀ i ∈ u.code, (wordOf i.op).isSome = true
theorem prt_ok : ∀ (us : List Un) (acc : By) (k : Nat) {s : By}, prt acc k us = ((0, 0, 0), s) → (∀ u ∈ us, (headW u.kind).isSome = true ∧ ∀ i ∈ u.code, (wordOf i.op).isSome = true) ∧ s = acc ++ text (us.flatMap linesU) ∧ s.length ≤ 60000
  | [], acc, k, s, e => by
    unfold prt at e
    split at e
    · cases e
    · rename_i h
      cases e
      exact ⟨fun u hu => (by cases hu), by simp [text], by omega⟩
  | u :: us, acc, k, s, e => by
    unfold prt at e
    split at e
    · rename_i hh
      cases hb : badI u.code 0 with
      | some j => rw [hb] at e; cases e
      | none =>
        rw [hb] at e
        simp only at e
        split at e
        · cases e
        · obtain ⟨h1, h2, h3⟩ := prt_ok us _ _ e
          refine ⟨fun v hv => ?_, by rw [h2, List.flatMap_cons, text_app, List.append_assoc], h3⟩
          rcases List.mem_cons.1 hv with rfl | hv
          · exact ⟨hh, (bad_none _ _).1 hb⟩
          · exact h1 v hv
    · cases e
theorem print_ok {m : Md} {s : By} (e : printA m = ((0, 0, 0), s)) : Said m ∧ s = text (lines m) ∧ s.length ≤ 60000 := by
  obtain ⟨h1, h2, h3⟩ := prt_ok _ _ _ e
  exact ⟨h1, by rw [h2, lines, text_app], h3⟩
theorem runF_run : ∀ (ls : List By) (m m' : Md) (k : Nat), runF m k ls = (0, m') ↔ runL m ls = some m'
  | [], m, m', k => by simp [runF, runL]
  | s :: ls, m, m', k => by
    unfold runF runL
    cases line m s with
    | none => simp
    | some d => exact runF_run ls d m' (k + 1)
theorem read_ok {s : By} {m : Md} : readA s = ((0, 0), m) ↔ s.length ≤ 60000 ∧ ∃ ls, s = text ls ∧ (∀ w ∈ ls, ∀ c ∈ w, c ≠ 10) ∧ runL ⟨[], []⟩ ls = some m := by
  constructor
  · intro e
    unfold readA at e
    split at e
    · cases e
    · rename_i hl
      split at e
      · rename_i m' hr
        split at e
        · rename_i h2
          cases e
          have ht := text_cut s
          rw [h2, List.append_nil] at ht
          exact ⟨by omega, (cut s).1, ht.symm, (cut_none s).1, (runF_run _ _ _ _).1 hr⟩
        · cases e
      · cases e
  · rintro ⟨hl, ls, rfl, hn, hr⟩
    have hc : cut (text ls) = (ls, []) := by
      have := cut_text ls [] hn
      rw [List.append_nil, show cut [] = (([], []) : List By × By) from rfl] at this
      simpa using this
    unfold readA
    rw [if_neg (by omega), hc, (runF_run ls _ _ _).2 hr]
    rfl
theorem join_none {l : List Int} : ∀ c ∈ join (l.map dig), c ≠ 10 := fun c hc => by
  obtain ⟨x, hx, h⟩ := List.mem_flatMap.1 hc
  obtain ⟨n, _, rfl⟩ := List.mem_map.1 hx
  rcases List.mem_cons.1 h with rfl | h
  · decide
  · exact (dig_wordy n c h).2.1
theorem lines_none {m : Md} (h : Said m) : ∀ w ∈ lines m, ∀ c ∈ w, c ≠ 10 := fun w hw c hc => by
  rcases List.mem_append.1 hw with hw | hw
  · obtain ⟨b, _, rfl⟩ := List.mem_map.1 hw
    rcases List.mem_append.1 hc with hc | hc
    · exact (by decide : ∀ c ∈ boxW, c ≠ 10) c hc
    · exact join_none c hc
  · obtain ⟨u, hu, hw⟩ := List.mem_flatMap.1 hw
    obtain ⟨h1, h2⟩ := h u hu
    rcases List.mem_cons.1 hw with rfl | hw
    · rcases List.mem_append.1 hc with hc | hc
      · obtain ⟨x, hx⟩ := Option.isSome_iff_exists.1 h1
        rw [hx, Option.getD_some] at hc
        unfold headW at hx
        split at hx
        · cases hx; exact (by decide : ∀ c ∈ fnW, c ≠ 10) c hc
        split at hx
        · cases hx; exact (by decide : ∀ c ∈ genW, c ≠ 10) c hc
        split at hx
        · cases hx; exact (by decide : ∀ c ∈ taskW, c ≠ 10) c hc
        · cases hx
      · exact join_none c hc
    · obtain ⟨i, hi, rfl⟩ := List.mem_map.1 hw
      obtain ⟨⟨x, k⟩, hx⟩ := Option.isSome_iff_exists.1 (h2 i hi)
      unfold inL at hc
      rw [hx] at hc
      rcases List.mem_cons.1 hc with rfl | hc
      · decide
      · rcases List.mem_append.1 hc with hc | hc
        · exact (word_wordy hx c hc).2.1
        · exact join_none c hc
theorem said_of {m : Md} (h : OkM m) : Said m := fun u hu => ⟨(h.units u hu).head, fun i hi => ((h.units u hu).code i hi).word⟩

/-- That its numbers are numbers. -/
structure NumM (m : Md) : Prop where
  boxes : ∀ b ∈ m.boxes, i64 b.ty = true ∧ i64 b.cap = true
  units : ∀ u ∈ m.units, (∀ n ∈ u.params :: u.result :: u.takes :: u.locals, i64 n = true) ∧ ∀ i ∈ u.code, i64 i.a = true ∧ i64 i.n = true
theorem ok_of {m : Md} (h : Said m) (hn : NumM m) : OkM m :=
  ⟨hn.boxes, fun u hu => ⟨(h u hu).1, (hn.units u hu).1, fun i hi => ⟨(h u hu).2 i hi, ((hn.units u hu).2 i hi).1, ((hn.units u hu).2 i hi).2⟩⟩⟩
/-- WHAT IS WRITTEN IS READ. -/
theorem turns {m : Md} {s : By} (hn : NumM m) (e : printA m = ((0, 0, 0), s)) : readA s = ((0, 0), bare m) := by
  obtain ⟨h1, rfl, h3⟩ := print_ok e
  exact read_ok.2 ⟨h3, lines m, rfl, lines_none h1, run_lines (ok_of h1 hn)⟩
end Go.Proofs.YtbdcmkmeljddmaaGreatDoor.As

/- The listing, plainly: what the library cuts, reads and writes is what the listing's own words say. -/
namespace Go.Proofs.YtbdcmkmeljddmaaGreatDoor.As
open Vf

theorem dec_dig (n : Nat) : Lib.decDigits n = digN n := by
  induction n using Nat.strongRecOn with
  | ind n ih =>
    rw [Lib.decDigits, digN]
    split
    · rename_i h
      unfold dgt
      rw [Nat.mod_eq_of_lt h]
    · rw [ih (n / 10) (by omega)]
      rfl
theorem itoa_dig (n : Int) : Lib.itoa n = dig n := by
  unfold Lib.itoa dig
  split
  · rw [dec_dig]
  · rename_i h
    rw [dec_dig]
    congr 1
    omega
theorem fold_ge : ∀ (l : By) (a : Nat), a ≤ l.foldl (fun a c => 10 * a + (c.toNat - 48)) a
  | [], _ => Nat.le_refl _
  | c :: l, a => by
    have := fold_ge l (10 * a + (c.toNat - 48))
    simp only [List.foldl_cons]
    omega
theorem uint_val : ∀ (l : By) (a : Nat), dgs l → l.foldl (fun a c => 10 * a + (c.toNat - 48)) a ≤ 18446744073709551615 → Lib.parseUintM (2 ^ 64 - 1) a l = .ok (l.foldl (fun a c => 10 * a + (c.toNat - 48)) a)
  | [], _, _, _ => rfl
  | c :: l, a, h, hm => by
    have h1 := h c List.mem_cons_self
    have h2 := fold_ge l (10 * a + (c.toNat - 48))
    simp only [List.foldl_cons] at hm ⊢
    unfold Lib.parseUintM
    rw [if_pos h1, if_neg (by omega), if_neg (by omega), Nat.mul_comm a 10]
    exact uint_val l _ (fun d hd => h d (List.mem_cons_of_mem _ hd)) hm
theorem uint_dig (n : Nat) (h : n ≤ 18446744073709551615) : Lib.parseUintB 64 (digN n) = .ok n := by
  unfold Lib.parseUintB
  rw [if_neg (digN_ne n)]
  have e := valN_dig n
  unfold valN at e
  have := uint_val (digN n) 0 (digN_dgs n) (by rw [e]; exact h)
  rw [e] at this
  exact this
theorem parse_dig {n : Int} (h : i64 n = true) : Lib.parseIntB 64 (dig n) = .ok n := by
  unfold i64 at h
  simp only [Bool.and_eq_true, decide_eq_true_eq] at h
  unfold dig
  split
  · rename_i hn
    unfold Lib.parseIntB
    simp only [show ((45 : UInt8).toNat = 43 ∨ (45 : UInt8).toNat = 45) from .inr rfl, if_true]
    rw [uint_dig _ (by omega)]
    simp only [show (45 : UInt8).toNat = 45 from rfl, not_true_eq_false, false_and, if_false, true_and, if_true]
    rw [if_neg (by omega)]
    congr 1
    omega
  · rename_i hn
    cases hd : digN n.natAbs with
    | nil => exact absurd hd (digN_ne _)
    | cons c r =>
      have hc := digN_dgs n.natAbs c (by rw [hd]; exact List.mem_cons_self)
      unfold Lib.parseIntB
      simp only
      rw [if_neg (by omega), ← hd, uint_dig _ (by omega)]
      simp only
      rw [if_neg (by omega), if_neg (by omega), if_neg (by omega)]
      congr 1
      omega
/-- A number as it is written, or none. -/
theorem num_ok {l : By} {v : Int} (h : Lib.parseIntB 64 l = .ok v) : numOf l = if Lib.itoa v = l then some v else none := by
  have hb := Lib.parseIntB_bounds h
  have h64 : i64 v = true := by
    unfold i64
    simp only [Bool.and_eq_true, decide_eq_true_eq]
    have e : (((2 ^ (64 - 1) : Nat)) : Int) = 9223372036854775808 := by decide
    rw [e] at hb
    omega
  split
  · rename_i he
    rw [itoa_dig] at he
    rw [← he]
    exact num_dig h64
  · rename_i he
    cases hn : numOf l with
    | none => rfl
    | some n =>
      obtain ⟨h1, h2⟩ := num_some hn
      have := parse_dig h2
      rw [h1, h] at this
      cases this
      exact absurd (by rw [itoa_dig]; exact h1) he
theorem num_no {l : By} (h : ∀ v, Lib.parseIntB 64 l ≠ .ok v) : numOf l = none := by
  cases hn : numOf l with
  | none => rfl
  | some n =>
    obtain ⟨h1, h2⟩ := num_some hn
    have := parse_dig h2
    rw [h1] at this
    exact absurd this (h n)

theorem first_of {c : UInt8} : ∀ (s : By), (∀ d ∈ s, d ≠ c) ∨ ∃ a r, s = a ++ c :: r ∧ ∀ d ∈ a, d ≠ c
  | [] => .inl (fun d h => by cases h)
  | x :: s => by
    by_cases hx : x = c
    · exact .inr ⟨[], s, by rw [hx]; rfl, fun d h => by cases h⟩
    · rcases first_of (c := c) s with h | ⟨a, r, h1, h2⟩
      · refine .inl fun d hd => ?_
        rcases List.mem_cons.1 hd with rfl | hd
        · exact hx
        · exact h d hd
      · refine .inr ⟨x :: a, r, by rw [h1]; rfl, fun d hd => ?_⟩
        rcases List.mem_cons.1 hd with rfl | hd
        · exact hx
        · exact h2 d hd
theorem index_no {c : UInt8} : ∀ {s : By}, (∀ d ∈ s, d ≠ c) → Lib.index s [c] = -1
  | [], _ => rfl
  | x :: s, h => by
    have hx := h x List.mem_cons_self
    unfold Lib.index
    rw [if_neg (by simp [List.isPrefixOf]; exact fun e => hx e.symm), index_no (fun d hd => h d (List.mem_cons_of_mem _ hd))]
    rfl
theorem index_at {c : UInt8} (r : By) : ∀ {a : By}, (∀ d ∈ a, d ≠ c) → Lib.index (a ++ c :: r) [c] = (a.length : Int)
  | [], _ => by
    rw [List.nil_append]
    unfold Lib.index
    rw [if_pos (by simp [List.isPrefixOf])]
    rfl
  | x :: a, h => by
    have hx := h x List.mem_cons_self
    rw [List.cons_append]
    unfold Lib.index
    rw [if_neg (by simp [List.isPrefixOf]; exact fun e => hx e.symm), index_at r (fun d hd => h d (List.mem_cons_of_mem _ hd)), if_neg (by simp)]
    simp
theorem splitK_words : ∀ (k : Nat) (s : By), s.count 32 = k → Lib.splitK [32] 0 k s = words s
  | 0, s, h => by
    have : ∀ c ∈ s, c ≠ 32 := fun c hc e => by
      subst e
      have := List.count_pos_iff.2 hc
      omega
    rw [words_one this]
    rfl
  | k + 1, s, h => by
    rcases first_of (c := 32) s with hn | ⟨a, r, rfl, ha⟩
    · have : s.count 32 = 0 := List.count_eq_zero.2 (fun h => hn 32 h rfl)
      omega
    · have hca : a.count 32 = 0 := List.count_eq_zero.2 (fun h => ha 32 h rfl)
      rw [List.count_append, hca, List.count_cons_self] at h
      unfold Lib.splitK
      rw [index_at r ha, if_neg (by simp), words_more r ha]
      simp only [Int.toNat_natCast, Nat.add_zero, List.take_left', List.length_cons, List.length_nil, Nat.zero_add]
      congr 1
      rw [show (a ++ 32 :: r).drop (a.length + 1) = r by simp]
      exact splitK_words k r (by omega)
theorem split_words (s : ByteArray) (sep : ByteArray) (hs : sep.data.toList = [32]) : (Lib.splitB sep 0 (Lib.countB s sep) s).map (·.data.toList) = words s.data.toList := by
  have hc : Lib.countB s sep = s.data.toList.count 32 := by
    show Lib.count s.data.toList sep.data.toList = _
    rw [hs]
    exact Lib.count_one 32 _
  rw [Lib.splitB_data, hs, hc]
  exact splitK_words _ _ rfl
theorem cut_no {s : By} (h : ∀ c ∈ s, c ≠ 10) : Lib.cut s [10] = (s, [], false) := by
  unfold Lib.cut
  rw [index_no h, if_neg (by decide)]
theorem cut_at {a r : By} (h : ∀ c ∈ a, c ≠ 10) : Lib.cut (a ++ 10 :: r) [10] = (a, r, true) := by
  unfold Lib.cut
  rw [index_at r h, if_pos (by omega)]
  simp
theorem cut_rest {s : By} (h : ∀ c ∈ s, c ≠ 10) : cut s = ([], s) := by
  have h1 := text_cut s
  cases hc : (cut s).1 with
  | nil =>
    rw [hc] at h1
    exact Prod.ext hc h1
  | cons w ws =>
    rw [hc] at h1
    exfalso
    refine h 10 ?_ rfl
    rw [← h1]
    simp [text]
/-- What Read answers of what is left, behind k lines. -/
def fin (m : Md) (k : Nat) (r : By) : (Nat × Nat) × Md := match runF m k (cut r).1 with
  | (0, m') => if (cut r).2 = [] then ((0, 0), m') else ((2, k + (cut r).1.length), ⟨[], []⟩)
  | (j + 1, _) => ((2, j), ⟨[], []⟩)
theorem fin_first (s : By) (h : ¬ 60000 < s.length) : readA s = fin ⟨[], []⟩ 0 s := by
  unfold readA fin
  rw [if_neg h]
  cases runF ⟨[], []⟩ 0 (cut s).1 with
  | mk j m => cases j <;> simp
theorem fin_nil (m : Md) (k : Nat) : fin m k [] = ((0, 0), m) := rfl
theorem fin_open (m : Md) (k : Nat) {r : By} (h : ∀ c ∈ r, c ≠ 10) (hr : r ≠ []) : fin m k r = ((2, k), ⟨[], []⟩) := by
  unfold fin
  rw [cut_rest h]
  simp [runF, hr]
theorem fin_bad (m : Md) (k : Nat) {a r : By} (h : ∀ c ∈ a, c ≠ 10) (hl : line m a = none) : fin m k (a ++ 10 :: r) = ((2, k), ⟨[], []⟩) := by
  unfold fin
  rw [cut_line a r h]
  simp [runF, hl]
theorem fin_more {m m' : Md} (k : Nat) {a r : By} (h : ∀ c ∈ a, c ≠ 10) (hl : line m a = some m') : fin m k (a ++ 10 :: r) = fin m' (k + 1) r := by
  unfold fin
  rw [cut_line a r h]
  simp only [runF, hl, List.length_cons]
  rw [show k + ((cut r).1.length + 1) = k + 1 + (cut r).1.length by omega]
end Go.Proofs.YtbdcmkmeljddmaaGreatDoor.As

