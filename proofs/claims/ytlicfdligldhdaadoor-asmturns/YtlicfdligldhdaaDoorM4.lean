/- The listing, plainly: what is read is written as it was; line by line. -/
import Derived.Test.YtlicfdligldhdaaDoorM3
namespace Go.Proofs.YtlicfdligldhdaaDoor.As
open Vf

theorem add_form : ∀ (us : List Un) (i : Ins) (us' : List Un), addI us i = some us' → ∃ pre u, us = pre ++ [u] ∧ us' = pre ++ [{ u with code := u.code ++ [i] }]
  | [], _, _, e => by cases e
  | [u], i, us', e => by cases e; exact ⟨[], u, rfl, rfl⟩
  | u :: v :: us, i, us', e => by
    change (addI (v :: us) i).map (u :: ·) = some us' at e
    obtain ⟨x, hx, rfl⟩ := Option.map_eq_some_iff.1 e
    obtain ⟨pre, y, h1, rfl⟩ := add_form (v :: us) i x hx
    exact ⟨u :: pre, y, by rw [h1]; rfl, rfl⟩
theorem mk_some {op : Int} {h : Nat} {l : List Int} {i : Ins} (e : mkI op h l = some i) (hl : ∀ n ∈ l, i64 n = true) : i.op = op ∧ args h i = l ∧ i64 i.a = true ∧ i64 i.n = true ∧ ∀ w, wordOf op = some (w, h) → bareI i = i := by
  unfold mkI at e
  split at e
  · cases e; exact ⟨rfl, rfl, rfl, rfl, fun w hw => by simp [bareI, hw]⟩
  · cases e; exact ⟨rfl, rfl, hl _ List.mem_cons_self, rfl, fun w hw => by simp [bareI, hw]⟩
  · cases e; exact ⟨rfl, rfl, rfl, hl _ List.mem_cons_self, fun w hw => by simp [bareI, hw]⟩
  · cases e
/-- A line that says an instruction. -/
theorem ins_some {us us' : List Un} {r : By} (e : lineI us r = some us') : ∃ i, addI us i = some us' ∧ inL i = 9 :: r ∧ OkI i ∧ bareI i = i := by
  obtain ⟨w, ws, hw, hj⟩ := join_words r
  unfold lineI at e
  rw [hw] at e
  simp only at e
  split at e
  · rename_i op h l ho hn
    obtain ⟨i, hi, ha⟩ := Option.bind_eq_some_iff.1 e
    obtain ⟨hd, hb⟩ := nums_some hn
    have how := op_word ho
    obtain ⟨h1, h2, h3, h4, h5⟩ := mk_some hi hb
    refine ⟨i, ha, ?_, ⟨by rw [h1, how]; rfl, h3, h4⟩, h5 w how⟩
    unfold inL
    rw [h1, how]
    simp only
    rw [h2, hd, hj]
  · cases e
/-- A line that says a box or a unit. -/
theorem unit_some {c c' : Md} {s : By} (e : lineU c s = some c') :
    (∃ b, c.units = [] ∧ c' = ⟨c.boxes ++ [b], []⟩ ∧ bxL b = s ∧ i64 b.ty = true ∧ i64 b.cap = true) ∨
    (∃ u, c' = ⟨c.boxes, c.units ++ [u]⟩ ∧ unL u = s ∧ OkU u ∧ u.code = [] ∧ ∀ m : Md, lineU m s = some ⟨m.boxes, m.units ++ [u]⟩) := by
  obtain ⟨w, ws, hw, hj⟩ := join_words s
  unfold lineU at e
  rw [hw] at e
  simp only at e
  cases hn : nums ws with
  | none => rw [hn] at e; cases e
  | some l =>
    rw [hn] at e
    obtain ⟨hd, hi⟩ := nums_some hn
    simp only at e
    by_cases hb : w = boxW
    · rw [if_pos hb] at e
      split at e
      · rename_i a b hu
        cases e
        refine .inl ⟨⟨a, b⟩, hu, rfl, ?_, hi _ (by simp), hi _ (by simp)⟩
        unfold bxL
        rw [hd, ← hb]
        exact hj
      · cases e
    · rw [if_neg hb] at e
      by_cases hk : kindOf w = 0
      · rw [if_pos hk] at e; cases e
      · rw [if_neg hk] at e
        split at e
        · rename_i p r t ls
          cases e
          refine .inr ⟨_, rfl, ?_, ⟨by rw [kind_head hk]; rfl, hi, fun i hi => by cases hi⟩, rfl, fun m => ?_⟩
          · unfold unL
            rw [kind_head hk]
            simp only [Option.getD_some]
            rw [hd]
            exact hj
          · unfold lineU
            rw [hw]
            simp only [hn, if_neg hb, if_neg hk]
        · cases e
theorem line_some {c c' : Md} {s : By} (e : line c s = some c') :
    (∃ b, c.units = [] ∧ c' = ⟨c.boxes ++ [b], []⟩ ∧ bxL b = s ∧ i64 b.ty = true ∧ i64 b.cap = true) ∨
    (∃ u, c' = ⟨c.boxes, c.units ++ [u]⟩ ∧ unL u = s ∧ OkU u ∧ u.code = [] ∧ ∀ m : Md, line m s = some ⟨m.boxes, m.units ++ [u]⟩) ∨
    (∃ i pre u, c.units = pre ++ [u] ∧ c' = ⟨c.boxes, pre ++ [{ u with code := u.code ++ [i] }]⟩ ∧ inL i = s ∧ OkI i ∧ bareI i = i ∧ ∀ (m : Md) q, m.units = q ++ [u] → line m s = some ⟨m.boxes, q ++ [{ u with code := u.code ++ [i] }]⟩) := by
  have key : ∀ s : By, (∀ m, line m s = lineU m s) → line c s = some c' → (∃ b, c.units = [] ∧ c' = ⟨c.boxes ++ [b], []⟩ ∧ bxL b = s ∧ i64 b.ty = true ∧ i64 b.cap = true) ∨
    (∃ u, c' = ⟨c.boxes, c.units ++ [u]⟩ ∧ unL u = s ∧ OkU u ∧ u.code = [] ∧ ∀ m : Md, line m s = some ⟨m.boxes, m.units ++ [u]⟩) := fun s hs e => by
    rw [hs] at e
    rcases unit_some e with h | ⟨u, h1, h2, h3, h4, h5⟩
    · exact .inl h
    · exact .inr ⟨u, h1, h2, h3, h4, fun m => by rw [hs]; exact h5 m⟩
  cases s with
  | nil => exact (key [] (fun _ => rfl) e).elim .inl (fun h => .inr (.inl h))
  | cons x r =>
    by_cases hx : x = 9
    · subst hx
      rw [line_tab] at e
      obtain ⟨us', hu, rfl⟩ := Option.map_eq_some_iff.1 e
      obtain ⟨i, ha, h2, h3, h4⟩ := ins_some hu
      obtain ⟨pre, u, h5, rfl⟩ := add_form _ _ _ ha
      refine .inr (.inr ⟨i, pre, u, h5, rfl, h2, h3, h4, fun m q hq => ?_⟩)
      have := line_ins m.boxes q u h3
      rw [h4, h2, ← hq] at this
      exact this
    · exact (key (x :: r) (fun m => line_not m r hx) e).elim .inl (fun h => .inr (.inl h))
theorem line_lines {c c' : Md} {s : By} (hc : OkM c) (e : line c s = some c') : lines c' = lines c ++ [s] ∧ OkM c' ∧ (bare c = c → bare c' = c') := by
  rcases line_some e with ⟨b, hu, rfl, hs, h1, h2⟩ | ⟨u, rfl, hs, h1, h2, _⟩ | ⟨i, pre, u, hu, rfl, hs, h1, h2, _⟩
  · refine ⟨by simp [lines, hu, hs], ⟨fun x hx => ?_, fun u hu => by cases hu⟩, fun _ => rfl⟩
    rcases List.mem_append.1 hx with hx | hx
    · exact hc.boxes x hx
    · simp at hx; subst hx; exact ⟨h1, h2⟩
  · refine ⟨by simp [lines, linesU, hs, h2], ⟨hc.boxes, fun x hx => ?_⟩, fun hb => ?_⟩
    · rcases List.mem_append.1 hx with hx | hx
      · exact hc.units x hx
      · simp at hx; subst hx; exact h1
    · have hm : c.units.map bareU = c.units := congrArg Md.units hb
      have : bareU u = u := by cases u; simp at h2; subst h2; rfl
      simp [bare, hm, this]
  · have hU := hc.units
    rw [hu] at hU
    refine ⟨by simp [lines, hu, linesU, unL, hs], ⟨hc.boxes, fun x hx => ?_⟩, fun hb => ?_⟩
    · rcases List.mem_append.1 hx with hx | hx
      · exact hU x (List.mem_append_left _ hx)
      · simp at hx
        subst hx
        have h3 := hU u (by simp)
        refine ⟨h3.head, h3.nums, fun j hj => ?_⟩
        rcases List.mem_append.1 hj with hj | hj
        · exact h3.code j hj
        · simp at hj; subst hj; exact h1
    · have hm : c.units.map bareU = c.units := congrArg Md.units hb
      rw [hu, List.map_append] at hm
      obtain ⟨m1, m2⟩ := List.append_inj' hm rfl
      simp only [List.map_cons, List.map_nil, List.cons.injEq, and_true] at m2
      have m3 : u.code.map bareI = u.code := congrArg Un.code m2
      simp [bare, m1, bareU, m3, h2]
/-- WHAT IS READ IS WRITTEN AS IT WAS. -/
theorem run_back : ∀ (ls : List By) {c c' : Md}, OkM c → runL c ls = some c' → lines c' = lines c ++ ls ∧ OkM c' ∧ (bare c = c → bare c' = c')
  | [], c, c', hc, e => by cases e; exact ⟨by simp, hc, fun h => h⟩
  | s :: ls, c, c', hc, e => by
    obtain ⟨d, h1, h2⟩ := Option.bind_eq_some_iff.1 (show (line c s).bind (runL · ls) = some c' from e)
    obtain ⟨a1, a2, a3⟩ := line_lines hc h1
    obtain ⟨b1, b2, b3⟩ := run_back ls a2 h2
    exact ⟨by rw [b1, a1, List.append_assoc]; rfl, b2, fun h => b3 (a3 h)⟩
/-- Lines of a text, and what is left behind the last one. -/
def cut : By → List By × By
  | [] => ([], [])
  | c :: l => if c = 10 then ([] :: (cut l).1, (cut l).2) else match (cut l).1 with
    | [] => ([], c :: (cut l).2)
    | w :: ws => ((c :: w) :: ws, (cut l).2)
def text (ls : List By) : By := ls.flatMap (· ++ [10])
theorem text_cut : ∀ s : By, text (cut s).1 ++ (cut s).2 = s
  | [] => rfl
  | c :: l => by
    have ih := text_cut l
    unfold cut
    by_cases hc : c = 10
    · rw [if_pos hc, hc]
      show 10 :: (text (cut l).1 ++ (cut l).2) = _
      rw [ih]
    · rw [if_neg hc]
      split
      · rename_i h
        rw [h] at ih
        show c :: (cut l).2 = _
        rw [show (cut l).2 = l from ih]
      · rename_i w ws h
        rw [h] at ih
        show c :: (text (w :: ws) ++ (cut l).2) = _
        rw [ih]
theorem cut_none : ∀ s : By, (∀ w ∈ (cut s).1, ∀ c ∈ w, c ≠ 10) ∧ ∀ c ∈ (cut s).2, c ≠ 10
  | [] => ⟨fun w h => (by cases h), fun c h => (by cases h)⟩
  | c :: l => by
    obtain ⟨h1, h2⟩ := cut_none l
    unfold cut
    by_cases hc : c = 10
    · rw [if_pos hc]
      refine ⟨fun w hw => ?_, h2⟩
      rcases List.mem_cons.1 hw with rfl | hw
      · exact fun c h => by cases h
      · exact h1 w hw
    · rw [if_neg hc]
      split
      · refine ⟨fun w hw => (by cases hw), fun d hd => ?_⟩
        rcases List.mem_cons.1 hd with rfl | hd
        · exact hc
        · exact h2 d hd
      · rename_i w ws h
        rw [h] at h1
        refine ⟨fun x hx => ?_, h2⟩
        rcases List.mem_cons.1 hx with rfl | hx
        · intro d hd
          rcases List.mem_cons.1 hd with rfl | hd
          · exact hc
          · exact h1 w List.mem_cons_self d hd
        · exact h1 x (List.mem_cons_of_mem _ hx)
theorem cut_line : ∀ (w : By) (t : By), (∀ c ∈ w, c ≠ 10) → cut (w ++ 10 :: t) = (w :: (cut t).1, (cut t).2)
  | [], t, _ => by rw [List.nil_append, cut, if_pos rfl]
  | c :: w, t, h => by
    rw [List.cons_append, cut, if_neg (h c List.mem_cons_self), cut_line w t (fun d hd => h d (List.mem_cons_of_mem _ hd))]
theorem cut_text : ∀ (ls : List By) (t : By), (∀ w ∈ ls, ∀ c ∈ w, c ≠ 10) → cut (text ls ++ t) = (ls ++ (cut t).1, (cut t).2)
  | [], t, _ => rfl
  | w :: ls, t, h => by
    rw [show text (w :: ls) ++ t = w ++ 10 :: (text ls ++ t) by simp [text], cut_line _ _ (h w List.mem_cons_self), cut_text ls t (fun x hx => h x (List.mem_cons_of_mem _ hx))]
    rfl
end Go.Proofs.YtlicfdligldhdaaDoor.As

