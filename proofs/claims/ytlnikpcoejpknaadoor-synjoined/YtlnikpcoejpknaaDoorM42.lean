/- The tokens of two texts with a line feed between. -/
import Derived.Test.YtlnikpcoejpknaaDoorM41
namespace Go.Proofs.YtlnikpcoejpknaaDoor
namespace Lx

theorem gap_in : ∀ (r : Bool) (x z : List UInt8), gapL r x < x.length → gapL r (x ++ z) = gapL r x
  | r, [], z, h => by simp at h
  | r, c :: x, z, h => by
    cases hk : (rem1 r c || isBlk c)
    · rw [List.cons_append, gapL_no hk, gapL_no hk]
    · rw [gapL_yes hk] at h ⊢
      rw [List.cons_append, gapL_yes hk, gap_in _ x z (by simpa using h)]

theorem gap_out : ∀ (r : Bool) (x y : List UInt8), gapL r x = x.length → gapL r (x ++ 10 :: y) = x.length + 1 + gapL false y
  | r, [], y, _ => by
    have h1 : rem1 r 10 = false := by simp [rem1]
    have h2 : isBlk 10 = true := by decide
    rw [List.nil_append, gapL_yes (by rw [h2]; simp), h1]
    simp; omega
  | r, c :: x, y, h => by
    cases hk : (rem1 r c || isBlk c)
    · rw [gapL_no hk] at h; simp at h
    · rw [gapL_yes hk] at h
      rw [List.cons_append, gapL_yes hk, gap_out _ x y (by simpa using h)]
      simp; omega

theorem span_join (p : UInt8 → Bool) (hp : p 10 = false) (y : List UInt8) : ∀ x : List UInt8, span p (x ++ 10 :: y) = span p x
  | [] => by simp [span, hp]
  | c :: x => by
    have ih := span_join p hp y x
    unfold span at ih ⊢
    rw [List.cons_append, List.takeWhile_cons, List.takeWhile_cons]
    split
    · simp [ih]
    · rfl

theorem signL_join (c : UInt8) (x y : List UInt8) : signL ((c :: x) ++ 10 :: y) = signL (c :: x) := by
  cases x with
  | nil =>
    have h : ((10 : UInt8) == 61) = false := by decide
    simp [signL]
  | cons d x => simp [signL]

theorem firstL_join (x y : List UInt8) (hx : x ≠ []) : firstL (x ++ 10 :: y) = firstL x := by
  match x, hx with
  | c :: x, _ =>
    have h1 := span_join isWrd (by decide) y (c :: x)
    have h2 := span_join isDig (by decide) y (c :: x)
    have h3 := signL_join c x y
    have h4 : ((c :: x) ++ 10 :: y).take (span isDig (c :: x)) = (c :: x).take (span isDig (c :: x)) := by
      rw [List.take_append_of_le_length (span_le _ _)]
    rw [List.cons_append] at h1 h2 h3 h4 ⊢
    simp only [firstL, h1, h2, h3, h4]

/-- A token further on. -/
def shift (d : Nat) (t : Tk) : Tk := ⟨t.kind, t.text, t.num, t.pos + d⟩

theorem lexFrom_fuel : ∀ (f g : Nat) (s : ByteArray) (a : Nat), a ≤ s.size → s.size - a < f → s.size - a < g → lexFrom f s a = lexFrom g s a
  | 0, g, s, a, _, h, _ => by omega
  | f + 1, 0, s, a, _, _, h => by omega
  | f + 1, g + 1, s, a, ha, hf, hg => by
    by_cases he : s.size ≤ place s a
    · rw [lexFrom_end rfl he, lexFrom_end rfl he]
    · obtain ⟨E, K, N, M, hF⟩ : ∃ E K N M, firstL (s.data.toList.drop (place s a)) = (E, K, N, M) := ⟨_, _, _, _, rfl⟩
      by_cases hE : E = 0
      · subst hE
        have hl := firstL_len hF
        have hN := (firstL_pos hF).1
        have hsz : s.data.size = s.size := rfl
        simp only [List.length_drop, Array.length_toList] at hl
        have hpl : a ≤ place s a := by unfold place; omega
        rw [lexFrom_tok rfl he hF, lexFrom_tok rfl he hF, lexFrom_fuel f g s (place s a + N) (by omega) (by omega) (by omega)]
      · rw [lexFrom_err rfl he hF hE, lexFrom_err rfl he hF hE]

theorem join_size {s t u : ByteArray} (hu : u.data.toList = s.data.toList ++ 10 :: t.data.toList) : u.size = s.size + 1 + t.size := by
  have h := congrArg List.length hu
  simp only [List.length_append, List.length_cons, Array.length_toList] at h
  have e1 : u.data.size = u.size := rfl
  have e2 : s.data.size = s.size := rfl
  have e3 : t.data.size = t.size := rfl
  omega

theorem join_drop {s t u : ByteArray} (hu : u.data.toList = s.data.toList ++ 10 :: t.data.toList) (b : Nat) : u.data.toList.drop (s.size + 1 + b) = t.data.toList.drop b := by
  rw [hu]
  have e2 : s.data.toList.length = s.size := rfl
  rw [List.drop_append, List.drop_of_length_le (by omega), List.nil_append]
  have e : s.size + 1 + b - s.data.toList.length = b + 1 := by omega
  rw [e, List.drop_succ_cons]

theorem join_drop_in {s t u : ByteArray} (hu : u.data.toList = s.data.toList ++ 10 :: t.data.toList) (a : Nat) (ha : a ≤ s.size) : u.data.toList.drop a = s.data.toList.drop a ++ 10 :: t.data.toList := by
  rw [hu, List.drop_append_of_le_length (by have e2 : s.data.toList.length = s.size := rfl; omega)]

theorem place_shift {s t u : ByteArray} (hu : u.data.toList = s.data.toList ++ 10 :: t.data.toList) (b : Nat) : place u (s.size + 1 + b) = place t b + (s.size + 1) := by
  unfold place
  rw [join_drop hu]; omega

theorem extract_shift {s t u : ByteArray} (hu : u.data.toList = s.data.toList ++ 10 :: t.data.toList) (p N : Nat) : u.extract (p + (s.size + 1)) (p + (s.size + 1) + N) = t.extract p (p + N) := by
  apply ByteArray.ext
  apply Array.toList_inj.1
  simp only [ByteArray.data_extract, Array.toList_extract, List.extract_eq_take_drop]
  have e : p + (s.size + 1) = s.size + 1 + p := by omega
  rw [e, join_drop hu]
  congr 1
  omega

theorem extract_in {s t u : ByteArray} (hu : u.data.toList = s.data.toList ++ 10 :: t.data.toList) (p N : Nat) (h : p + N ≤ s.size) : u.extract p (p + N) = s.extract p (p + N) := by
  apply ByteArray.ext
  apply Array.toList_inj.1
  simp only [ByteArray.data_extract, Array.toList_extract, List.extract_eq_take_drop]
  rw [join_drop_in hu p (by omega), List.take_append_of_le_length]
  have e2 : s.data.toList.length = s.size := rfl
  rw [List.length_drop]; omega

theorem lexFrom_shift {s t u : ByteArray} (hu : u.data.toList = s.data.toList ++ 10 :: t.data.toList) : ∀ (f b : Nat), (lexFrom f t b).2.1 = 0 → (lexFrom f u (s.size + 1 + b)).1 = (lexFrom f t b).1.map (shift (s.size + 1)) ∧ (lexFrom f u (s.size + 1 + b)).2 = (lexFrom f t b).2
  | 0, b, _ => by simp [lexFrom]
  | f + 1, b, h0 => by
    have hsz := join_size hu
    have hp := place_shift hu b
    by_cases he : t.size ≤ place t b
    · rw [lexFrom_end rfl he, lexFrom_end hp (by omega)]; simp
    · have he' : ¬ u.size ≤ place t b + (s.size + 1) := by omega
      obtain ⟨E, K, N, M, hF⟩ : ∃ E K N M, firstL (t.data.toList.drop (place t b)) = (E, K, N, M) := ⟨_, _, _, _, rfl⟩
      have hF' : firstL (u.data.toList.drop (place t b + (s.size + 1))) = (E, K, N, M) := by
        have e : place t b + (s.size + 1) = s.size + 1 + place t b := by omega
        rw [e, join_drop hu]; exact hF
      by_cases hE : E = 0
      · subst hE
        rw [lexFrom_tok rfl he hF] at h0 ⊢
        rw [lexFrom_tok hp he' hF']
        have ih := lexFrom_shift hu f (place t b + N) h0
        have e : place t b + (s.size + 1) + N = s.size + 1 + (place t b + N) := by omega
        have ex := extract_shift hu (place t b) N
        rw [e] at ex ⊢
        rw [ex]
        exact ⟨by simp only [List.map_cons, ih.1]; rfl, ih.2⟩
      · rw [lexFrom_err rfl he hF hE] at h0
        exact absurd h0 hE

theorem place_out {s t u : ByteArray} (hu : u.data.toList = s.data.toList ++ 10 :: t.data.toList) (a : Nat) (ha : a ≤ s.size) (he : s.size ≤ place s a) : place u a = place u (s.size + 1) := by
  have h1 := gapL_le false (s.data.toList.drop a)
  have e2 : s.data.toList.length = s.size := rfl
  unfold place at he
  rw [List.length_drop] at h1
  have h2 : gapL false (s.data.toList.drop a) = (s.data.toList.drop a).length := by rw [List.length_drop]; omega
  have h3 := join_drop hu 0
  simp only [Nat.add_zero, List.drop_zero] at h3
  unfold place
  rw [join_drop_in hu a ha, gap_out _ _ _ h2, h3, List.length_drop]
  omega

theorem place_in {s t u : ByteArray} (hu : u.data.toList = s.data.toList ++ 10 :: t.data.toList) (a : Nat) (ha : a ≤ s.size) (he : ¬ s.size ≤ place s a) : place u a = place s a := by
  have e2 : s.data.toList.length = s.size := rfl
  unfold place at he ⊢
  rw [join_drop_in hu a ha, gap_in _ _ _ (by rw [List.length_drop]; omega)]

theorem lexFrom_join {s t u : ByteArray} (hu : u.data.toList = s.data.toList ++ 10 :: t.data.toList) : ∀ (f F a : Nat), a ≤ s.size → s.size - a < f → u.size - a < F → (lexFrom f s a).2.1 = 0 →
    (lexFrom F u a).1 = (lexFrom f s a).1 ++ (lexFrom (u.size + 1) u (s.size + 1)).1 ∧ (lexFrom F u a).2 = (lexFrom (u.size + 1) u (s.size + 1)).2
  | 0, _, a, _, h, _, _ => by omega
  | f + 1, 0, a, _, _, h, _ => by omega
  | f + 1, F + 1, a, ha, hf, hF0, h0 => by
    have hsz := join_size hu
    by_cases he : s.size ≤ place s a
    · have hp := place_out hu a ha he
      have e : lexFrom (F + 1) u a = lexFrom (F + 1) u (s.size + 1) := by rw [lexFrom, lexFrom, hp]
      rw [e, lexFrom_end rfl he, lexFrom_fuel (F + 1) (u.size + 1) u (s.size + 1) (by omega) (by omega) (by omega)]
      simp
    · obtain ⟨E, K, N, M, hF⟩ : ∃ E K N M, firstL (s.data.toList.drop (place s a)) = (E, K, N, M) := ⟨_, _, _, _, rfl⟩
      have hp := place_in hu a ha he
      have hF' : firstL (u.data.toList.drop (place s a)) = (E, K, N, M) := by
        rw [join_drop_in hu _ (by omega), firstL_join _ _ ?_]
        · exact hF
        · intro e
          have := congrArg List.length e
          have e2 : s.data.toList.length = s.size := rfl
          rw [List.length_drop] at this
          simp at this
          omega
      by_cases hE : E = 0
      · subst hE
        have hl := firstL_len hF
        have hN := (firstL_pos hF).1
        have hsd : s.data.size = s.size := rfl
        simp only [List.length_drop, Array.length_toList] at hl
        have hpl : a ≤ place s a := by unfold place; omega
        rw [lexFrom_tok rfl he hF] at h0 ⊢
        rw [lexFrom_tok hp (by omega) hF', extract_in hu _ _ (by omega)]
        have ih := lexFrom_join hu f F (place s a + N) (by omega) (by omega) (by omega) h0
        exact ⟨by simp only [List.cons_append, ih.1], ih.2⟩
      · rw [lexFrom_err rfl he hF hE] at h0
        exact absurd h0 hE

theorem lexB_join {s t u : ByteArray} (hu : u.data.toList = s.data.toList ++ 10 :: t.data.toList) (hm : u.size ≤ 6000) (hs : (lexB s).2.1 = 0) (ht : (lexB t).2.1 = 0) : (lexB u).2.1 = 0 ∧ (lexB u).1 = (lexB s).1 ++ (lexB t).1.map (shift (s.size + 1)) := by
  have hsz := join_size hu
  have good : ∀ x : ByteArray, x.size ≤ 6000 → (lexB x).2.1 = 0 → (lexFrom (x.size + 1) x 0).2.1 = 0 ∧ lexB x = lexFrom (x.size + 1) x 0 := by
    intro x hx h
    unfold lexB at h ⊢
    rw [if_neg (by omega)] at h ⊢
    by_cases h1 : (lexFrom (x.size + 1) x 0).2.1 = 0
    · exact ⟨h1, by rw [if_pos h1]⟩
    · rw [if_neg h1] at h; exact absurd h h1
  obtain ⟨hs1, hs2⟩ := good s (by omega) hs
  obtain ⟨ht1, ht2⟩ := good t (by omega) ht
  have j := lexFrom_join hu (s.size + 1) (u.size + 1) 0 (Nat.zero_le _) (by omega) (by omega) hs1
  have k := lexFrom_shift hu (t.size + 1) 0 ht1
  simp only [Nat.add_zero] at k
  rw [lexFrom_fuel (t.size + 1) (u.size + 1) u (s.size + 1) (by omega) (by omega) (by omega)] at k
  rw [k.1, k.2] at j
  have hz : (lexFrom (u.size + 1) u 0).2.1 = 0 := by rw [j.2]; exact ht1
  have hb : lexB u = lexFrom (u.size + 1) u 0 := by unfold lexB; rw [if_neg (by omega), if_pos hz]
  exact ⟨by rw [hb]; exact hz, by rw [hb, j.1, hs2, ht2]⟩

end Lx
end Go.Proofs.YtlnikpcoejpknaaDoor

/- TWO PROGRAMS ARE ONE: what Read answers of two texts, one behind the other. -/
namespace Go.Proofs.YtlnikpcoejpknaaDoor
open Go.RowKit
namespace Sy

/-- Nothing is wrong with it, and so it is with more nodes ahead, or there are too many. -/
def Mo {α : Type} (f : α → Nat → Except Int Nat) : Prop := ∀ a n m, f a n = .ok m → n ≤ m ∧ ∀ n', f a n' = .ok (n' + (m - n)) ∨ f a n' = .error 4

theorem runs_mo {α : Type} {f : α → Nat → Except Int Nat} (hf : Mo f) : Mo (runs f)
  | [], n, m, h => by
    simp only [runs, Except.ok.injEq] at h
    subst h
    exact ⟨Nat.le_refl _, fun n' => .inl (by simp [runs])⟩
  | a :: l, n, m, h => by
    rw [runs] at h
    cases ha : f a n with
    | error e => rw [ha] at h; simp at h
    | ok j =>
      rw [ha] at h
      obtain ⟨i1, i2⟩ := hf a n j ha
      obtain ⟨j1, j2⟩ := runs_mo hf l j m h
      refine ⟨by omega, fun n' => ?_⟩
      rw [runs]
      rcases i2 n' with e | e
      · rw [e]
        rcases j2 (n' + (j - n)) with e2 | e2
        · refine .inl ?_
          show runs f l (n' + (j - n)) = _
          rw [e2]
          congr 1
          omega
        · exact .inr e2
      · rw [e]; exact .inr rfl

theorem nodeW_mo {kind most : Int} {d n : Nat} (h : nodeW kind most d n = 0) (n' : Nat) : nodeW kind most d n' = 0 ∨ nodeW kind most d n' = 4 := by
  have := nodeW_zero h
  unfold nodeW
  split
  · exact .inr rfl
  · rw [if_neg (by omega)]; exact .inl rfl

theorem exW_mo : ∀ d, Mo (exW d)
  | 0 => fun x n m h => by simp [exW] at h
  | d + 1 => fun x n m h => by
    rw [exW] at h
    split at h
    · simp at h
    · rename_i h0
      split at h
      · simp at h
      · rename_i h1
        obtain ⟨i1, i2⟩ := runs_mo (exW_mo d) x.kids (n + 1) m h
        refine ⟨by omega, fun n' => ?_⟩
        rw [exW]
        rcases nodeW_mo (by simpa using h0) n' with e | e
        · rw [if_neg (by rw [e]; simp), if_neg h1]
          rcases i2 (n' + 1) with e2 | e2
          · refine .inl (e2.trans ?_); congr 1; omega
          · exact .inr e2
        · rw [if_pos (by rw [e]; simp), e]; exact .inr rfl
theorem bodyOf_mo {f : St → Nat → Except Int Nat} (hf : Mo f) : Mo (bodyOf f) := fun l n m h => by
  unfold bodyOf at h
  split at h
  · simp at h
  · rename_i h1
    obtain ⟨i1, i2⟩ := runs_mo hf l n m h
    refine ⟨i1, fun n' => ?_⟩
    unfold bodyOf
    rw [if_neg h1]
    exact i2 n'
/-- A statement behind its head. -/
def stRest (d : Nat) (x : St) (j : Nat) : Except Int Nat := if x.kind = 6 then .ok j else match exW d x.x j with
  | .error e => .error e
  | .ok m => stTail (stW d) x m
theorem stW_mo : ∀ d, Mo (stW d)
  | 0 => fun x n m h => by simp [stW] at h
  | d + 1 => fun x n m h => by
    rw [stW] at h
    split at h
    · simp at h
    · rename_i h0
      split at h
      · simp at h
      · rename_i h1
        have key : ∀ (K : Nat → Except Int Nat), (n + 1 ≤ m ∧ ∀ n', K (n' + 1) = .ok (n' + 1 + (m - (n + 1))) ∨ K (n' + 1) = .error 4) → n ≤ m ∧ ∀ n', (if nodeW x.kind 9 (d + 1) n' ≠ 0 then .error (nodeW x.kind 9 (d + 1) n') else if (x.kind = 1 ∨ x.kind = 2 ∨ x.kind = 7) ∧ nm x.name = false then .error 7 else K (n' + 1) : Except Int Nat) = .ok (n' + (m - n)) ∨ (if nodeW x.kind 9 (d + 1) n' ≠ 0 then .error (nodeW x.kind 9 (d + 1) n') else if (x.kind = 1 ∨ x.kind = 2 ∨ x.kind = 7) ∧ nm x.name = false then .error 7 else K (n' + 1) : Except Int Nat) = .error 4 := by
          rintro K ⟨i1, i2⟩
          refine ⟨by omega, fun n' => ?_⟩
          rcases nodeW_mo (by simpa using h0) n' with e | e
          · rw [if_neg (by rw [e]; simp), if_neg h1]
            rcases i2 n' with e2 | e2
            · refine .inl (e2.trans ?_); congr 1; omega
            · exact .inr e2
          · rw [if_pos (by rw [e]; simp), e]; exact .inr rfl
        refine key (stRest d x) ?_
        unfold stRest
        split at h
        · rename_i h2
          simp only [Except.ok.injEq] at h
          refine ⟨by omega, fun n' => .inl ?_⟩
          simp only [if_pos h2, Except.ok.injEq]
          omega
        · rename_i h2
          simp only [if_neg h2]
          cases he : exW d x.x (n + 1) with
          | error e => rw [he] at h; simp at h
          | ok j =>
            rw [he] at h
            obtain ⟨i1, i2⟩ := exW_mo d x.x (n + 1) j he
            have ht : j ≤ m ∧ ∀ n', stTail (stW d) x n' = .ok (n' + (m - j)) ∨ stTail (stW d) x n' = .error 4 := by
              clear i1 i2 he
              simp only [stTail] at h ⊢
              split at h
              · rename_i h3
                cases hb : bodyOf (stW d) x.body j with
                | error e => rw [hb] at h; simp at h
                | ok j2 =>
                  rw [hb] at h
                  obtain ⟨k1, k2⟩ := bodyOf_mo (stW_mo d) x.body j j2 hb
                  simp only at h
                  by_cases h4 : x.kind = 3
                  · rw [if_pos h4] at h
                    obtain ⟨k3, k4⟩ := bodyOf_mo (stW_mo d) x.els j2 m h
                    refine ⟨by omega, fun n' => ?_⟩
                    rw [if_pos h3]
                    rcases k2 n' with e | e
                    · rw [e]
                      simp only [if_pos h4]
                      rcases k4 (n' + (j2 - j)) with e2 | e2
                      · refine .inl (e2.trans ?_); congr 1; omega
                      · exact .inr e2
                    · rw [e]; exact .inr rfl
                  · rw [if_neg h4] at h
                    simp only [Except.ok.injEq] at h
                    refine ⟨by omega, fun n' => ?_⟩
                    rw [if_pos h3]
                    rcases k2 n' with e | e
                    · rw [e]
                      simp only [if_neg h4]
                      exact .inl (by congr 1; omega)
                    · rw [e]; exact .inr rfl
              · rename_i h3
                simp only [Except.ok.injEq] at h
                refine ⟨by omega, fun n' => .inl ?_⟩
                rw [if_neg h3]
                congr 1
                omega
            refine ⟨by omega, fun n' => ?_⟩
            rcases i2 (n' + 1) with e | e
            · rw [e]
              rcases ht.2 (n' + 1 + (j - (n + 1))) with e2 | e2
              · refine .inl (e2.trans ?_); congr 1; omega
              · exact .inr e2
            · rw [e]; exact .inr rfl

theorem dfHead_mo {x : Df} {n : Nat} (h : dfHead x n = 0) (n' : Nat) : dfHead x n' = 0 ∨ dfHead x n' = 4 := by
  unfold dfHead at h ⊢
  split at h
  · rename_i h0; exact absurd h h0
  · rename_i h0
    rcases nodeW_mo (by simpa using h0) n' with e | e
    · rw [if_neg (by rw [e]; simp)]; exact .inl h
    · rw [if_pos (by rw [e]; simp)]; exact .inr e
theorem dfW_mo : Mo dfW := fun x n m h => by
  unfold dfW at h
  split at h
  · simp at h
  · rename_i h0
    have ht : n + 1 ≤ m ∧ ∀ n', (if x.kind = 1 then .ok (n' + 1) else bodyW 39 x.body (n' + 1) : Except Int Nat) = .ok (n' + (m - n)) ∨ (if x.kind = 1 then .ok (n' + 1) else bodyW 39 x.body (n' + 1) : Except Int Nat) = .error 4 := by
      split at h
      · rename_i h1
        simp only [Except.ok.injEq] at h
        refine ⟨by omega, fun n' => .inl ?_⟩
        rw [if_pos h1]; congr 1; omega
      · rename_i h1
        obtain ⟨i1, i2⟩ := bodyOf_mo (stW_mo 39) x.body (n + 1) m h
        refine ⟨by omega, fun n' => ?_⟩
        rw [if_neg h1]
        rcases i2 (n' + 1) with e | e
        · refine .inl (e.trans ?_); congr 1; omega
        · exact .inr e
    refine ⟨by omega, fun n' => ?_⟩
    unfold dfW
    rcases dfHead_mo (by simpa using h0) n' with e | e
    · rw [if_neg (by rw [e]; simp)]; exact ht.2 n'
    · rw [if_pos (by rw [e]; simp), e]; exact .inr rfl

/-! A fault is none that is nothing. -/
def Nz {α : Type} (f : α → Nat → Except Int Nat) : Prop := ∀ a n e, f a n = .error e → e ≠ 0
theorem runs_nz {α : Type} {f : α → Nat → Except Int Nat} (hf : Nz f) : Nz (runs f)
  | [], n, e, h => by simp [runs] at h
  | a :: l, n, e, h => by
    rw [runs] at h
    cases ha : f a n with
    | error e' => rw [ha] at h; simp only [Except.error.injEq] at h; rw [← h]; exact hf a n e' ha
    | ok j => rw [ha] at h; exact runs_nz hf l j e h
theorem exW_nz : ∀ d, Nz (exW d)
  | 0 => fun x n e h => by simp only [exW, Except.error.injEq] at h; omega
  | d + 1 => fun x n e h => by
    rw [exW] at h
    split at h
    · rename_i h0; simp only [Except.error.injEq] at h; rw [← h]; exact h0
    · split at h
      · rename_i h0; simp only [Except.error.injEq] at h; rw [← h]; exact h0
      · exact runs_nz (exW_nz d) _ _ _ h
theorem bodyOf_nz {f : St → Nat → Except Int Nat} (hf : Nz f) : Nz (bodyOf f) := fun l n e h => by
  unfold bodyOf at h
  split at h
  · simp only [Except.error.injEq] at h; omega
  · exact runs_nz hf _ _ _ h
theorem stW_nz : ∀ d, Nz (stW d)
  | 0 => fun x n e h => by simp only [stW, Except.error.injEq] at h; omega
  | d + 1 => fun x n e h => by
    rw [stW] at h
    split at h
    · rename_i h0; simp only [Except.error.injEq] at h; rw [← h]; exact h0
    · split at h
      · simp only [Except.error.injEq] at h; omega
      · split at h
        · simp at h
        · cases he : exW d x.x (n + 1) with
          | error e' => rw [he] at h; simp only [Except.error.injEq] at h; rw [← h]; exact exW_nz d _ _ _ he
          | ok j =>
            rw [he] at h
            simp only [stTail] at h
            split at h
            · cases hb : bodyOf (stW d) x.body j with
              | error e' => rw [hb] at h; simp only [Except.error.injEq] at h; rw [← h]; exact bodyOf_nz (stW_nz d) _ _ _ hb
              | ok j2 =>
                rw [hb] at h
                simp only at h
                split at h
                · exact bodyOf_nz (stW_nz d) _ _ _ h
                · simp at h
            · simp at h
theorem dfW_nz : Nz dfW := fun x n e h => by
  unfold dfW at h
  split at h
  · rename_i h0; simp only [Except.error.injEq] at h; rw [← h]; exact h0
  · split at h
    · simp at h
    · exact bodyOf_nz (stW_nz 39) _ _ _ h

theorem defsW_first : ∀ (a b : List Df) (i n : Nat), (defsW a i n).1 = 0 → ∃ m, defsW (a ++ b) i n = defsW b (i + a.length) m
  | [], b, i, n, _ => ⟨n, rfl⟩
  | x :: a, b, i, n, h => by
    rw [defsW] at h
    rw [List.cons_append, defsW]
    cases hx : dfW x n with
    | error e => rw [hx] at h; exact absurd h (dfW_nz _ _ _ hx)
    | ok j =>
      rw [hx] at h
      obtain ⟨m, hm⟩ := defsW_first a b (i + 1) j h
      refine ⟨m, ?_⟩
      show defsW (a ++ b) (i + 1) j = _
      rw [hm, List.length_cons]
      congr 1
      omega
theorem defsW_second : ∀ (b : List Df) (i n i' n' : Nat), (defsW b i n).1 = 0 → (defsW b i' n').1 = 0 ∨ (defsW b i' n').1 = 4
  | [], i, n, i', n', _ => .inl rfl
  | x :: b, i, n, i', n', h => by
    rw [defsW] at h
    rw [defsW]
    cases hx : dfW x n with
    | error e => rw [hx] at h; exact absurd h (dfW_nz _ _ _ hx)
    | ok j =>
      rw [hx] at h
      rcases (dfW_mo x n j hx).2 n' with e | e
      · rw [e]; exact defsW_second b _ _ _ _ h
      · rw [e]; exact .inr rfl

theorem wrongL_join {a b : List Df} (ha : (wrongL a).1 = 0) (hb : (wrongL b).1 = 0) : (wrongL (a ++ b)).1 = 0 ∨ (wrongL (a ++ b)).1 = 4 ∨ (wrongL (a ++ b)).1 = 5 := by
  unfold wrongL at ha hb ⊢
  split at ha
  · simp at ha
  split at hb
  · simp at hb
  split
  · exact .inr (.inr rfl)
  · obtain ⟨m, hm⟩ := defsW_first a b 0 0 ha
    rw [hm]
    rcases defsW_second b 0 0 (0 + a.length) m hb with h | h
    · exact .inl h
    · exact .inr (.inl h)

end Sy

theorem shift_lk (d : Nat) (t : Lx.Tk) : Rp.Lk t (Lx.shift d t) := ⟨rfl, rfl, rfl⟩

end Go.Proofs.YtlnikpcoejpknaaDoor

