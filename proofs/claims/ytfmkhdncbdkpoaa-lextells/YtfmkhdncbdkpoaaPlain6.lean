/- The tokens of two texts with a line feed between. -/
import Derived.Test.YtfmkhdncbdkpoaaPlain5
namespace Go.Proofs.Ytfmkhdncbdkpoaa
namespace Lx

theorem gap_in : ∀ (r : Bool) (x z : List UInt8), gapL r x < x.length → gapL r (x ++ z) = gapL r x
  | r, [], z, h => by simp at h
  | r, c :: x, z, h => by
    cases hk : (rem1 r c || isBlk c)
    · rw [List.cons_append, gapL_no hk, gapL_no hk]
    · rw [gapL_yes hk] at h ⊢
      rw [List.cons_append, gapL_yes hk, gap_in _ x z (by simpa using h)]

theorem gap_out : ∀ (r : Bool) (x y : List UInt8), gapL r x = x.length → gapL r (x ++ 10 :: y) = x.length + 1 + gapL false y
  | r, [], y, _ => by
    have h1 : rem1 r 10 = false := by simp [rem1]
    have h2 : isBlk 10 = true := by decide
    rw [List.nil_append, gapL_yes (by rw [h2]; simp), h1]
    simp; omega
  | r, c :: x, y, h => by
    cases hk : (rem1 r c || isBlk c)
    · rw [gapL_no hk] at h; simp at h
    · rw [gapL_yes hk] at h
      rw [List.cons_append, gapL_yes hk, gap_out _ x y (by simpa using h)]
      simp; omega

theorem span_join (p : UInt8 → Bool) (hp : p 10 = false) (y : List UInt8) : ∀ x : List UInt8, span p (x ++ 10 :: y) = span p x
  | [] => by simp [span, hp]
  | c :: x => by
    have ih := span_join p hp y x
    unfold span at ih ⊢
    rw [List.cons_append, List.takeWhile_cons, List.takeWhile_cons]
    split
    · simp [ih]
    · rfl

theorem signL_join (c : UInt8) (x y : List UInt8) : signL ((c :: x) ++ 10 :: y) = signL (c :: x) := by
  cases x with
  | nil =>
    have h : ((10 : UInt8) == 61) = false := by decide
    simp [signL]
  | cons d x => simp [signL]

theorem firstL_join (x y : List UInt8) (hx : x ≠ []) : firstL (x ++ 10 :: y) = firstL x := by
  match x, hx with
  | c :: x, _ =>
    have h1 := span_join isWrd (by decide) y (c :: x)
    have h2 := span_join isDig (by decide) y (c :: x)
    have h3 := signL_join c x y
    have h4 : ((c :: x) ++ 10 :: y).take (span isDig (c :: x)) = (c :: x).take (span isDig (c :: x)) := by
      rw [List.take_append_of_le_length (span_le _ _)]
    rw [List.cons_append] at h1 h2 h3 h4 ⊢
    simp only [firstL, h1, h2, h3, h4]

/-- A token further on. -/
def shift (d : Nat) (t : Tk) : Tk := ⟨t.kind, t.text, t.num, t.pos + d⟩

theorem lexFrom_fuel : ∀ (f g : Nat) (s : ByteArray) (a : Nat), a ≤ s.size → s.size - a < f → s.size - a < g → lexFrom f s a = lexFrom g s a
  | 0, g, s, a, _, h, _ => by omega
  | f + 1, 0, s, a, _, _, h => by omega
  | f + 1, g + 1, s, a, ha, hf, hg => by
    by_cases he : s.size ≤ place s a
    · rw [lexFrom_end rfl he, lexFrom_end rfl he]
    · obtain ⟨E, K, N, M, hF⟩ : ∃ E K N M, firstL (s.data.toList.drop (place s a)) = (E, K, N, M) := ⟨_, _, _, _, rfl⟩
      by_cases hE : E = 0
      · subst hE
        have hl := firstL_len hF
        have hN := (firstL_pos hF).1
        have hsz : s.data.size = s.size := rfl
        simp only [List.length_drop, Array.length_toList] at hl
        have hpl : a ≤ place s a := by unfold place; omega
        rw [lexFrom_tok rfl he hF, lexFrom_tok rfl he hF, lexFrom_fuel f g s (place s a + N) (by omega) (by omega) (by omega)]
      · rw [lexFrom_err rfl he hF hE, lexFrom_err rfl he hF hE]

theorem join_size {s t u : ByteArray} (hu : u.data.toList = s.data.toList ++ 10 :: t.data.toList) : u.size = s.size + 1 + t.size := by
  have h := congrArg List.length hu
  simp only [List.length_append, List.length_cons, Array.length_toList] at h
  have e1 : u.data.size = u.size := rfl
  have e2 : s.data.size = s.size := rfl
  have e3 : t.data.size = t.size := rfl
  omega

theorem join_drop {s t u : ByteArray} (hu : u.data.toList = s.data.toList ++ 10 :: t.data.toList) (b : Nat) : u.data.toList.drop (s.size + 1 + b) = t.data.toList.drop b := by
  rw [hu]
  have e2 : s.data.toList.length = s.size := rfl
  rw [List.drop_append, List.drop_of_length_le (by omega), List.nil_append]
  have e : s.size + 1 + b - s.data.toList.length = b + 1 := by omega
  rw [e, List.drop_succ_cons]

theorem join_drop_in {s t u : ByteArray} (hu : u.data.toList = s.data.toList ++ 10 :: t.data.toList) (a : Nat) (ha : a ≤ s.size) : u.data.toList.drop a = s.data.toList.drop a ++ 10 :: t.data.toList := by
  rw [hu, List.drop_append_of_le_length (by have e2 : s.data.toList.length = s.size := rfl; omega)]

theorem place_shift {s t u : ByteArray} (hu : u.data.toList = s.data.toList ++ 10 :: t.data.toList) (b : Nat) : place u (s.size + 1 + b) = place t b + (s.size + 1) := by
  unfold place
  rw [join_drop hu]; omega

theorem extract_shift {s t u : ByteArray} (hu : u.data.toList = s.data.toList ++ 10 :: t.data.toList) (p N : Nat) : u.extract (p + (s.size + 1)) (p + (s.size + 1) + N) = t.extract p (p + N) := by
  apply ByteArray.ext
  apply Array.toList_inj.1
  simp only [ByteArray.data_extract, Array.toList_extract, List.extract_eq_take_drop]
  have e : p + (s.size + 1) = s.size + 1 + p := by omega
  rw [e, join_drop hu]
  congr 1
  omega

theorem extract_in {s t u : ByteArray} (hu : u.data.toList = s.data.toList ++ 10 :: t.data.toList) (p N : Nat) (h : p + N ≤ s.size) : u.extract p (p + N) = s.extract p (p + N) := by
  apply ByteArray.ext
  apply Array.toList_inj.1
  simp only [ByteArray.data_extract, Array.toList_extract, List.extract_eq_take_drop]
  rw [join_drop_in hu p (by omega), List.take_append_of_le_length]
  have e2 : s.data.toList.length = s.size := rfl
  rw [List.length_drop]; omega

theorem lexFrom_shift {s t u : ByteArray} (hu : u.data.toList = s.data.toList ++ 10 :: t.data.toList) : ∀ (f b : Nat), (lexFrom f t b).2.1 = 0 → (lexFrom f u (s.size + 1 + b)).1 = (lexFrom f t b).1.map (shift (s.size + 1)) ∧ (lexFrom f u (s.size + 1 + b)).2 = (lexFrom f t b).2
  | 0, b, _ => by simp [lexFrom]
  | f + 1, b, h0 => by
    have hsz := join_size hu
    have hp := place_shift hu b
    by_cases he : t.size ≤ place t b
    · rw [lexFrom_end rfl he, lexFrom_end hp (by omega)]; simp
    · have he' : ¬ u.size ≤ place t b + (s.size + 1) := by omega
      obtain ⟨E, K, N, M, hF⟩ : ∃ E K N M, firstL (t.data.toList.drop (place t b)) = (E, K, N, M) := ⟨_, _, _, _, rfl⟩
      have hF' : firstL (u.data.toList.drop (place t b + (s.size + 1))) = (E, K, N, M) := by
        have e : place t b + (s.size + 1) = s.size + 1 + place t b := by omega
        rw [e, join_drop hu]; exact hF
      by_cases hE : E = 0
      · subst hE
        rw [lexFrom_tok rfl he hF] at h0 ⊢
        rw [lexFrom_tok hp he' hF']
        have ih := lexFrom_shift hu f (place t b + N) h0
        have e : place t b + (s.size + 1) + N = s.size + 1 + (place t b + N) := by omega
        have ex := extract_shift hu (place t b) N
        rw [e] at ex ⊢
        rw [ex]
        exact ⟨by simp only [List.map_cons, ih.1]; rfl, ih.2⟩
      · rw [lexFrom_err rfl he hF hE] at h0
        exact absurd h0 hE

theorem place_out {s t u : ByteArray} (hu : u.data.toList = s.data.toList ++ 10 :: t.data.toList) (a : Nat) (ha : a ≤ s.size) (he : s.size ≤ place s a) : place u a = place u (s.size + 1) := by
  have h1 := gapL_le false (s.data.toList.drop a)
  have e2 : s.data.toList.length = s.size := rfl
  unfold place at he
  rw [List.length_drop] at h1
  have h2 : gapL false (s.data.toList.drop a) = (s.data.toList.drop a).length := by rw [List.length_drop]; omega
  have h3 := join_drop hu 0
  simp only [Nat.add_zero, List.drop_zero] at h3
  unfold place
  rw [join_drop_in hu a ha, gap_out _ _ _ h2, h3, List.length_drop]
  omega

theorem place_in {s t u : ByteArray} (hu : u.data.toList = s.data.toList ++ 10 :: t.data.toList) (a : Nat) (ha : a ≤ s.size) (he : ¬ s.size ≤ place s a) : place u a = place s a := by
  have e2 : s.data.toList.length = s.size := rfl
  unfold place at he ⊢
  rw [join_drop_in hu a ha, gap_in _ _ _ (by rw [List.length_drop]; omega)]

theorem lexFrom_join {s t u : ByteArray} (hu : u.data.toList = s.data.toList ++ 10 :: t.data.toList) : ∀ (f F a : Nat), a ≤ s.size → s.size - a < f → u.size - a < F → (lexFrom f s a).2.1 = 0 →
    (lexFrom F u a).1 = (lexFrom f s a).1 ++ (lexFrom (u.size + 1) u (s.size + 1)).1 ∧ (lexFrom F u a).2 = (lexFrom (u.size + 1) u (s.size + 1)).2
  | 0, _, a, _, h, _, _ => by omega
  | f + 1, 0, a, _, _, h, _ => by omega
  | f + 1, F + 1, a, ha, hf, hF0, h0 => by
    have hsz := join_size hu
    by_cases he : s.size ≤ place s a
    · have hp := place_out hu a ha he
      have e : lexFrom (F + 1) u a = lexFrom (F + 1) u (s.size + 1) := by rw [lexFrom, lexFrom, hp]
      rw [e, lexFrom_end rfl he, lexFrom_fuel (F + 1) (u.size + 1) u (s.size + 1) (by omega) (by omega) (by omega)]
      simp
    · obtain ⟨E, K, N, M, hF⟩ : ∃ E K N M, firstL (s.data.toList.drop (place s a)) = (E, K, N, M) := ⟨_, _, _, _, rfl⟩
      have hp := place_in hu a ha he
      have hF' : firstL (u.data.toList.drop (place s a)) = (E, K, N, M) := by
        rw [join_drop_in hu _ (by omega), firstL_join _ _ ?_]
        · exact hF
        · intro e
          have := congrArg List.length e
          have e2 : s.data.toList.length = s.size := rfl
          rw [List.length_drop] at this
          simp at this
          omega
      by_cases hE : E = 0
      · subst hE
        have hl := firstL_len hF
        have hN := (firstL_pos hF).1
        have hsd : s.data.size = s.size := rfl
        simp only [List.length_drop, Array.length_toList] at hl
        have hpl : a ≤ place s a := by unfold place; omega
        rw [lexFrom_tok rfl he hF] at h0 ⊢
        rw [lexFrom_tok hp (by omega) hF', extract_in hu _ _ (by omega)]
        have ih := lexFrom_join hu f F (place s a + N) (by omega) (by omega) (by omega) h0
        exact ⟨by simp only [List.cons_append, ih.1], ih.2⟩
      · rw [lexFrom_err rfl he hF hE] at h0
        exact absurd h0 hE

theorem lexB_join {s t u : ByteArray} (hu : u.data.toList = s.data.toList ++ 10 :: t.data.toList) (hm : u.size ≤ 6000) (hs : (lexB s).2.1 = 0) (ht : (lexB t).2.1 = 0) : (lexB u).2.1 = 0 ∧ (lexB u).1 = (lexB s).1 ++ (lexB t).1.map (shift (s.size + 1)) := by
  have hsz := join_size hu
  have good : ∀ x : ByteArray, x.size ≤ 6000 → (lexB x).2.1 = 0 → (lexFrom (x.size + 1) x 0).2.1 = 0 ∧ lexB x = lexFrom (x.size + 1) x 0 := by
    intro x hx h
    unfold lexB at h ⊢
    rw [if_neg (by omega)] at h ⊢
    by_cases h1 : (lexFrom (x.size + 1) x 0).2.1 = 0
    · exact ⟨h1, by rw [if_pos h1]⟩
    · rw [if_neg h1] at h; exact absurd h h1
  obtain ⟨hs1, hs2⟩ := good s (by omega) hs
  obtain ⟨ht1, ht2⟩ := good t (by omega) ht
  have j := lexFrom_join hu (s.size + 1) (u.size + 1) 0 (Nat.zero_le _) (by omega) (by omega) hs1
  have k := lexFrom_shift hu (t.size + 1) 0 ht1
  simp only [Nat.add_zero] at k
  rw [lexFrom_fuel (t.size + 1) (u.size + 1) u (s.size + 1) (by omega) (by omega) (by omega)] at k
  rw [k.1, k.2] at j
  have hz : (lexFrom (u.size + 1) u 0).2.1 = 0 := by rw [j.2]; exact ht1
  have hb : lexB u = lexFrom (u.size + 1) u 0 := by unfold lexB; rw [if_neg (by omega), if_pos hz]
  exact ⟨by rw [hb]; exact hz, by rw [hb, j.1, hs2, ht2]⟩

end Lx
end Go.Proofs.Ytfmkhdncbdkpoaa
