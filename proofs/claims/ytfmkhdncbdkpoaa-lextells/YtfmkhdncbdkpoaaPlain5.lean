/- What the tokens cover of their text. -/
import Derived.Test.YtfmkhdncbdkpoaaPlain4
namespace Go.Proofs.Ytfmkhdncbdkpoaa
namespace Lx

/-- From place a on the tokens l stand in order, with nothing but gaps between. -/
def Covered (s : ByteArray) : Nat → List Tk → Prop
  | a, [] => s.size ≤ place s a
  | a, t :: l => ∃ N, t.pos = place s a ∧ 0 < N ∧ t.pos + N ≤ s.size ∧ t.text = s.extract t.pos (t.pos + N) ∧ Covered s (t.pos + N) l

theorem covered_from : ∀ (f : Nat) (s : ByteArray) (a : Nat), a ≤ s.size → s.size - a < f → (lexFrom f s a).2.1 = 0 → Covered s a (lexFrom f s a).1
  | 0, s, a, _, h, _ => by omega
  | f + 1, s, a, ha, h, h0 => by
    by_cases he : s.size ≤ place s a
    · rw [lexFrom_end rfl he]; exact he
    · obtain ⟨E, K, N, M, hF⟩ : ∃ E K N M, firstL (s.data.toList.drop (place s a)) = (E, K, N, M) := ⟨_, _, _, _, rfl⟩
      by_cases hE : E = 0
      · subst hE
        have hl := firstL_len hF
        have hN := (firstL_pos hF).1
        have hsz : s.data.size = s.size := rfl
        simp only [List.length_drop, Array.length_toList] at hl
        have hpl : a ≤ place s a := by unfold place; omega
        rw [lexFrom_tok rfl he hF] at h0 ⊢
        exact ⟨N, rfl, hN, by show place s a + N ≤ s.size; omega, rfl, covered_from f s (place s a + N) (by omega) (by omega) h0⟩
      · rw [lexFrom_err rfl he hF hE] at h0
        exact absurd h0 hE

theorem lexB_covered (s : ByteArray) (h0 : (lexB s).2.1 = 0) : Covered s 0 (lexB s).1 := by
  unfold lexB at h0 ⊢
  split
  · rename_i h; rw [if_pos h] at h0; simp at h0
  · rename_i h
    rw [if_neg h] at h0
    split
    · rename_i h1; exact covered_from _ s 0 (Nat.zero_le _) (by omega) h1
    · rename_i h1; rw [if_neg h1] at h0; exact absurd h0 h1

theorem lexB_bad_nil (s : ByteArray) (h0 : ¬ (lexB s).2.1 = 0) : (lexB s).1 = [] := by
  unfold lexB at h0 ⊢
  split
  · rfl
  · rename_i h
    rw [if_neg h] at h0
    split
    · rename_i h1; rw [if_pos h1] at h0; exact absurd h1 h0
    · rfl

theorem lexFrom_len : ∀ (f : Nat) (s : ByteArray) (a : Nat), (lexFrom f s a).1.length ≤ f
  | 0, s, a => by simp [lexFrom]
  | f + 1, s, a => by
    rw [lexFrom]
    split
    · simp
    · split
      · have := lexFrom_len f s (place s a + (firstL (s.data.toList.drop (place s a))).2.2.1)
        simp; omega
      · simp

theorem lexB_len (s : ByteArray) : (lexB s).1.length ≤ 6001 := by
  unfold lexB
  split
  · simp
  · have := lexFrom_len (s.size + 1) s 0
    split
    · omega
    · simp

end Lx
end Go.Proofs.Ytfmkhdncbdkpoaa
