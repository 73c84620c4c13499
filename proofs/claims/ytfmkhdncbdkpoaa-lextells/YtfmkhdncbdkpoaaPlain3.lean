/- How long a first token is. -/
import Derived.Test.YtfmkhdncbdkpoaaPlain2
namespace Go.Proofs.Ytfmkhdncbdkpoaa
namespace Lx

theorem firstL_len {l : List UInt8} {E K N M : Nat} (h : firstL l = (E, K, N, M)) : N ≤ l.length := by
  match l with
  | [] => simp [firstL] at h; omega
  | c :: r =>
    have h1 := span_le isWrd (c :: r)
    have h2 := span_le isDig (c :: r)
    have h3 := signL_le (c :: r)
    simp only [firstL] at h
    split at h
    · simp only [Prod.mk.injEq] at h; omega
    · split at h
      · split at h <;> simp only [Prod.mk.injEq] at h <;> omega
      · split at h <;> simp only [Prod.mk.injEq] at h <;> omega

theorem span_pos {p : UInt8 → Bool} {c : UInt8} {r : List UInt8} (h : p c = true) : 0 < span p (c :: r) := by
  unfold span; rw [List.takeWhile_cons, if_pos h]; simp

theorem firstL_pos {l : List UInt8} {K N M : Nat} (h : firstL l = (0, K, N, M)) : 0 < N ∧ 0 < K := by
  match l with
  | [] => simp [firstL] at h
  | c :: r =>
    simp only [firstL] at h
    split at h
    · rename_i hl
      have := span_pos (p := isWrd) (c := c) (r := r) (by simp [isWrd, hl])
      simp only [Prod.mk.injEq] at h; omega
    · split at h
      · rename_i hd
        have := span_pos (p := isDig) (c := c) (r := r) hd
        split at h <;> simp only [Prod.mk.injEq] at h <;> omega
      · split at h <;> simp only [Prod.mk.injEq] at h <;> omega

end Lx

theorem extract_to_end (s : ByteArray) (p : Nat) : (s.extract p s.size).data.toList = s.data.toList.drop p := by
  rw [ByteArray.data_extract]
  simp only [Array.toList_extract, List.extract_eq_take_drop]
  exact List.take_of_length_le (by simp)

theorem extract_of_rest (s : ByteArray) (p N : Nat) (h : N ≤ s.size - p) : (s.extract p s.size).extract 0 N = s.extract p (p + N) := by
  apply ByteArray.ext
  apply Array.toList_inj.1
  simp only [ByteArray.data_extract, Array.toList_extract, List.extract_eq_take_drop, List.drop_zero, Nat.sub_zero]
  have e : p + N - p = N := by omega
  rw [e, List.take_take]
  congr 1
  have : s.data.size = s.size := rfl
  omega

end Go.Proofs.Ytfmkhdncbdkpoaa
