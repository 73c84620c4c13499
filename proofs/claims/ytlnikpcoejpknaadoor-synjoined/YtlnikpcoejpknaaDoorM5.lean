/- The walks of number and first. -/
import Derived.Test.YtlnikpcoejpknaaDoorM4
import Derived.Test.YtlnikpcoejpknaaDoorM3
namespace Go.Proofs.YtlnikpcoejpknaaDoor
open Go.RowKit

/-! A block of four cells. -/
theorem four_cell {w : World} {b : Nat} {v0 v1 v2 v3 : Value} {t : TypeId} (h : w.heap[b]? = some (.cells #[v0, v1, v2, v3] t (0, 0))) :
    w.cell? ⟨b, 0, none⟩ = some v0 ∧ w.cell? ⟨b, 1, none⟩ = some v1 ∧ w.cell? ⟨b, 2, none⟩ = some v2 ∧ w.cell? ⟨b, 3, none⟩ = some v3 := by simp [World.cell?, h]
theorem four_free {w : World} {b : Nat} {v0 v1 v2 v3 : Value} {t : TypeId} (h : w.heap[b]? = some (.cells #[v0, v1, v2, v3] t (0, 0))) :
    w.frozen? ⟨b, 0, none⟩ = false ∧ w.frozen? ⟨b, 1, none⟩ = false ∧ w.frozen? ⟨b, 2, none⟩ = false ∧ w.frozen? ⟨b, 3, none⟩ = false := by simp [World.frozen?, h]

theorem heap_set_same {w : World} {b o : Nat} {cs : Array Value} {t : TypeId} {m : Nat × Nat} (h : w.heap[b]? = some (.cells cs t m)) (u : Value) : (w.setCell ⟨b, o, none⟩ u).heap[b]? = some (.cells (cs.setIfInBounds o u) t m) := by
  have hlt := lt_of_block h
  have h' : w.heap[b] = .cells cs t m := by simpa [Array.getElem?_eq_getElem hlt] using h
  show (w.heap.modify b _)[b]? = _
  rw [Array.getElem?_eq_getElem (by simpa using hlt), Array.getElem_modify_self, h']
  rfl

theorem four_set2 {w : World} {b : Nat} {v0 v1 v2 v3 : Value} {t : TypeId} (h : w.heap[b]? = some (.cells #[v0, v1, v2, v3] t (0, 0))) (u : Value) :
    (w.setCell ⟨b, 2, none⟩ u).heap[b]? = some (.cells #[v0, v1, u, v3] t (0, 0)) := by rw [heap_set_same h]; rfl

set_option maxHeartbeats 400000 in
theorem number_long (s : ByteArray) (w : World) (hs : s.size ≤ maxLen) (h15 : 15 < s.size) :
    Calls Tryd.prog 100 #[.string s] w fun e w' => e = .returned (.tuple #[.agg #[.int .i64 0, .string ⟨#[]⟩, .int .i64 0, .int .i64 0], .int .i64 3]) ∧ Below w.heap.size w w' := by
  unfold maxLen at hs
  go_enter Tryd.func100, Tryd.ntmps100
  go_wp2
  refine bodyPost_ret (v := .tuple #[.agg #[.int .i64 0, .string ⟨#[]⟩, .int .i64 0, .int .i64 0], .int .i64 3]) (by simp [results, Tryd.results100, go_sem]) rfl ⟨rfl, ?_⟩
  exact (Below.refl _ w).alloc (Nat.le_refl _) _

theorem num_step (s : ByteArray) (k : Nat) (h : k < s.size) : Lx.numL (s.data.toList.take (k + 1)) = Lx.numL (s.data.toList.take k) * 10 + (s[k].toNat - 48) := by
  rw [take_snoc s k h, Lx.numL_snoc]

theorem num_le (s : ByteArray) (k : Nat) (hk : k ≤ 15) (hd : ∀ c ∈ s.data.toList, Lx.isDig c = true) : Lx.numL (s.data.toList.take k) ≤ 1000000000000000 := by
  have h := Lx.numL_lt (s.data.toList.take k) (fun c hc => hd c (List.mem_of_mem_take hc))
  have h2 : (s.data.toList.take k).length ≤ 15 := Nat.le_trans (List.length_take_le _ _) hk
  have h3 : 10 ^ (s.data.toList.take k).length ≤ 10 ^ 15 := Nat.pow_le_pow_right (by decide) h2
  have h4 : (10 : Nat) ^ 15 = 1000000000000000 := by decide
  omega

theorem dig_bd (s : ByteArray) (k : Nat) (h : k < s.size) (hd : ∀ c ∈ s.data.toList, Lx.isDig c = true) : 48 ≤ s[k].toNat ∧ s[k].toNat ≤ 57 := by
  have := hd s[k] (List.getElem_mem (l := s.data.toList) (by simpa using h))
  exact of_decide_eq_true this

theorem below_set {B : Nat} {a w : World} (h : Below B a w) {b o : Nat} (hb : B ≤ b) (u : Value) : Below B a (w.setCell ⟨b, o, none⟩ u) := h.setCell (p := ⟨b, o, none⟩) hb u

set_option maxHeartbeats 1000000 in
theorem number_short (s : ByteArray) (w : World) (h15 : s.size ≤ 15) (hd : ∀ c ∈ s.data.toList, Lx.isDig c = true) :
    Calls Tryd.prog 100 #[.string s] w fun e w' => e = .returned (.tuple #[.agg #[.int .i64 2, .string s, .int .i64 (Lx.numL s.data.toList : Nat), .int .i64 0], .int .i64 0]) ∧ Below w.heap.size w w' := by
  have HD : Hid (∀ c ∈ s.data.toList, Lx.isDig c = true) := hd
  clear hd
  have hdec : decide ((15 : Int) < (s.size : Int)) = false := by simp; omega
  go_enter Tryd.func100, Tryd.ntmps100
  go_wp2_with fail
  refine (token_any _ _ _ (by omega)).mono ?_
  rintro e w1 ⟨rfl, hb⟩
  have hR : w1.heap[w.heap.size]? = some (.cells #[.int .i64 0, .string ⟨#[]⟩, .int .i64 0, .int .i64 0] 103 (0, 0)) := by
    rw [hb.block _ (by simp)]; exact heap_alloc_new w _
  have hB : Below w.heap.size w w1 := ((Below.refl _ w).alloc (Nat.le_refl _) _).trans (hb.mono (by simp))
  have hlt1 : w.heap.size < w1.heap.size := lt_of_block hR
  have HR : Hid (w1.heap[w.heap.size]? = some (.cells #[.int .i64 0, .string ⟨#[]⟩, .int .i64 0, .int .i64 0] 103 (0, 0))) := hR
  clear hR hb
  go_wp2
  go_loopw [14] (fun i wr => ∃ k : Nat, k ≤ s.size ∧ i = .int .i64 k ∧ wr.heap[w1.heap.size]? = some (.cells #[.int .i64 2, .string s, .int .i64 (Lx.numL (s.data.toList.take k) : Nat), .int .i64 0] 103 (0, 0)) ∧ wr.heap[w.heap.size]? = some (.cells #[.int .i64 0, .string ⟨#[]⟩, .int .i64 0, .int .i64 0] 103 (0, 0)) ∧ Below w.heap.size w wr) (fun i _ => s.size - (intOf i).toNat)
  case atStart => exact ⟨0, Nat.zero_le _, rfl, heap_alloc_new w1 _, by rw [Below.heap_alloc _ _ _ hlt1]; exact HR.out, hB.alloc (Nat.le_of_lt hlt1) _⟩
  case round =>
    obtain ⟨k, hk, rfl, hT, hR, hbel⟩ := hrel
    obtain ⟨c0, c1, c2, c3⟩ := four_cell hT
    obtain ⟨f0, f1, f2, f3⟩ := four_free hT
    have hNb := num_le s k (by omega) HD.out
    obtain ⟨N, hN⟩ : ∃ N, N = Lx.numL (s.data.toList.take k) := ⟨_, rfl⟩
    rw [← hN] at c2 hNb hT
    have HN : Hid (N = Lx.numL (s.data.toList.take k)) := hN
    have HT : Hid (wr.heap[w1.heap.size]? = some (.cells #[.int .i64 2, .string s, .int .i64 (N : Nat), .int .i64 0] 103 (0, 0))) := hT
    have HR2 : Hid (wr.heap[w.heap.size]? = some (.cells #[.int .i64 0, .string ⟨#[]⟩, .int .i64 0, .int .i64 0] 103 (0, 0))) := hR
    obtain ⟨d0, d1, d2, d3⟩ := four_cell hR
    obtain ⟨g0, g1, g2, g3⟩ := four_free hR
    clear hN hT hR
    by_cases hlt : k < s.size
    · have hdb := dig_bd s k hlt HD.out
      go_wp2
      go_region
      all_goals go_wp2
      go_roundw
      case rel =>
        refine ⟨k + 1, by omega, by go_num, ?_, ?_, (below_set hbel (Nat.le_of_lt hlt1) _).drew⟩
        · show (wr.setCell ⟨w1.heap.size, 2, none⟩ _).heap[w1.heap.size]? = _
          rw [four_set2 HT.out, num_step s k hlt, ← HN.out]
          have e : (N : Int) * 10 + ((s[k].toNat : Int) - 48) = ((N * 10 + (s[k].toNat - 48) : Nat) : Int) := by omega
          rw [e]
        · show (wr.setCell ⟨w1.heap.size, 2, none⟩ _).heap[w.heap.size]? = _
          rw [Below.heap_setCell _ _ _ _ (by show w.heap.size ≠ w1.heap.size; omega)]; exact HR2.out
      case measure => simp [intOf]; omega
    · go_wp2
      refine bodyPost_ret (v := .tuple #[.agg #[.int .i64 2, .string s, .int .i64 (N : Nat), .int .i64 0], .int .i64 0]) (by simp [results, Tryd.results100, go_sem, d0, d1, d2, d3]) rfl ⟨?_, below_set4 hbel (Nat.le_refl _) _ _ _ _⟩
      rw [HN.out, List.take_of_length_le (by simp; omega)]

theorem extract_size (s : ByteArray) (n : Nat) (h : n ≤ s.size) : (s.extract 0 n).size = n := by simp; omega

theorem extract_list (s : ByteArray) (n : Nat) : (s.extract 0 n).data.toList = s.data.toList.take n := by
  rw [ByteArray.data_extract]; simp

set_option maxHeartbeats 400000 in
theorem first_word (s : ByteArray) (w : World) (h0 : 0 < s.size) (hs : s.size ≤ 6000) (hl : Lx.isLet s[0] = true) :
    Calls Tryd.prog 71 #[.string s] w fun e w' => e = .returned (.tuple #[.agg #[.int .i64 1, .string (s.extract 0 (Lx.span Lx.isWrd s.data.toList)), .int .i64 0, .int .i64 0], .int .i64 0]) ∧ Below w.heap.size w w' := by
  have hsp2 : Lx.span Lx.isWrd s.data.toList ≤ s.size := by simpa using Lx.span_le Lx.isWrd s.data.toList
  go_enter Tryd.func71, Tryd.ntmps71
  go_wp2_with fail
  refine (isLetter_any _ _).mono ?_
  rintro e w1 ⟨rfl, rfl⟩
  go_wp2_with fail
  refine (run_word s _ (by unfold maxLen; omega)).mono ?_
  rintro e w1 ⟨rfl, rfl⟩
  go_wp2_with fail
  refine (token_any _ _ _ (by rw [extract_size _ _ hsp2]; omega)).mono ?_
  rintro e w1 ⟨rfl, hb⟩
  obtain ⟨hc, hf⟩ := bcell hb
  have hlt : w.heap.size < w1.heap.size := by have := hb.size; simp at this; omega
  go_wp2
  refine bodyPost_ret (v := .tuple #[.agg #[.int .i64 1, .string (s.extract 0 (Lx.span Lx.isWrd s.data.toList)), .int .i64 0, .int .i64 0], .int .i64 0]) (by simp [results, Tryd.results71, go_sem, hc]) rfl ⟨rfl, ?_⟩
  exact below_set4 (((Below.refl _ w).alloc (Nat.le_refl _) _).trans (hb.mono (by simp))) (Nat.le_refl _) _ _ _ _

set_option maxHeartbeats 400000 in
theorem first_long (s : ByteArray) (w : World) (h0 : 0 < s.size) (hs : s.size ≤ 6000) (hl : Lx.isLet s[0] = false) (hd : Lx.isDig s[0] = true) (h15 : 15 < Lx.span Lx.isDig s.data.toList) :
    Calls Tryd.prog 71 #[.string s] w fun e w' => e = .returned (.tuple #[.agg #[.int .i64 0, .string ⟨#[]⟩, .int .i64 0, .int .i64 0], .int .i64 3]) ∧ Below w.heap.size w w' := by
  have hsp2 : Lx.span Lx.isDig s.data.toList ≤ s.size := by simpa using Lx.span_le Lx.isDig s.data.toList
  go_enter Tryd.func71, Tryd.ntmps71
  go_wp2_with fail
  refine (isLetter_any _ _).mono ?_
  rintro e w1 ⟨rfl, rfl⟩
  go_wp2_with fail
  refine (isDigit_any _ _).mono ?_
  rintro e w1 ⟨rfl, rfl⟩
  go_wp2_with fail
  refine (run_digit s _ (by unfold maxLen; omega)).mono ?_
  rintro e w1 ⟨rfl, rfl⟩
  go_wp2_with fail
  refine (number_long _ _ (by rw [extract_size _ _ hsp2]; unfold maxLen; omega) (by rw [extract_size _ _ hsp2]; omega)).mono ?_
  rintro e w1 ⟨rfl, hb⟩
  obtain ⟨hc, hf⟩ := bcell hb
  have hlt : w.heap.size < w1.heap.size := by have := hb.size; simp at this; omega
  go_wp2
  refine bodyPost_ret (v := .tuple #[.agg #[.int .i64 0, .string ⟨#[]⟩, .int .i64 0, .int .i64 0], .int .i64 3]) (by simp [results, Tryd.results71, go_sem, hc]) rfl ⟨rfl, ?_⟩
  exact below_set4 (((Below.refl _ w).alloc (Nat.le_refl _) _).trans (hb.mono (by simp))) (Nat.le_refl _) _ _ _ _

set_option maxHeartbeats 400000 in
theorem first_num (s : ByteArray) (w : World) (h0 : 0 < s.size) (hs : s.size ≤ 6000) (hl : Lx.isLet s[0] = false) (hd : Lx.isDig s[0] = true) (h15 : Lx.span Lx.isDig s.data.toList ≤ 15) :
    Calls Tryd.prog 71 #[.string s] w fun e w' => e = .returned (.tuple #[.agg #[.int .i64 2, .string (s.extract 0 (Lx.span Lx.isDig s.data.toList)), .int .i64 (Lx.numL (s.extract 0 (Lx.span Lx.isDig s.data.toList)).data.toList : Nat), .int .i64 0], .int .i64 0]) ∧ Below w.heap.size w w' := by
  have hsp2 : Lx.span Lx.isDig s.data.toList ≤ s.size := by simpa using Lx.span_le Lx.isDig s.data.toList
  go_enter Tryd.func71, Tryd.ntmps71
  go_wp2_with fail
  refine (isLetter_any _ _).mono ?_
  rintro e w1 ⟨rfl, rfl⟩
  go_wp2_with fail
  refine (isDigit_any _ _).mono ?_
  rintro e w1 ⟨rfl, rfl⟩
  go_wp2_with fail
  refine (run_digit s _ (by unfold maxLen; omega)).mono ?_
  rintro e w1 ⟨rfl, rfl⟩
  go_wp2_with fail
  refine (number_short _ _ (by rw [extract_size _ _ hsp2]; omega) (by rw [extract_list]; exact Lx.take_span_all _ _)).mono ?_
  rintro e w1 ⟨rfl, hb⟩
  obtain ⟨hc, hf⟩ := bcell hb
  have hlt : w.heap.size < w1.heap.size := by have := hb.size; simp at this; omega
  go_wp2
  refine bodyPost_ret (v := .tuple #[.agg #[.int .i64 2, .string (s.extract 0 (Lx.span Lx.isDig s.data.toList)), .int .i64 (Lx.numL (s.extract 0 (Lx.span Lx.isDig s.data.toList)).data.toList : Nat), .int .i64 0], .int .i64 0]) (by simp [results, Tryd.results71, go_sem, hc]) rfl ⟨rfl, ?_⟩
  exact below_set4 (((Below.refl _ w).alloc (Nat.le_refl _) _).trans (hb.mono (by simp))) (Nat.le_refl _) _ _ _ _

set_option maxHeartbeats 400000 in
theorem first_none (s : ByteArray) (w : World) (h0 : 0 < s.size) (_hs : s.size ≤ 6000) (hl : Lx.isLet s[0] = false) (hd : Lx.isDig s[0] = false) (hz : Lx.signL s.data.toList = 0) :
    Calls Tryd.prog 71 #[.string s] w fun e w' => e = .returned (.tuple #[.agg #[.int .i64 0, .string ⟨#[]⟩, .int .i64 0, .int .i64 0], .int .i64 2]) ∧ Below w.heap.size w w' := by
  go_enter Tryd.func71, Tryd.ntmps71
  go_wp2_with fail
  refine (isLetter_any _ _).mono ?_
  rintro e w1 ⟨rfl, rfl⟩
  go_wp2_with fail
  refine (isDigit_any _ _).mono ?_
  rintro e w1 ⟨rfl, rfl⟩
  go_wp2_with fail
  refine (signLen_any _ _ h0).mono ?_
  rintro e w1 ⟨rfl, rfl⟩
  go_wp2
  refine bodyPost_ret (v := .tuple #[.agg #[.int .i64 0, .string ⟨#[]⟩, .int .i64 0, .int .i64 0], .int .i64 2]) (by simp [results, Tryd.results71, go_sem]) rfl ⟨rfl, ?_⟩
  exact (Below.refl _ w).alloc (Nat.le_refl _) _

set_option maxHeartbeats 400000 in
theorem first_sign (s : ByteArray) (w : World) (h0 : 0 < s.size) (hs : s.size ≤ 6000) (hl : Lx.isLet s[0] = false) (hd : Lx.isDig s[0] = false) (hz : Lx.signL s.data.toList ≠ 0) :
    Calls Tryd.prog 71 #[.string s] w fun e w' => e = .returned (.tuple #[.agg #[.int .i64 3, .string (s.extract 0 (Lx.signL s.data.toList)), .int .i64 0, .int .i64 0], .int .i64 0]) ∧ Below w.heap.size w w' := by
  have hsp2 : Lx.signL s.data.toList ≤ s.size := by simpa using Lx.signL_le s.data.toList
  have hz' : ((Lx.signL s.data.toList : Nat) : Int) ≠ 0 := by omega
  have hzb : (((Lx.signL s.data.toList : Nat) : Int) == 0) = false := by simp; omega
  go_enter Tryd.func71, Tryd.ntmps71
  go_wp2_with fail
  refine (isLetter_any _ _).mono ?_
  rintro e w1 ⟨rfl, rfl⟩
  go_wp2_with fail
  refine (isDigit_any _ _).mono ?_
  rintro e w1 ⟨rfl, rfl⟩
  go_wp2_with fail
  refine (signLen_any _ _ h0).mono ?_
  rintro e w1 ⟨rfl, rfl⟩
  go_wp2_with fail
  refine (token_any _ _ _ (by rw [extract_size _ _ hsp2]; omega)).mono ?_
  rintro e w1 ⟨rfl, hb⟩
  obtain ⟨hc, hf⟩ := bcell hb
  have hlt : w.heap.size < w1.heap.size := by have := hb.size; simp at this; omega
  go_wp2
  refine bodyPost_ret (v := .tuple #[.agg #[.int .i64 3, .string (s.extract 0 (Lx.signL s.data.toList)), .int .i64 0, .int .i64 0], .int .i64 0]) (by simp [results, Tryd.results71, go_sem, hc]) rfl ⟨rfl, ?_⟩
  exact below_set4 (((Below.refl _ w).alloc (Nat.le_refl _) _).trans (hb.mono (by simp))) (Nat.le_refl _) _ _ _ _

end Go.Proofs.YtlnikpcoejpknaaDoor

/- How long a first token is. -/
namespace Go.Proofs.YtlnikpcoejpknaaDoor
namespace Lx

theorem firstL_len {l : List UInt8} {E K N M : Nat} (h : firstL l = (E, K, N, M)) : N ≤ l.length := by
  match l with
  | [] => simp [firstL] at h; omega
  | c :: r =>
    have h1 := span_le isWrd (c :: r)
    have h2 := span_le isDig (c :: r)
    have h3 := signL_le (c :: r)
    simp only [firstL] at h
    split at h
    · simp only [Prod.mk.injEq] at h; omega
    · split at h
      · split at h <;> simp only [Prod.mk.injEq] at h <;> omega
      · split at h <;> simp only [Prod.mk.injEq] at h <;> omega

theorem span_pos {p : UInt8 → Bool} {c : UInt8} {r : List UInt8} (h : p c = true) : 0 < span p (c :: r) := by
  unfold span; rw [List.takeWhile_cons, if_pos h]; simp

theorem firstL_pos {l : List UInt8} {K N M : Nat} (h : firstL l = (0, K, N, M)) : 0 < N ∧ 0 < K := by
  match l with
  | [] => simp [firstL] at h
  | c :: r =>
    simp only [firstL] at h
    split at h
    · rename_i hl
      have := span_pos (p := isWrd) (c := c) (r := r) (by simp [isWrd, hl])
      simp only [Prod.mk.injEq] at h; omega
    · split at h
      · rename_i hd
        have := span_pos (p := isDig) (c := c) (r := r) hd
        split at h <;> simp only [Prod.mk.injEq] at h <;> omega
      · split at h <;> simp only [Prod.mk.injEq] at h <;> omega

end Lx

theorem extract_to_end (s : ByteArray) (p : Nat) : (s.extract p s.size).data.toList = s.data.toList.drop p := by
  rw [ByteArray.data_extract]
  simp only [Array.toList_extract, List.extract_eq_take_drop]
  exact List.take_of_length_le (by simp)

theorem extract_of_rest (s : ByteArray) (p N : Nat) (h : N ≤ s.size - p) : (s.extract p s.size).extract 0 N = s.extract p (p + N) := by
  apply ByteArray.ext
  apply Array.toList_inj.1
  simp only [ByteArray.data_extract, Array.toList_extract, List.extract_eq_take_drop, List.drop_zero, Nat.sub_zero]
  have e : p + N - p = N := by omega
  rw [e, List.take_take]
  congr 1
  have : s.data.size = s.size := rfl
  omega

end Go.Proofs.YtlnikpcoejpknaaDoor

