/- The walks of the small byte tests and of run. -/
import Derived.Test.YtlnikpcoejpknaaDoorM2
import Derived.Test.YtlnikpcoejpknaaDoorM1
import Derived.WalkKit
import Derived.WalkSpells
import Derived.WalkLawsBesides
namespace Go.Proofs.YtlnikpcoejpknaaDoor
open Go.RowKit

set_option maxHeartbeats 400000 in
theorem isBlank_any (c : UInt8) (w : World) :
    Calls Tryd.prog 97 #[.int .u8 (c.toNat : Int)] w fun e w' => e = .returned (.bool (Lx.isBlk c)) ∧ w' = w := by
  go_enter Tryd.func97, Tryd.ntmps97
  go_wp2
  all_goals go_ret
  all_goals refine ⟨ret_bool ?_, rfl⟩
  all_goals unfold Lx.isBlk; rw [Bool.eq_iff_iff]; simp; omega

set_option maxHeartbeats 400000 in
theorem run_digit (s : ByteArray) (w : World) (hs : s.size ≤ maxLen) :
    Calls Tryd.prog 91 #[.string s, .func (.func 99) #[] #[]] w fun e w' => e = .returned (.int .i64 (Lx.span Lx.isDig s.data.toList : Nat)) ∧ w' = w := by
  unfold maxLen at hs
  go_enter Tryd.func91, Tryd.ntmps91
  go_wp2
  go_loop [5] (fun i => ∃ k : Nat, k ≤ s.size ∧ i = .int .i64 k ∧ (s.data.toList.take k).all Lx.isDig = true) (fun i => s.size - (intOf i).toNat)
  case atStart => exact ⟨0, Nat.zero_le _, rfl, rfl⟩
  case round =>
    obtain ⟨k, hk, rfl, hall⟩ := hrel
    have HA : Hid ((s.data.toList.take k).all Lx.isDig = true) := hall
    clear hall
    by_cases hlt : k < s.size
    · cases hp : Lx.isDig s[k]
      · have HP : Hid (Lx.isDig s[k] = false) := hp
        go_wp2_with (go_at_call 99; refine (isDigit_any _ _).mono ?_; rintro e w' ⟨rfl, rfl⟩)
        go_ret
        exact ⟨ret_int (by rw [span_of _ s k HA.out hk (fun _ => HP.out)]), rfl⟩
      · have HP : Hid (Lx.isDig s[k] = true) := hp
        go_wp2_with (go_at_call 99; refine (isDigit_any _ _).mono ?_; rintro e w' ⟨rfl, rfl⟩)
        go_round
        case rel => exact ⟨k + 1, by omega, by go_num, by rw [take_snoc s k hlt]; exact Lx.all_snoc _ _ _ HA.out HP.out⟩
        case measure => simp [intOf]; omega
    · go_wp2
      go_ret
      exact ⟨ret_int (by rw [span_of _ s k HA.out hk (fun h => absurd h hlt)]), rfl⟩

theorem drop_byte (s : ByteArray) (k : Nat) (h : k < s.size) : s.data.toList.drop k = s[k] :: s.data.toList.drop (k + 1) := by
  rw [List.drop_eq_getElem_cons (by simpa using h)]; rfl

set_option maxHeartbeats 400000 in
theorem gapf_any (c : UInt8) (r : Bool) (B : Nat) (w : World) (hB : w.heap[B]? = some (.cells #[.bool r] 4 (0, 0))) :
    Calls Tryd.prog 96 #[.int .u8 (c.toNat : Int), .pointer (some ⟨B, 0, none⟩)] w fun e w' => e = .returned (.bool (Lx.rem1 r c || Lx.isBlk c)) ∧ w'.heap[B]? = some (.cells #[.bool (Lx.rem1 r c)] 4 (0, 0)) ∧ w.grownBy w' (some B) := by
  have hc := cell_of_one hB
  have hf := free_of_one hB
  have HB : Hid (w.heap[B]? = some (.cells #[.bool r] 4 (0, 0))) := hB
  clear hB
  by_cases h10 : c.toNat = 10
  · have H10 : Hid (c.toNat = 10) := h10
    have e1 : ((c.toNat : Int) == 35) = false := by simp; omega
    have e2 : ((c.toNat : Int) == 10) = true := by simp; omega
    have hblk : Lx.isBlk c = true := Lx.blk_t (by omega)
    clear h10
    go_enter Tryd.func96, Tryd.ntmps96
    go_wp2_with (go_at_call 97; refine (isBlank_any _ _).mono ?_; rintro e w' ⟨rfl, rfl⟩)
    go_ret
    refine ⟨ret_bool (by simp [hblk]), ?_, grown_set _ _ _⟩
    rw [one_setCell HB.out]; simp [Lx.rem1, H10.out]
  · by_cases h35 : c.toNat = 35
    · have H35 : Hid (c.toNat = 35) := h35
      have e1 : ((c.toNat : Int) == 35) = true := by simp; omega
      have e2 : ((c.toNat : Int) == 10) = false := by simp; omega
      clear h35 h10
      go_enter Tryd.func96, Tryd.ntmps96
      go_wp2_with (go_at_call 97; refine (isBlank_any _ _).mono ?_; rintro e w' ⟨rfl, rfl⟩)
      go_ret
      refine ⟨ret_bool (by simp [Lx.rem1, H35.out]), ?_, grown_set _ _ _⟩
      rw [one_setCell HB.out]; simp [Lx.rem1, H35.out]
    · have e1 : ((c.toNat : Int) == 35) = false := by simp; omega
      have e2 : ((c.toNat : Int) == 10) = false := by simp; omega
      have hr : Lx.rem1 r c = r := by simp [Lx.rem1, h10, h35]
      have HR : Hid (Lx.rem1 r c = r) := hr
      clear h35 h10 hr
      cases r
      · go_enter Tryd.func96, Tryd.ntmps96
        go_wp2_with (go_at_call 97; refine (isBlank_any _ _).mono ?_; rintro e w' ⟨rfl, rfl⟩)
        go_ret
        exact ⟨ret_bool (by rw [HR.out]; rfl), by rw [HR.out]; exact HB.out, grown_refl _ _⟩
      · go_enter Tryd.func96, Tryd.ntmps96
        go_wp2_with (go_at_call 97; refine (isBlank_any _ _).mono ?_; rintro e w' ⟨rfl, rfl⟩)
        go_ret
        exact ⟨ret_bool (by rw [HR.out]; rfl), by rw [HR.out]; exact HB.out, grown_refl _ _⟩

set_option maxHeartbeats 400000 in
theorem run_gap (s : ByteArray) (B : Nat) (w : World) (hB : w.heap[B]? = some (.cells #[.bool false] 4 (0, 0))) (hs : s.size ≤ maxLen) :
    Calls Tryd.prog 91 #[.string s, .func (.func 96) #[] #[.pointer (some ⟨B, 0, none⟩)]] w fun e w' => e = .returned (.int .i64 (Lx.gapL false s.data.toList : Nat)) ∧ w.grownBy w' (some B) := by
  unfold maxLen at hs
  have HB : Hid (w.heap[B]? = some (.cells #[.bool false] 4 (0, 0))) := hB
  clear hB
  go_enter Tryd.func91, Tryd.ntmps91
  go_wp2
  go_loopw [5] (fun i wr => ∃ k : Nat, ∃ r : Bool, k ≤ s.size ∧ i = .int .i64 k ∧ wr.heap[B]? = some (.cells #[.bool r] 4 (0, 0)) ∧ w.grownBy wr (some B) ∧ Lx.gapL false s.data.toList = k + Lx.gapL r (s.data.toList.drop k)) (fun i _ => s.size - (intOf i).toNat)
  case atStart => exact ⟨0, false, Nat.zero_le _, rfl, HB.out, grown_refl _ _, by simp⟩
  case round =>
    obtain ⟨k, r, hk, rfl, hb, hg, he⟩ := hrel
    have HE : Hid (Lx.gapL false s.data.toList = k + Lx.gapL r (s.data.toList.drop k)) := he
    have HH : Hid (wr.heap[B]? = some (.cells #[.bool r] 4 (0, 0))) := hb
    clear he hb
    by_cases hlt : k < s.size
    · cases hp : (Lx.rem1 r s[k] || Lx.isBlk s[k])
      · have HP : Hid ((Lx.rem1 r s[k] || Lx.isBlk s[k]) = false) := hp
        clear hp
        go_wp2_with (go_at_call 96; refine (gapf_any _ r B _ HH.out).mono ?_; rintro e w1 ⟨rfl, hb1, hg1⟩; rw [HP.out])
        go_ret
        exact ⟨ret_int (by rw [HE.out, drop_byte s k hlt, Lx.gapL_no HP.out]; rfl), grown_trans hg (by assumption)⟩
      · have HP : Hid ((Lx.rem1 r s[k] || Lx.isBlk s[k]) = true) := hp
        clear hp
        go_wp2_with (go_at_call 96; refine (gapf_any _ r B _ HH.out).mono ?_; rintro e w1 ⟨rfl, hb1, hg1⟩; rw [HP.out]; have HB1 : Hid (w1.heap[B]? = some (.cells #[.bool (Lx.rem1 r s[k])] 4 (0, 0))) := hb1; clear hb1)
        go_roundw
        case rel => exact ⟨k + 1, _, by omega, by go_num, Hid.out (by assumption), grown_trans hg (by assumption), by rw [HE.out, drop_byte s k hlt, Lx.gapL_yes HP.out]; omega⟩
        case measure => simp [intOf]; omega
    · go_wp2
      go_ret
      exact ⟨ret_int (by rw [HE.out, List.drop_of_length_le (by simp; omega)]; rfl), hg⟩

set_option maxHeartbeats 400000 in
theorem gap_any (s : ByteArray) (w : World) (hs : s.size ≤ maxLen) :
    Calls Tryd.prog 70 #[.string s] w fun e w' => e = .returned (.int .i64 (Lx.gapL false s.data.toList : Nat)) ∧ Below w.heap.size w w' := by
  go_enter Tryd.func70, Tryd.ntmps70
  go_wp2_with fail
  refine (run_gap s w.heap.size _ (heap_alloc_new w _) hs).mono ?_
  rintro e w1 ⟨rfl, hg⟩
  go_wp2
  go_ret
  exact ⟨rfl, ((Below.refl _ w).alloc (Nat.le_refl _) _).grown hg (by simp) (by intro k hk; cases hk; exact Nat.le_refl _)⟩

end Go.Proofs.YtlnikpcoejpknaaDoor

/- More plain functions: the first token of a text, and the number of digits. -/
namespace Go.Proofs.YtlnikpcoejpknaaDoor
namespace Lx

theorem signL_short (s : ByteArray) (h0 : 0 < s.size) (h1 : ¬ 1 < s.size) : signL s.data.toList = if one s[0] then 1 else 0 := by
  rw [byte_cons s h0, List.drop_of_length_le (by simp; omega)]
  simp [signL]

theorem signL_long (s : ByteArray) (h1 : 1 < s.size) : signL s.data.toList = if decide (s[1].toNat = 61) && two s[0] then 2 else if one s[0] then 1 else 0 := by
  have h0 : 0 < s.size := by omega
  have h := List.drop_eq_getElem_cons (l := s.data.toList) (i := 1) (by simpa using h1)
  rw [byte_cons s h0, h]
  have e : s.data.toList[1]'(by simpa using h1) = s[1] := rfl
  rw [e]
  have e2 : (some s[1] == some (61 : UInt8)) = decide (s[1].toNat = 61) := by
    rw [Bool.eq_iff_iff]; simp [← UInt8.toNat_inj]
  simp only [signL, List.head?_cons, e2]

/-- The number of digits. -/
def numL (l : List UInt8) : Nat := l.foldl (fun n c => n * 10 + (c.toNat - 48)) 0

theorem numL_snoc (l : List UInt8) (c : UInt8) : numL (l ++ [c]) = numL l * 10 + (c.toNat - 48) := by
  simp [numL, List.foldl_append]

theorem numL_lt : ∀ (l : List UInt8), (∀ c ∈ l, isDig c = true) → numL l < 10 ^ l.length := by
  intro l
  generalize hn : l.length = n
  induction n generalizing l with
  | zero =>
    intro _
    have e : l = [] := List.length_eq_zero_iff.1 hn
    subst e
    decide
  | succ n ih =>
    intro h
    obtain ⟨xs, x, rfl⟩ : ∃ xs x, l = xs ++ [x] := ⟨l.dropLast, l.getLast (by intro e; simp [e] at hn), (List.dropLast_concat_getLast _).symm⟩
    have hx := h x (by simp)
    have := ih xs (by simpa using hn) (fun c hc => h c (by simp [hc]))
    rw [numL_snoc, Nat.pow_succ]
    have hx2 : x.toNat ≤ 57 := by have := of_decide_eq_true hx; omega
    omega

/-- The first token of l: what is wrong, its kind, its length, its number. -/
def firstL (l : List UInt8) : Nat × Nat × Nat × Nat :=
  match l with
  | [] => (2, 0, 0, 0)
  | c :: r =>
    if isLet c then (0, 1, span isWrd (c :: r), 0)
    else if isDig c then (if 15 < span isDig (c :: r) then (3, 0, 0, 0) else (0, 2, span isDig (c :: r), numL ((c :: r).take (span isDig (c :: r)))))
    else if signL (c :: r) = 0 then (2, 0, 0, 0) else (0, 3, signL (c :: r), 0)

theorem take_span_all (p : UInt8 → Bool) : ∀ (l : List UInt8), ∀ c ∈ l.take (span p l), p c = true
  | [], c, h => by simp at h
  | a :: l, c, h => by
    unfold span at h
    rw [List.takeWhile_cons] at h
    split at h
    · rename_i ha
      simp only [List.length_cons, List.take_succ_cons, List.mem_cons] at h
      rcases h with rfl | h
      · exact ha
      · exact take_span_all p l c h
    · simp at h

theorem signL_le (l : List UInt8) : signL l ≤ l.length := by
  match l with
  | [] => simp [signL]
  | [c] => simp [signL]; split <;> omega
  | c :: d :: l => simp only [signL]; split <;> (try split) <;> simp

theorem signL_le2 (l : List UInt8) : signL l ≤ 2 := by
  match l with
  | [] => simp [signL]
  | c :: l => simp only [signL]; split <;> (try split) <;> omega

end Lx
end Go.Proofs.YtlnikpcoejpknaaDoor

