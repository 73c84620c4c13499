/- The walks of the document's one and Reserved. -/
import Derived.Test.YtfmkhdncbdkpoaaR1
import Derived.Lib.SlBytesConst
namespace Go.Proofs.Ytfmkhdncbdkpoaa
open Go.RowKit

theorem ones_cells (w : World) : ∀ j (h : j < Lx.ones.length), (w.alloc (.cells #[.int .u8 60, .int .u8 62, .int .u8 61, .int .u8 43, .int .u8 45, .int .u8 42, .int .u8 47, .int .u8 37, .int .u8 40, .int .u8 41, .int .u8 123, .int .u8 125, .int .u8 44, .int .u8 59] 5 (14, 15))).cell? ⟨w.heap.size, j, none⟩ = some (.int .u8 ((Lx.ones[j]'h).toNat : Int)) := by
  intro j h
  have hC : (#[.int .u8 60, .int .u8 62, .int .u8 61, .int .u8 43, .int .u8 45, .int .u8 42, .int .u8 47, .int .u8 37, .int .u8 40, .int .u8 41, .int .u8 123, .int .u8 125, .int .u8 44, .int .u8 59] : Array Value) = (Lx.ones.map (fun b => Value.int .u8 (b.toNat : Int))).toArray := rfl
  rw [World.cell?_alloc_mark, hC, List.getElem?_toArray, List.getElem?_map, List.getElem?_eq_getElem h]
  rfl

set_option maxHeartbeats 1000000 in
theorem one_any (c : UInt8) (w : World) :
    Calls Try.prog 14 #[.int .u8 (c.toNat : Int)] w fun e w' => e = .returned (.bool (Lx.one c)) ∧ Below w.heap.size w w' := by
  have HO : Hid (Lx.one c = Lx.ones.contains c) := rfl
  have kc := fun (w : World) (C : Array Value) (n c : Nat) => Lib.run_convert_bytes_const (P := Try.prog) w 43 5 C n c Try.underlying43 Try.underlying5
  go_enter Try.func14, Try.ntmps14
  go_wp2
  clear kc
  go_loopw [8] (fun i wr => ∃ k : Nat, k ≤ 14 ∧ i = .int .i64 k ∧ Below w.heap.size w wr ∧ Hid (∀ j (h : j < Lx.ones.length), wr.cell? ⟨w.heap.size, j, none⟩ = some (.int .u8 ((Lx.ones[j]'h).toNat : Int))) ∧ Hid ((Lx.ones.take k).contains c = false)) (fun i _ => 14 - (intOf i).toNat)
  case atStart => exact ⟨0, Nat.zero_le _, rfl, (Below.refl _ w).alloc (Nat.le_refl _) _, ones_cells w, by unfold Hid; simp⟩
  case round =>
    obtain ⟨k, hk, rfl, hbel, HC, HN⟩ := hrel
    by_cases hk1 : k < 14
    · have hcell := HC.out k hk1
      have HE : Hid (∀ b, (Lx.ones[k]'hk1 == c) = b → b = true → Lx.ones.contains c = true) := by
        intro b h1 h2
        rw [h2] at h1
        rw [← eq_of_beq h1]
        exact List.contains_iff_mem.2 (List.getElem_mem _)
      obtain ⟨d, hd⟩ : ∃ d, Lx.ones[k]'hk1 = d := ⟨_, rfl⟩
      rw [hd] at hcell HE
      have HD : Hid (Lx.ones[k]'hk1 = d) := hd
      clear hd
      by_cases hdc : d = c
      · subst hdc
        go_wp2
        go_ret
        exact ⟨ret_bool (by rw [HO.out, HE.out true (by simp) rfl]), hbel⟩
      · have e1 : ((d.toNat : Int) == (c.toNat : Int)) = false := by
          simp
          intro h
          exact hdc (UInt8.toNat_inj.1 (by omega))
        have HN2 : Hid ((Lx.ones.take (k + 1)).contains c = false) := contains_at c Lx.ones k HN.out hk1 (by rw [HD.out]; simpa using hdc)
        clear hdc
        go_wp2
        go_roundw
        case rel => exact ⟨k + 1, by omega, by go_num, hbel, HC, HN2⟩
        case measure => simp [intOf]; omega
    · go_wp2
      go_ret
      refine ⟨ret_bool ?_, hbel⟩
      have h := HN.out
      rw [List.take_of_length_le (by show 14 ≤ k; omega)] at h
      rw [HO.out, h]

theorem words_cells (w : World) (C : Array Value) (hC : C = (Lx.words.map (fun l => Value.string ⟨l.toArray⟩)).toArray) : ∀ j (h : j < Lx.words.length), (w.alloc (.cells C 9)).cell? ⟨w.heap.size, j, none⟩ = some (.string ⟨(Lx.words[j]'h).toArray⟩) := by
  intro j h
  rw [World.cell?_alloc_mark, hC, List.getElem?_toArray, List.getElem?_map, List.getElem?_eq_getElem h]
  rfl

set_option maxHeartbeats 1000000 in
theorem reserved_any (s : ByteArray) (w : World) :
    Calls Try.prog 19 #[.string s] w fun e w' => e = .returned (.bool (Lx.kept s.toList)) ∧ Below w.heap.size w w' := by
  go_enter Try.func19, Try.ntmps19
  go_wp2
  go_loopw [7] (fun i wr => ∃ k : Nat, k ≤ 27 ∧ i = .int .i64 k ∧ Below w.heap.size w wr ∧ Hid (∀ j (h : j < Lx.words.length), wr.cell? ⟨w.heap.size, j, none⟩ = some (.string ⟨(Lx.words[j]'h).toArray⟩)) ∧ Hid ((Lx.words.take k).contains s.toList = false)) (fun i _ => 27 - (intOf i).toNat)
  case atStart => exact ⟨0, Nat.zero_le _, rfl, (Below.refl _ w).alloc (Nat.le_refl _) _, words_cells w _ rfl, by unfold Hid; simp⟩
  case round =>
    obtain ⟨k, hk, rfl, hbel, HC, HN⟩ := hrel
    by_cases hk1 : k < 27
    · have hcell := HC.out k hk1
      obtain ⟨d, hd⟩ : ∃ d, Lx.words[k]'hk1 = d := ⟨_, rfl⟩
      rw [hd] at hcell
      have HD : Hid (Lx.words[k]'hk1 = d) := hd
      clear hd
      go_wp2
      · have h : (d == s.toList) = true := by assumption
        go_ret
        refine ⟨ret_bool ?_, hbel⟩
        have h2 := eq_of_beq h
        rw [← h2, ← HD.out]
        exact (List.contains_iff_mem.2 (List.getElem_mem _)).symm
      · have h : (d == s.toList) = false := by assumption
        go_roundw
        case rel => exact ⟨k + 1, by omega, by go_num, hbel, HC, contains_at s.toList Lx.words k HN.out hk1 (by rw [HD.out]; exact h)⟩
        case measure => simp [intOf]; omega
    · go_wp2
      go_ret
      refine ⟨ret_bool ?_, hbel⟩
      have h := HN.out
      rw [List.take_of_length_le (by show 27 ≤ k; omega)] at h
      unfold Lx.kept
      rw [h]

end Go.Proofs.Ytfmkhdncbdkpoaa
