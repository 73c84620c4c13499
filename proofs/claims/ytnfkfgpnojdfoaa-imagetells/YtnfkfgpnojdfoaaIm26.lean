/- The document's walk over bytes: the walks of num, int, count. -/
import Derived.Test.YtnfkfgpnojdfoaaIm15
import Derived.Test.YtnfkfgpnojdfoaaIm13
import Derived.Test.YtnfkfgpnojdfoaaIm23
namespace Go.Proofs.Ytnfkfgpnojdfoaa
open Go.RowKit

/-- A walk in block T over the bytes L, which lie in block b. -/
structure WK (w : World) (T b : Nat) (L : List Nat) (i : Nat) (bad : Bool) : Prop where
  row : ∃ o c, w.heap[T]? = some (.cells #[.slice (some ⟨b, o, none⟩) L.length c, .int .i64 i, .bool bad] 61 (0, 0)) ∧ ∀ (j x : Nat), L[j]? = some x → w.cell? ⟨b, o + j, none⟩ = some (.int .u8 x)
  ok : Im.Ok L
  few : L.length ≤ 60000
  le : i ≤ L.length
  ne : b ≠ T
  lt : b < w.heap.size
theorem WK.ltT {w : World} {T b : Nat} {L : List Nat} {i : Nat} {bad : Bool} (h : WK w T b L i bad) : T < w.heap.size := by
  obtain ⟨o, c, h1, _⟩ := h.row
  exact lt_of_block h1
theorem WK.far {w w' : World} {T b : Nat} {L : List Nat} {i : Nat} {bad : Bool} (h : WK w T b L i bad) (h1 : w'.heap[T]? = w.heap[T]?) (h2 : w'.heap[b]? = w.heap[b]?) (hs : w.heap.size ≤ w'.heap.size) : WK w' T b L i bad := by
  obtain ⟨o, c, e1, e3⟩ := h.row
  exact ⟨⟨o, c, h1.trans e1, fun j x hx => (cell_eq h2 _).trans (e3 j x hx)⟩, h.ok, h.few, h.le, h.ne, Nat.lt_of_lt_of_le h.lt hs⟩
theorem WK.alloc {w : World} {T b : Nat} {L : List Nat} {i : Nat} {bad : Bool} (h : WK w T b L i bad) (o : Obj) : WK (w.alloc o) T b L i bad := h.far (Below.heap_alloc _ _ _ h.ltT) (Below.heap_alloc _ _ _ h.lt) (by simp)
theorem WK.drewN {w : World} {T b : Nat} {L : List Nat} {i : Nat} {bad : Bool} (h : WK w T b L i bad) (n : Nat) : WK (w.drewN n) T b L i bad := h.far rfl rfl (Nat.le_refl _)
theorem WK.drew {w : World} {T b : Nat} {L : List Nat} {i : Nat} {bad : Bool} (h : WK w T b L i bad) : WK w.drew T b L i bad := h.far rfl rfl (Nat.le_refl _)
theorem WK.bad {w : World} {T b : Nat} {L : List Nat} {i : Nat} {bad : Bool} (h : WK w T b L i bad) : WK (w.setCell ⟨T, 2, none⟩ (.bool true)) T b L i true := by
  obtain ⟨o, c, e1, e3⟩ := h.row
  refine ⟨⟨o, c, ?_, fun j x hx => (cell_eq (Below.heap_setCell _ ⟨T, 2, none⟩ _ _ h.ne) _).trans (e3 j x hx)⟩, h.ok, h.few, h.le, h.ne, by simpa [World.setCell] using h.lt⟩
  simp only [World.setCell, Array.getElem?_modify, if_true, e1, Option.map_some]
  rfl
theorem WK.step {w : World} {T b : Nat} {L : List Nat} {i : Nat} {bad : Bool} (h : WK w T b L i bad) (hi : i < L.length) {v : Int} (hv : v = ((i + 1 : Nat) : Int)) : WK (w.setCell ⟨T, 1, none⟩ (.int .i64 v)) T b L (i + 1) bad := by
  obtain ⟨o, c, e1, e3⟩ := h.row
  refine ⟨⟨o, c, ?_, fun j x hx => (cell_eq (Below.heap_setCell _ ⟨T, 1, none⟩ _ _ h.ne) _).trans (e3 j x hx)⟩, h.ok, h.few, hi, h.ne, by simpa [World.setCell] using h.lt⟩
  subst hv
  simp only [World.setCell, Array.getElem?_modify, if_true, e1, Option.map_some]
  rfl
theorem WK.cells {w : World} {T b : Nat} {L : List Nat} {i : Nat} {bad : Bool} (h : WK w T b L i bad) : ∃ o c, w.cell? ⟨T, 0, none⟩ = some (.slice (some ⟨b, o, none⟩) L.length c) ∧ w.cell? ⟨T, 1, none⟩ = some (.int .i64 i) ∧ w.cell? ⟨T, 2, none⟩ = some (.bool bad) ∧ w.frozen? ⟨T, 1, none⟩ = false ∧ w.frozen? ⟨T, 2, none⟩ = false ∧ ∀ (j x : Nat), L[j]? = some x → w.cell? ⟨b, o + j, none⟩ = some (.int .u8 x) := by
  obtain ⟨o, c, e1, e3⟩ := h.row
  exact ⟨o, c, by simp [World.cell?, e1], by simp [World.cell?, e1], by simp [World.cell?, e1], by simp [World.frozen?, e1], by simp [World.frozen?, e1], e3⟩

theorem Kr.drewN {R : Nat} {w w' : World} (h : Kr R w w') (n : Nat) : Kr R w (w'.drewN n) := ⟨h.os, h.tape, h.output, h.size, h.blk⟩

/-- What comes of the document's reading of a number. -/
def Wf (T b : Nat) (L : List Nat) (w : World) (r : Option (Int × List Nat)) (e : Ending) (w' : World) : Prop :=
  ∃ n i' bad', e = .returned (.int .i64 n) ∧ WK w' T b L i' bad' ∧ Kr T w w' ∧ match r with
    | none => bad' = true
    | some p => bad' = false ∧ n = p.1 ∧ L.drop i' = p.2

set_option maxRecDepth 100000 in
set_option maxHeartbeats 1000000 in
theorem num_bad (T b : Nat) (L : List Nat) (i : Nat) (w : World) (h : Hid (WK w T b L i true)) :
    Calls Try.prog 24 #[.pointer (some ⟨T, 0, none⟩)] w fun e w' => Wf T b L w none e w' := by
  obtain ⟨o, c, c0, c1, c2, f1, f2, _⟩ := h.out.cells
  go_enter Try.func24, Try.ntmps24
  go_wp2
  go_loopw [5] (fun k wr => k = .int .i64 0 ∧ wr = w) (fun _ _ => 0)
  case atStart => exact ⟨rfl, rfl⟩
  case round =>
    obtain ⟨rfl, rfl⟩ := hrel
    go_wp2
    go_quiet (fail)
    go_wp2
    go_ret
    exact ⟨0, i, true, rfl, (h.out.drewN _).bad, ((Kr.refl T _).drewN _).set (a := ⟨T, 2, none⟩) (.inl rfl) _, rfl⟩

/-- What holds at the head of num's loop. -/
structure NwAt (T b : Nat) (L : List Nat) (w : World) (r : Option (Int × List Nat)) (k x U i : Nat) (bad : Bool) (W : World) : Prop where
  wk : WK W T b L i bad
  kr : Kr T w W
  le : k ≤ 10
  u : U < 18446744073709551616 ∧ x < 18446744073709551616
  go : k ≤ 9 → bad = false ∧ U = 2 ^ (7 * k) ∧ x < 2 ^ (7 * k) ∧ r = Im.rnum (7 * k) x (L.drop i)
  no : k = 10 → bad = true ∧ r = none

theorem drop_cons {L : List Nat} {i c : Nat} (h : L[i]? = some c) : L.drop i = c :: L.drop (i + 1) := by
  obtain ⟨hi, rfl⟩ := List.getElem?_eq_some_iff.1 h
  exact List.drop_eq_getElem_cons hi




set_option maxRecDepth 100000 in
set_option maxHeartbeats 4000000 in
theorem num_good (T b : Nat) (L : List Nat) (i : Nat) (w : World) (h : Hid (WK w T b L i false)) (r : Option (Int × List Nat)) (hr : Hid (r = Im.rn (L.drop i))) :
    Calls Try.prog 24 #[.pointer (some ⟨T, 0, none⟩)] w fun e w' => Wf T b L w r e w' := by
  go_enter Try.func24, Try.ntmps24
  go_wp2
  go_loopw [3, 4, 5] (fun xv uv kv wr => ∃ (k x U i' : Nat) (bad : Bool), xv = .int .u64 x ∧ uv = .int .u64 U ∧ kv = .int .i64 k ∧ NwAt T b L w r k x U i' bad wr) (fun _ _ kv _ => 10 - (intOf kv).toNat)
  case atStart => exact ⟨0, 0, 1, i, false, rfl, rfl, rfl, h.out, Kr.refl _ _, by decide, by decide, fun _ => ⟨rfl, rfl, by decide, hr.out⟩, fun h => by simp at h⟩
  case round =>
    obtain ⟨k, x, U, i', bad, rfl, rfl, rfl, hA⟩ := hrel
    have HA := hide hA
    obtain ⟨o, c, c0, c1, c2, f1, f2, hcell⟩ := hA.wk.cells
    have hle := hA.le
    obtain ⟨hU64, hx64⟩ := hA.u
    have HCE := hide hcell
    clear hA hcell
    by_cases hk : k ≤ 9
    · obtain ⟨rfl, hU, hxs, hrr⟩ := HA.out.go hk
      have n1 : (k : Int) < 10 := by omega
      have HW := hide HA.out.wk
      have HK := hide HA.out.kr
      have hfew := HW.out.few
      have HU := hide hU
      have HXS := hide hxs
      have HRR := hide hrr
      clear hU hxs hrr HA
      by_cases hi : i' < L.length
      · obtain ⟨cc, hcc⟩ : ∃ cc, L[i']? = some cc := ⟨_, List.getElem?_eq_getElem hi⟩
        have cx := HCE.out i' cc hcc
        have hc8 := HW.out.ok cc (List.mem_of_getElem? hcc)
        have HD : Hid (r = Im.rnum (7 * k) x (cc :: L.drop (i' + 1))) := by rw [← drop_cons hcc]; exact HRR
        have n2 : ¬ (L.length : Int) ≤ (i' : Int) := by omega
        have n3 : (0 : Int) ≤ (i' : Int) := by omega
        have n4 : (i' : Int) < (L.length : Int) := by omega
        have e1 : IntKind.u64.wrap (cc : Int) = (cc : Int) := by rw [wrap_u64]; omega
        obtain ⟨y, hy⟩ : ∃ y, y = (x + cc % 128 * U) % 18446744073709551616 := ⟨_, rfl⟩
        have e6 : IntKind.u64.wrap ((x : Int) + IntKind.u64.wrap ((cc : Int) % 128 * (U : Int))) = (y : Int) := by
          rw [wrap_u64, wrap_u64, hy]
          have : ((cc : Int) % 128 * (U : Int)) = ((cc % 128 * U : Nat) : Int) := by simp
          rw [this]
          omega
        have hy64 : y < 18446744073709551616 := by rw [hy]; exact Nat.mod_lt _ (by decide)
        obtain ⟨U2, hU2⟩ : ∃ U2, U2 = U * 128 % 18446744073709551616 := ⟨_, rfl⟩
        have e7 : IntKind.u64.wrap ((U : Int) * 128) = (U2 : Int) := by rw [wrap_u64, hU2]; omega
        have hU264 : U2 < 18446744073709551616 := by rw [hU2]; exact Nat.mod_lt _ (by decide)
        have HY := hide hy
        have HU2 := hide hU2
        clear hcc HCE HRR hy hU2
        by_cases hP : k = 9 ∧ 1 < cc
        · have HN : Hid (r = none) := by unfold Hid; rw [HD.out, Im.rnum_cons, if_pos ⟨by omega, hP.2⟩]
          have g1 : (0 : Int) < (k : Int) := by omega
          have g2 : ((cc : Int) == 0) = false := by simp; omega
          have g3 : ((k : Int) == 9) = true := by simp; omega
          have g4 : (1 : Int) < (cc : Int) := by omega
          have HK9 := hide hP.1
          clear hP
          by_cases h128 : cc < 128
          · have g5 : (cc : Int) < 128 := by omega
            go_wp2
            go_quiet (fail)
            go_wp2
            go_quiet (fail)
            by_cases hp : y % 2 = 1
            · have e9 : ((y : Int) % 2 == 1) = true := by simp; omega
              have HP := hide hp
              clear hp
              go_wp2
              go_ret
              refine ⟨Im.unf y, i' + 1, true, ?_, ((HW.out.drewN _).step hi rfl).bad, ((HK.out.drewN _).set (a := ⟨T, 1, none⟩) (.inl rfl) _).set (a := ⟨T, 2, none⟩) (.inl rfl) _, by rw [HN.out]⟩
              show Ending.returned (.int .i64 (-((y : Int) / 2) - 1)) = .returned (.int .i64 (Im.unf y))
              unfold Im.unf
              rw [if_pos HP.out]
              congr 2
            · have e9 : ((y : Int) % 2 == 1) = false := by simp; omega
              have HP := hide hp
              clear hp
              go_wp2
              go_ret
              refine ⟨Im.unf y, i' + 1, true, ?_, ((HW.out.drewN _).step hi rfl).bad, ((HK.out.drewN _).set (a := ⟨T, 1, none⟩) (.inl rfl) _).set (a := ⟨T, 2, none⟩) (.inl rfl) _, by rw [HN.out]⟩
              show Ending.returned (.int .i64 ((y : Int) / 2)) = .returned (.int .i64 (Im.unf y))
              unfold Im.unf
              rw [if_neg HP.out]
              congr 2
          · have g5 : ¬ (cc : Int) < 128 := by omega
            go_wp2
            go_quiet (fail)
            go_wp2
            go_quiet (fail)
            go_wp2
            go_roundw
            case rel => exact ⟨10, y, U2, i' + 1, true, rfl, rfl, by rw [HK9.out]; go_num, ((HW.out.drewN _).step hi rfl).bad, ((HK.out.drewN _).set (a := ⟨T, 1, none⟩) (.inl rfl) _).set (a := ⟨T, 2, none⟩) (.inl rfl) _, by decide, ⟨hU264, hy64⟩, fun h => by omega, fun _ => ⟨rfl, HN.out⟩⟩
            case measure => simp [intOf]; omega
        · by_cases hQ : cc = 0 ∧ 0 < k
          · have HN : Hid (r = none) := by unfold Hid; rw [HD.out, Im.rnum_cons, if_neg (by omega), if_neg (by omega), if_pos ⟨hQ.1, by omega⟩]
            have g1 : (0 : Int) < (k : Int) := by omega
            have g2 : ((cc : Int) == 0) = true := by simp; omega
            have g5 : (cc : Int) < 128 := by omega
            clear hP hQ
            go_wp2
            go_quiet (fail)
            go_wp2
            go_quiet (fail)
            by_cases hp : y % 2 = 1
            · have e9 : ((y : Int) % 2 == 1) = true := by simp; omega
              have HP := hide hp
              clear hp
              go_wp2
              go_ret
              refine ⟨Im.unf y, i' + 1, true, ?_, ((HW.out.drewN _).step hi rfl).bad, ((HK.out.drewN _).set (a := ⟨T, 1, none⟩) (.inl rfl) _).set (a := ⟨T, 2, none⟩) (.inl rfl) _, by rw [HN.out]⟩
              show Ending.returned (.int .i64 (-((y : Int) / 2) - 1)) = .returned (.int .i64 (Im.unf y))
              unfold Im.unf
              rw [if_pos HP.out]
              congr 2
            · have e9 : ((y : Int) % 2 == 1) = false := by simp; omega
              have HP := hide hp
              clear hp
              go_wp2
              go_ret
              refine ⟨Im.unf y, i' + 1, true, ?_, ((HW.out.drewN _).step hi rfl).bad, ((HK.out.drewN _).set (a := ⟨T, 1, none⟩) (.inl rfl) _).set (a := ⟨T, 2, none⟩) (.inl rfl) _, by rw [HN.out]⟩
              show Ending.returned (.int .i64 ((y : Int) / 2)) = .returned (.int .i64 (Im.unf y))
              unfold Im.unf
              rw [if_neg HP.out]
              congr 2
          · have h9 : 7 * k ≤ 56 ∨ (7 * k = 63 ∧ cc ≤ 1) := by omega
            obtain ⟨hfit, hup⟩ := fits_in HXS.out h9 hc8
            have hyy : y = x + cc % 128 * 2 ^ (7 * k) := by rw [HY.out, HU.out]; exact Nat.mod_eq_of_lt hfit
            have HI : Hid (r = if 128 ≤ cc then Im.rnum (7 * k + 7) y (L.drop (i' + 1)) else some (Im.unf (x + cc * 2 ^ (7 * k)), L.drop (i' + 1))) := by
              unfold Hid
              rw [HD.out, Im.rnum_cons, if_neg (by omega), hyy]
              split
              · rfl
              · rw [if_neg (by omega)]
            by_cases h128 : cc < 128
            · have HN : Hid (r = some (Im.unf y, L.drop (i' + 1))) := by
                unfold Hid
                rw [HI.out, if_neg (by omega), hyy, Nat.mod_eq_of_lt h128]
              have g5 : (cc : Int) < 128 := by omega
              clear hyy hup hfit HI
              by_cases hk0 : k = 0
              · have g1 : ¬ (0 : Int) < (k : Int) := by omega
                have g3 : ((k : Int) == 9) = false := by simp; omega
                clear hk0 hP hQ h9
                go_wp2
                go_quiet (fail)
                go_wp2
                go_quiet (fail)
                by_cases hp : y % 2 = 1
                · have e9 : ((y : Int) % 2 == 1) = true := by simp; omega
                  have HP := hide hp
                  clear hp
                  go_wp2
                  go_ret
                  refine ⟨Im.unf y, i' + 1, false, ?_, (HW.out.drewN _).step hi rfl, (HK.out.drewN _).set (a := ⟨T, 1, none⟩) (.inl rfl) _, by rw [HN.out]; exact ⟨rfl, rfl, rfl⟩⟩
                  show Ending.returned (.int .i64 (-((y : Int) / 2) - 1)) = .returned (.int .i64 (Im.unf y))
                  unfold Im.unf
                  rw [if_pos HP.out]
                  congr 2
                · have e9 : ((y : Int) % 2 == 1) = false := by simp; omega
                  have HP := hide hp
                  clear hp
                  go_wp2
                  go_ret
                  refine ⟨Im.unf y, i' + 1, false, ?_, (HW.out.drewN _).step hi rfl, (HK.out.drewN _).set (a := ⟨T, 1, none⟩) (.inl rfl) _, by rw [HN.out]; exact ⟨rfl, rfl, rfl⟩⟩
                  show Ending.returned (.int .i64 ((y : Int) / 2)) = .returned (.int .i64 (Im.unf y))
                  unfold Im.unf
                  rw [if_neg HP.out]
                  congr 2
              · have g1 : (0 : Int) < (k : Int) := by omega
                have g2 : ((cc : Int) == 0) = false := by simp; omega
                by_cases hk9 : k = 9
                · have g3 : ((k : Int) == 9) = true := by simp; omega
                  have g4 : ¬ (1 : Int) < (cc : Int) := by omega
                  clear hk0 hk9 hP hQ h9
                  go_wp2
                  go_quiet (fail)
                  go_wp2
                  go_quiet (fail)
                  by_cases hp : y % 2 = 1
                  · have e9 : ((y : Int) % 2 == 1) = true := by simp; omega
                    have HP := hide hp
                    clear hp
                    go_wp2
                    go_ret
                    refine ⟨Im.unf y, i' + 1, false, ?_, (HW.out.drewN _).step hi rfl, (HK.out.drewN _).set (a := ⟨T, 1, none⟩) (.inl rfl) _, by rw [HN.out]; exact ⟨rfl, rfl, rfl⟩⟩
                    show Ending.returned (.int .i64 (-((y : Int) / 2) - 1)) = .returned (.int .i64 (Im.unf y))
                    unfold Im.unf
                    rw [if_pos HP.out]
                    congr 2
                  · have e9 : ((y : Int) % 2 == 1) = false := by simp; omega
                    have HP := hide hp
                    clear hp
                    go_wp2
                    go_ret
                    refine ⟨Im.unf y, i' + 1, false, ?_, (HW.out.drewN _).step hi rfl, (HK.out.drewN _).set (a := ⟨T, 1, none⟩) (.inl rfl) _, by rw [HN.out]; exact ⟨rfl, rfl, rfl⟩⟩
                    show Ending.returned (.int .i64 ((y : Int) / 2)) = .returned (.int .i64 (Im.unf y))
                    unfold Im.unf
                    rw [if_neg HP.out]
                    congr 2
                · have g3 : ((k : Int) == 9) = false := by simp; omega
                  clear hk0 hk9 hP hQ h9
                  go_wp2
                  go_quiet (fail)
                  go_wp2
                  go_quiet (fail)
                  by_cases hp : y % 2 = 1
                  · have e9 : ((y : Int) % 2 == 1) = true := by simp; omega
                    have HP := hide hp
                    clear hp
                    go_wp2
                    go_ret
                    refine ⟨Im.unf y, i' + 1, false, ?_, (HW.out.drewN _).step hi rfl, (HK.out.drewN _).set (a := ⟨T, 1, none⟩) (.inl rfl) _, by rw [HN.out]; exact ⟨rfl, rfl, rfl⟩⟩
                    show Ending.returned (.int .i64 (-((y : Int) / 2) - 1)) = .returned (.int .i64 (Im.unf y))
                    unfold Im.unf
                    rw [if_pos HP.out]
                    congr 2
                  · have e9 : ((y : Int) % 2 == 1) = false := by simp; omega
                    have HP := hide hp
                    clear hp
                    go_wp2
                    go_ret
                    refine ⟨Im.unf y, i' + 1, false, ?_, (HW.out.drewN _).step hi rfl, (HK.out.drewN _).set (a := ⟨T, 1, none⟩) (.inl rfl) _, by rw [HN.out]; exact ⟨rfl, rfl, rfl⟩⟩
                    show Ending.returned (.int .i64 ((y : Int) / 2)) = .returned (.int .i64 (Im.unf y))
                    unfold Im.unf
                    rw [if_neg HP.out]
                    congr 2
            · have HN : Hid (r = Im.rnum (7 * (k + 1)) y (L.drop (i' + 1))) := by
                unfold Hid
                rw [HI.out, if_pos (by omega)]
                rfl
              have hk8 : k ≤ 8 := by omega
              have HUP : Hid (y < 2 ^ (7 * (k + 1))) := by unfold Hid; rw [hyy]; exact hup (by omega)
              have HUU : Hid (U2 = 2 ^ (7 * (k + 1))) := by
                unfold Hid
                rw [HU2.out, HU.out, show 7 * (k + 1) = 7 * k + 7 by omega, Nat.pow_add]
                have h1 : 2 ^ (7 * k) ≤ 2 ^ 56 := Nat.pow_le_pow_right (by decide) (by omega)
                exact Nat.mod_eq_of_lt (by omega)
              have g5 : ¬ (cc : Int) < 128 := by omega
              have g2 : ((cc : Int) == 0) = false := by simp; omega
              have g3 : ((k : Int) == 9) = false := by simp; omega
              clear hyy hup hfit HI hP hQ h9
              by_cases hk0 : k = 0
              · have g1 : ¬ (0 : Int) < (k : Int) := by omega
                clear hk0
                go_wp2
                go_quiet (fail)
                go_wp2
                go_quiet (fail)
                go_wp2
                go_roundw
                case rel => exact ⟨k + 1, y, U2, i' + 1, false, rfl, rfl, by go_num, (HW.out.drewN _).step hi rfl, (HK.out.drewN _).set (a := ⟨T, 1, none⟩) (.inl rfl) _, by omega, ⟨hU264, hy64⟩, fun _ => ⟨rfl, HUU.out, HUP.out, HN.out⟩, fun h => by omega⟩
                case measure => simp [intOf]; omega
              · have g1 : (0 : Int) < (k : Int) := by omega
                clear hk0
                go_wp2
                go_quiet (fail)
                go_wp2
                go_quiet (fail)
                go_wp2
                go_roundw
                case rel => exact ⟨k + 1, y, U2, i' + 1, false, rfl, rfl, by go_num, (HW.out.drewN _).step hi rfl, (HK.out.drewN _).set (a := ⟨T, 1, none⟩) (.inl rfl) _, by omega, ⟨hU264, hy64⟩, fun _ => ⟨rfl, HUU.out, HUP.out, HN.out⟩, fun h => by omega⟩
                case measure => simp [intOf]; omega
      · obtain rfl : i' = L.length := by have := HW.out.le; omega
        have HN : Hid (r = none) := by unfold Hid; rw [HRR.out, List.drop_length]; rfl
        have n2 : (L.length : Int) ≤ (L.length : Int) := by omega
        clear HCE HRR
        go_wp2
        go_quiet (fail)
        go_wp2
        go_ret
        exact ⟨0, L.length, true, rfl, (HW.out.drewN _).bad, (HK.out.drewN _).set (a := ⟨T, 2, none⟩) (.inl rfl) _, by rw [HN.out]⟩
    · obtain ⟨rfl, hrr⟩ := HA.out.no (by omega)
      have HN : Hid (r = none) := hrr
      have n1 : ¬ (k : Int) < 10 := by omega
      clear hrr
      go_wp2
      go_ret
      exact ⟨0, i', true, rfl, HA.out.wk.bad, HA.out.kr.set (a := ⟨T, 2, none⟩) (.inl rfl) _, by rw [HN.out]⟩

/-- WHAT THE DOCUMENT's num ANSWERS. -/
theorem num_w (T b : Nat) (L : List Nat) (i : Nat) (bad : Bool) (w : World) (h : Hid (WK w T b L i bad)) (r : Option (Int × List Nat)) (hr : Hid (r = if bad then none else Im.rn (L.drop i))) :
    Calls Try.prog 24 #[.pointer (some ⟨T, 0, none⟩)] w fun e w' => Wf T b L w r e w' := by
  cases bad with
  | true => obtain rfl : r = none := hr.out; exact num_bad T b L i w h
  | false => exact num_good T b L i w h r (hide hr.out)

end Go.Proofs.Ytnfkfgpnojdfoaa
