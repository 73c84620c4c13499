/- The walk of alive. -/
import Derived.Test.YtnfkfgpnojdfoaaIm7
import Derived.Lib.SlBytesConst
namespace Go.Proofs.Ytnfkfgpnojdfoaa
open Go.RowKit

def m0 : Im.Md := ⟨[⟨1, 2⟩], []⟩
theorem num_small {n : Int} {c : Nat} (h0 : 0 ≤ n) (hc : (c : Int) = 2 * n) (h1 : c < 128) : Im.num n = [c] := by
  unfold Im.num
  have : Im.fold n = c := by unfold Im.fold; rw [if_neg (by omega)]; omega
  rw [this, Im.vb_end h1]
theorem m0_bytes : Im.bytes m0 = (Im.sealed [2, 2, 4, 0], 0) := by
  have hb : Im.body m0 = [2, 2, 4, 0] := by
    simp only [Im.body, m0, Im.nums, Im.bxb, List.flatMap_cons, List.flatMap_nil, List.length_cons, List.length_nil]
    rw [num_small (n := ((0 + 1 : Nat) : Int)) (c := 2) (by decide) (by decide) (by decide), num_small (n := 1) (c := 2) (by decide) (by decide) (by decide), num_small (n := 2) (c := 4) (by decide) (by decide) (by decide), num_small (n := ((0 : Nat) : Int)) (c := 0) (by decide) (by decide) (by decide)]
    rfl
  unfold Im.bytes
  rw [hb]
  rfl
theorem known : Im.sum [49, 50, 51, 52, 53, 54, 55, 56, 57] = 10673 := by decide +kernel

theorem nine_bin (W : World) : BIn (W.alloc (.cells #[.int .u8 49, .int .u8 50, .int .u8 51, .int .u8 52, .int .u8 53, .int .u8 54, .int .u8 55, .int .u8 56, .int .u8 57] 5 (9, 10))) [49, 50, 51, 52, 53, 54, 55, 56, 57] (some ⟨W.heap.size, 0, none⟩) := by
  have h9 : ∀ i c, ([49, 50, 51, 52, 53, 54, 55, 56, 57] : List Nat)[i]? = some c → c < 256 := fun i c hc => by
    have := List.mem_of_getElem? hc
    simp at this
    omega
  intro i c hc
  refine ⟨h9 i c hc, _, 0, rfl, ?_⟩
  have hn := heap_alloc_new W (.cells #[.int .u8 49, .int .u8 50, .int .u8 51, .int .u8 52, .int .u8 53, .int .u8 54, .int .u8 55, .int .u8 56, .int .u8 57] 5 (9, 10))
  have e : (#[.int .u8 49, .int .u8 50, .int .u8 51, .int .u8 52, .int .u8 53, .int .u8 54, .int .u8 55, .int .u8 56, .int .u8 57] : Array Value) = (bts [49, 50, 51, 52, 53, 54, 55, 56, 57]).toArray := rfl
  have hb : (bts [49, 50, 51, 52, 53, 54, 55, 56, 57])[i]? = some (.int .u8 c) := by
    unfold bts
    rw [List.getElem?_map, hc]
    rfl
  unfold World.cell?
  rw [hn, e]
  simpa using hb

set_option maxRecDepth 100000 in
set_option maxHeartbeats 1000000 in
theorem alive_any (w : World) : Calls Try.prog 14 #[] w fun e w' => e = .returned (.bool true) ∧ Below w.heap.size w w' := by
  have HIN : Hid (ModIn (w.alloc (.cells #[.int .i64 1, .int .i64 2] 48)).heap.size (w.alloc (.cells #[.int .i64 1, .int .i64 2] 48)) m0 (some ⟨w.heap.size, 0, none⟩) none) := by
    refine ⟨⟨by decide, by decide⟩, fun i x hx => ?_, fun i x hx => by simp [m0] at hx⟩
    match i, hx with
    | 0, hx =>
      simp [m0] at hx
      subst hx
      exact ⟨by decide, by decide, w.heap.size, 0, rfl, .inl (by simp), by simp, by simp⟩
    | i + 1, hx => simp [m0] at hx
  go_enter Try.func14, Try.ntmps14
  go_wp2_with fail
  refine (bytes_any m0 (some ⟨w.heap.size, 0, none⟩) none 1 0 _ HIN (Im.sealed [2, 2, 4, 0]) 0 (hide m0_bytes)).mono ?_
  rintro e w1 ⟨v, rfl, hown, hb⟩
  obtain ⟨a, c, rfl, hbin⟩ := own_bin hown (Im.sealed_lt (by intro c hc; simp at hc; omega))
  have hlen : (Im.sealed [2, 2, 4, 0]).length = 6 := rfl
  rw [hlen]
  obtain ⟨_, b, off, rfl, c2⟩ := hbin 2 4 rfl
  have HB : Hid (Below w.heap.size w w1) := ((Below.refl _ w).alloc (Nat.le_refl _) _).trans (hb.mono (by simp))
  have hsz := HB.out.size
  have hlt : b < w1.heap.size := by
    cases hh : w1.heap[b]? with
    | none => simp [World.cell?, hh] at c2
    | some o => exact lt_of_block hh
  clear hown hb hbin hlen HIN
  have hcv := Lib.run_convert_bytes_const (P := Try.prog) w1 26 5 #[.int .u8 49, .int .u8 50, .int .u8 51, .int .u8 52, .int .u8 53, .int .u8 54, .int .u8 55, .int .u8 56, .int .u8 57] 9 9 Try.underlying26 Try.underlying5
  have HK : Hid (10673 = Im.sum [49, 50, 51, 52, 53, 54, 55, 56, 57]) := known.symm
  go_wp2_with fail
  refine (sum_any [49, 50, 51, 52, 53, 54, 55, 56, 57] (some ⟨w1.heap.size, 0, none⟩) 9 (by decide) _ (hide (nine_bin _)) 10673 HK).mono ?_
  rintro e w3 ⟨rfl, rfl⟩
  go_wp2
  go_ret
  exact ⟨rfl, HB.out.alloc hsz _⟩

end Go.Proofs.Ytnfkfgpnojdfoaa
