/- The document's answer, chapter 7, walked: plain, Is. -/
import Derived.Test.YtfhombcgdkgcpaaVcR2
import Derived.Test.YtfhombcgdkgcpaaVc32
import Derived.Laws.IdiomStrings
namespace Go.Proofs.Ytfhombcgdkgcpaa
open Go.RowKit

set_option maxHeartbeats 400000 in
theorem rplain_any (t : Int) (w : World) (b : Bool) (hb : Hid (b = Vf.plain t)) :
    Calls Try.prog 28 #[.int .i64 t] w fun e w' => e = .returned (.bool b) ∧ w' = w := by
  rw [hb.out]
  unfold Vf.plain
  clear hb
  by_cases h1 : t = 1
  · have e1 : (t == 1) = true := by simpa using h1
    go_enter Try.func28, Try.ntmps28
    go_wp2
    go_ret
    rw [e1]
    exact ⟨rfl, rfl⟩
  · have e1 : (t == 1) = false := by simpa using h1
    go_enter Try.func28, Try.ntmps28
    go_wp2
    go_ret
    rw [e1]
    exact ⟨rfl, rfl⟩


theorem ris_any (m : Vf.Md) (ab au : Option Addr) (cb cu B : Nat) (k n : Int) (w : World) (hm : Hid (ModIn B w m ab au)) (hB : B ≤ w.heap.size) (b : Bool) (hb : Hid (b = Vf.is m k n)) :
    Calls Try.prog 46 #[mdV m ab au cb cu, .int .i64 n, .int .i64 k] w fun e w' => e = .returned (.bool b) ∧ w' = w.alloc (amO m ab au cb cu) := by
  by_cases h0 : 0 ≤ n
  · obtain ⟨j, rfl⟩ := nn_of h0
    by_cases h1 : j < m.units.length
    · obtain ⟨u, hu⟩ : ∃ u, m.units[j]? = some u := ⟨_, List.getElem?_eq_getElem h1⟩
      obtain ⟨bu, off, al, cl, ac, cc, ha, hbu, _, u0, _⟩ := hm.out.units j u hu
      have HR : Hid (b = (u.kind == k)) := by rw [hb.out, is_in hu]; rfl
      have hd : (0 : Int) ≤ (j : Int) := by omega
      have hd1 : (j : Int) < (m.units.length : Int) := by omega
      have hbl : bu < w.heap.size := by omega
      subst ha
      clear hu hb
      go_enter Try.func46, Try.ntmps46
      go_wp2
      go_ret
      rw [HR.out]
      exact ⟨rfl, rfl⟩
    · have HR : Hid (b = false) := by rw [hb.out, is_out (by omega)]; rfl
      have hd : (0 : Int) ≤ (j : Int) := by omega
      have hd1 : decide (j < m.units.length) = false := by simpa using h1
      go_enter Try.func46, Try.ntmps46
      go_wp2
      go_ret
      rw [HR.out]
      exact ⟨rfl, rfl⟩
  · have HR : Hid (b = false) := by rw [hb.out, is_neg h0]; rfl
    have hd : decide (0 ≤ n) = false := by simpa using h0
    go_enter Try.func46, Try.ntmps46
    go_wp2
    go_ret
    rw [HR.out]
    exact ⟨rfl, rfl⟩

end Go.Proofs.Ytfhombcgdkgcpaa
/- The document's answer, chapter 7, walked: Letter. -/
namespace Go.Proofs.Ytfhombcgdkgcpaa
open Go.RowKit

theorem add_at0 {b : Nat} : (⟨b, 0, none⟩ : Addr).add 0 = ⟨b, 0, none⟩ := by
  unfold Addr.add
  simp

set_option maxHeartbeats 400000 in
theorem rletter_one (w : World) : Calls Try.prog 33 #[.int .i64 1] w fun e w' => e = .returned (.string "n".toUTF8) ∧ w' = w := by
  go_enter Try.func33, Try.ntmps33
  go_wp2
  go_ret
  exact ⟨rfl, rfl⟩
set_option maxHeartbeats 400000 in
theorem rletter_two (w : World) : Calls Try.prog 33 #[.int .i64 2] w fun e w' => e = .returned (.string "b".toUTF8) ∧ w' = w := by
  go_enter Try.func33, Try.ntmps33
  go_wp2
  go_ret
  exact ⟨rfl, rfl⟩
set_option maxRecDepth 100000 in
set_option maxHeartbeats 400000 in
theorem rletter_gen (t : Int) (h10 : 10 ≤ t) (h40 : t < 40) (w : World) : Calls Try.prog 33 #[.int .i64 t] w fun e w' => e = .returned (.string ⟨#[UInt8.ofNat (55 + t).toNat]⟩) ∧ w.grownBy w' none := by
  have n1 : (t == 1) = false := by simp; omega
  have n2 : (t == 2) = false := by simp; omega
  have hb : ((UInt8.ofNat (55 + t).toNat).toNat : Int) = 65 + t - 10 := by
    rw [UInt8.toNat_ofNat']
    omega
  have hh : (w.alloc (.cells #[.int .u8 (65 + t - 10)] 5)).heap[w.heap.size]? = some (.cells #[.int .u8 (65 + t - 10)] 5 (0, 0)) := heap_alloc_new _ _
  have hcv : (convert 79 9 (.slice (some ⟨w.heap.size, 0, none⟩) 1 1)).run Try.prog (w.alloc (.cells #[.int .u8 (65 + t - 10)] 5)) = .ok (.string ⟨#[UInt8.ofNat (55 + t).toNat]⟩) (w.alloc (.cells #[.int .u8 (65 + t - 10)] 5)) := by
    refine run_convert_bytes_back (P := Try.prog) _ _ _ 5 ⟨w.heap.size, 0, none⟩ 1 [UInt8.ofNat (55 + t).toNat] Try.underlying79 Try.underlying5 Try.underlying9 (fun j hj => ?_)
    obtain rfl : j = 0 := by simp at hj; omega
    rw [add_at0]
    show _ = some (Value.int .u8 ((UInt8.ofNat (55 + t).toNat).toNat : Int))
    rw [hb]
    generalize w.alloc (.cells #[.int .u8 (65 + t - 10)] 5) = W at hh ⊢
    simp [World.cell?, hh]
  have hg : w.grownBy (w.alloc (.cells #[.int .u8 (65 + t - 10)] 5)) none := grown0_new (World.grownBy.refl _ _) _
  have HG := hide hg
  clear hb hh hg
  go_enter Try.func33, Try.ntmps33
  go_wp2
  go_ret
  exact ⟨rfl, HG.out⟩

end Go.Proofs.Ytfhombcgdkgcpaa
