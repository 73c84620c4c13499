/- The walk of each, for both looks; of shapes and flows. -/
import Derived.Test.YtbkimpimoclobaaM31
namespace Go.Proofs.Ytbkimpimoclobaa
open Go.RowKit

theorem new1 (w : World) (a b : Obj) : ((w.alloc a).alloc b).heap[w.heap.size + 1]? = some b := by
  have e : (w.alloc a).heap.size = w.heap.size + 1 := by simp
  rw [← e]
  exact heap_alloc_new _ _
theorem new2 (w : World) (a b c : Obj) : (((w.alloc a).alloc b).alloc c).heap[w.heap.size + 1 + 1]? = some c := by
  have e : ((w.alloc a).alloc b).heap.size = w.heap.size + 1 + 1 := by simp
  rw [← e]
  exact heap_alloc_new _ _
/-- Three blocks that are laid first. -/
theorem three_new (w : World) (a b c : Obj) : w.grownBy (((w.alloc a).alloc b).alloc c) none ∧ (((w.alloc a).alloc b).alloc c).heap[w.heap.size]? = some a ∧ (((w.alloc a).alloc b).alloc c).heap[w.heap.size + 1]? = some b ∧ (((w.alloc a).alloc b).alloc c).heap[w.heap.size + 1 + 1]? = some c :=
  ⟨grown0_new (two_new _ _ _) _, (Below.heap_alloc _ _ _ (by simp; omega)).trans ((Below.heap_alloc _ _ _ (by simp)).trans (heap_alloc_new _ _)), (Below.heap_alloc _ _ _ (by simp)).trans (new1 _ _ _), new2 _ _ _ _⟩

theorem wh_set {w : World} {N : Nat} {a b c : Value} (h : w.heap[N]? = some (.cells #[a, b, c] 28 (0, 0))) (x y z : Value) : (((w.setCell ⟨N, 0, none⟩ x).setCell ⟨N, 1, none⟩ y).setCell ⟨N, 2, none⟩ z).heap[N]? = some (.cells #[x, y, z] 28 (0, 0)) := by
  simp only [World.setCell, Array.getElem?_modify, if_true, h, Option.map_some]
  rfl



theorem grown0_setN {w w' : World} {N : Nat} (h : w.grownBy w' none) (hN : w.heap.size ≤ N) (o : Nat) (v : Value) : w.grownBy (w'.setCell ⟨N, o, none⟩ v) none :=
  ⟨h.os, h.tape, h.output, by have := h.size; simp [World.setCell]; omega, fun k hk hne => by
    rw [Below.heap_setCell _ ⟨N, o, none⟩ _ _ (by show k ≠ N; omega)]
    exact h.block k hk hne⟩

set_option maxRecDepth 100000 in
set_option maxHeartbeats 4000000 in
theorem eachS (m : Vf.Md) (ab au : Option Addr) (cb cu B : Nat) (w : World) (hmd : Hid (ModIn B w m ab au)) (hB : B ≤ w.heap.size) (hmu : m.units.length ≤ 30)  (er un num : Int) (hr : Hid ((er, un, num) = Vf.eachW (Vf.shapeF m) m.units 0)) :
    Calls Try.prog 21 #[mdV m ab au cb cu, .func (.func 22) #[] #[]] w fun e w' => e = .returned (whV er un num) ∧ w.grownBy w' none := by
  have hmf : ∀ (fn : Fn) (first cap : Array Value) (w : World), (Instr.makeFunc fn first cap).run Try.prog w = .ok (.func fn first cap) w := fun _ _ _ _ => rfl
  obtain ⟨W0, hW0⟩ : ∃ W0 : World, ((w.alloc (mdO m ab au cb cu)).alloc (lkO 22)).alloc whZ = W0 := ⟨_, rfl⟩
  obtain ⟨t0, t1, t2, t3⟩ := three_new w (mdO m ab au cb cu) (lkO 22) whZ
  rw [hW0] at t0 t1 t2 t3
  have HT0 := hide t0
  have HT1 := hide t1
  have HT2 := hide t2
  have HT3 := hide t3
  have HW0 := hide hW0
  clear t0 t1 t2 t3 hW0
  go_enter Try.func21, Try.ntmps21
  go_wp2
  go_loopw [12] (fun v wr => ∃ k : Nat, v = .int .i64 k ∧ EaAt (Vf.shapeF m) m.units W0 er un num k wr) (fun v _ => m.units.length - (intOf v).toNat)
  case atStart => exact ⟨0, rfl, Nat.zero_le _, by rw [← HW0.out]; exact World.grownBy.refl _ _, hr.out⟩
  case round =>
    obtain ⟨k, rfl, hA⟩ := hrel
    have HA := hide hA
    have hk := hA.le
    have HG : Hid (w.grownBy wr none) := grown0_tr' HT0.out HA.out.grown
    have hz := HG.out.size
    have hwh : wr.heap[w.heap.size + 1 + 1]? = some whZ := (kept0 HA.out.grown (lt_of_block HT3.out)).trans HT3.out
    have HWH := hide hwh
    have hlk : wr.heap[w.heap.size + 1]? = some (lkO 22) := (kept0 HA.out.grown (lt_of_block HT2.out)).trans HT2.out
    have hmb : wr.heap[w.heap.size]? = some (mdO m ab au cb cu) := (kept0 HA.out.grown (lt_of_block HT1.out)).trans HT1.out
    have HLK := hide hlk
    have HMB := hide hmb
    have hsz2 : w.heap.size + 1 + 1 < wr.heap.size := lt_of_block hwh
    obtain ⟨⟨z0, z1, z2⟩, y0, y1, y2⟩ := wh_cells hwh
    clear hA hwh hlk hmb
    by_cases hlt : k < m.units.length
    · obtain ⟨u, hu⟩ : ∃ u, m.units[k]? = some u := ⟨_, List.getElem?_eq_getElem hlt⟩
      have hmdr : ModIn B wr m ab au := hmd.out.low (low0 HG.out hB)
      obtain ⟨b, off, al, cl, ac, cc, ha, hb, hui, u0, u1, u2, u3, u4, u5⟩ := hmdr.units k u hu
      have HU := hide hu
      have HMD := hide hmdr
      have HUI := hide hui
      have hk1 : (k : Int) < (m.units.length : Int) := by omega
      obtain ⟨e1, n1, hen⟩ : ∃ (e1 : Int) (n1 : Nat), e1 = (Vf.shapeF m u).1 ∧ n1 = (Vf.shapeF m u).2 := ⟨_, _, rfl, rfl⟩
      have HEN := hide hen
      have HZ : Hid (e1 = 0 → (n1 : Int) = 0) := fun h0 => by
        have := Vf.shapeF_zero (show (Vf.shapeF m u).1 = 0 by rw [← hen.1]; exact h0)
        have h2 : (Vf.shapeF m u).2 = 0 := this
        rw [hen.2, h2]
        rfl
      have HN : Hid ((er, un, num) = if e1 = 0 then Vf.eachW (Vf.shapeF m) (m.units.drop (k + 1)) (k + 1) else (e1, (k : Int), (n1 : Int))) := by
        unfold Hid
        rw [HA.out.rest, each_drop _ hu, hen.1, hen.2]
      have HAU := hide ha
      clear hu hmdr hui hen ha
      rw [HAU.out]
      go_wp2_with fail
      obtain ⟨W1, hW1⟩ : ∃ W1 : World, W1 = wr.alloc (unO u al ac cl cc) := ⟨_, rfl⟩
      have HG1 : Hid (wr.grownBy W1 none) := by rw [hW1]; exact grown0_new (World.grownBy.refl _ _) _
      have HE1 : Hid (E1 22 ⟨m, u, ab, au, al, ac, cb, cu, cl, cc, 0⟩ (w.heap.size + 1) w.heap.size wr.heap.size (W1.alloc Z2C)) :=
        ⟨(Below.heap_alloc _ _ _ (by have := HG1.out.size; omega)).trans ((kept0 HG1.out (by omega)).trans HLK.out), (Below.heap_alloc _ _ _ (by have := HG1.out.size; omega)).trans ((kept0 HG1.out (by omega)).trans HMB.out), by
          have h1 : W1.heap[wr.heap.size]? = some (unO u al ac cl cc) := by rw [hW1]; exact heap_alloc_new _ _
          exact (Below.heap_alloc _ _ _ (lt_of_block h1)).trans h1⟩
      have HG2 : Hid (wr.grownBy (W1.alloc Z2C) none) := grown0_new HG1.out _
      have HW1 := hide hW1.symm
      rw [HW1.out]
      clear hW1
      refine (caught_any 37 #[.pointer (some ⟨w.heap.size + 1, 0, none⟩), .pointer (some ⟨w.heap.size, 0, none⟩), .pointer (some ⟨wr.heap.size, 0, none⟩)] e1 (n1 : Int) (fun wx => (W1.alloc Z2C).grownBy wx none) _ HZ.out ?_ ?_).mono ?_
      · intro w'
        first | rfl | kernel_rfl | simp [go_sem]
      · refine (each1S ⟨m, u, ab, au, al, ac, cb, cu, cl, cc, 0⟩ B (w.heap.size + 1) w.heap.size wr.heap.size _ HE1 (hide (HMD.out.low (low0 HG2.out (by omega)))) (hide (HUI.out.low (low0 HG2.out (by omega)))) (by have := HG2.out.size; omega) hmu e1 (n1 : Int) (hide (by rw [HEN.out.1, HEN.out.2]))).mono ?_
        rintro e wx ⟨hgx, hex⟩
        exact ⟨hgx, (kept0 hgx (by simp)).trans (heap_alloc_new _ _), hex⟩
      rintro e w2 ⟨rfl, wx, hgx, hzx, rfl⟩
      have HG3 : Hid (wr.grownBy ((wx.setCell ⟨W1.heap.size, 0, none⟩ (.int .i64 e1)).setCell ⟨W1.heap.size, 1, none⟩ (.int .i64 (n1 : Int))) none) := grown0_setN (grown0_setN (grown0_tr' HG2.out hgx) (by have := HG1.out.size; omega) _ _) (by have := HG1.out.size; omega) _ _
      obtain ⟨W3, hW3⟩ : ∃ W3 : World, (wx.setCell ⟨W1.heap.size, 0, none⟩ (.int .i64 e1)).setCell ⟨W1.heap.size, 1, none⟩ (.int .i64 (n1 : Int)) = W3 := ⟨_, rfl⟩
      rw [hW3] at HG3
      have HW3 := hide hW3
      rw [HW3.out]
      have hwh3 : W3.heap[w.heap.size + 1 + 1]? = some whZ := (kept0 HG3.out (by omega)).trans HWH.out
      have HWH3 := hide hwh3
      obtain ⟨⟨p0, p1, p2⟩, q0, q1, q2⟩ := wh_cells hwh3
      have hz3 := HG3.out.size
      have hsz3 : w.heap.size + 1 + 1 < W3.heap.size := by omega
      clear hgx hzx hwh3 hW3 z0 z1 z2 y0 y1 y2 u0 u1 u2 u3 u4 u5
      by_cases h0 : e1 = 0
      · have e0 : (e1 != 0) = false := by simpa using h0
        have HN2 : Hid ((er, un, num) = Vf.eachW (Vf.shapeF m) (m.units.drop (k + 1)) (k + 1)) := by have := HN.out; rw [if_pos h0] at this; exact this
        clear h0
        go_wp2
        go_roundw
        case rel => exact ⟨k + 1, by go_num, hlt, grown0_new (grown0_tr' HA.out.grown HG3.out) _, HN2.out⟩
        case measure => simp [intOf]; omega
      · have e0 : (e1 != 0) = true := by simpa using h0
        have HN2 : Hid (er = e1 ∧ un = (k : Int) ∧ num = (n1 : Int)) := by have := HN.out; rw [if_neg h0] at this; cases this; exact ⟨rfl, rfl, rfl⟩
        clear h0
        go_wp2
        have hX := wh_set HWH3.out (.int .i64 e1) (.int .i64 (k : Int)) (.int .i64 (n1 : Int))
        obtain ⟨⟨g0, g1, g2⟩, _⟩ := wh_cells ((Below.heap_alloc _ (.cells #[.int .i64 e1, .int .i64 (n1 : Int)] 86) _ (lt_of_block hX)).trans hX)
        refine bodyPost_ret (v := whV e1 (k : Int) (n1 : Int)) (by simp [results, Try.results21, go_sem, g0, g1, g2]) rfl ?_
        rw [HN2.out.1, HN2.out.2.1, HN2.out.2.2]
        exact ⟨rfl, grown0_new (grown0_setN (grown0_setN (grown0_setN (grown0_tr' HG.out HG3.out) (by omega) _ _) (by omega) _ _) (by omega) _ _) _⟩
    · have HN2 : Hid (er = 0 ∧ un = 0 ∧ num = 0) := by
        have := HA.out.rest
        rw [List.drop_eq_nil_of_le (by omega)] at this
        cases this
        exact ⟨rfl, rfl, rfl⟩
      go_wp2
      refine bodyPost_ret (v := whV 0 0 0) (by simp [results, Try.results21, go_sem, z0, z1, z2]) rfl ?_
      rw [HN2.out.1, HN2.out.2.1, HN2.out.2.2]
      exact ⟨rfl, grown0_setN (grown0_setN (grown0_setN HG.out (by omega) _ _) (by omega) _ _) (by omega) _ _⟩
set_option maxRecDepth 100000 in
set_option maxHeartbeats 4000000 in
theorem eachF (m : Vf.Md) (ab au : Option Addr) (cb cu B : Nat) (w : World) (hmd : Hid (ModIn B w m ab au)) (hB : B ≤ w.heap.size) (hmu : m.units.length ≤ 30) (hR : Hid (Rt m)) (er un num : Int) (hr : Hid ((er, un, num) = Vf.eachW (Vf.flowF m) m.units 0)) :
    Calls Try.prog 21 #[mdV m ab au cb cu, .func (.func 25) #[] #[]] w fun e w' => e = .returned (whV er un num) ∧ w.grownBy w' none := by
  have hmf : ∀ (fn : Fn) (first cap : Array Value) (w : World), (Instr.makeFunc fn first cap).run Try.prog w = .ok (.func fn first cap) w := fun _ _ _ _ => rfl
  obtain ⟨W0, hW0⟩ : ∃ W0 : World, ((w.alloc (mdO m ab au cb cu)).alloc (lkO 25)).alloc whZ = W0 := ⟨_, rfl⟩
  obtain ⟨t0, t1, t2, t3⟩ := three_new w (mdO m ab au cb cu) (lkO 25) whZ
  rw [hW0] at t0 t1 t2 t3
  have HT0 := hide t0
  have HT1 := hide t1
  have HT2 := hide t2
  have HT3 := hide t3
  have HW0 := hide hW0
  clear t0 t1 t2 t3 hW0
  go_enter Try.func21, Try.ntmps21
  go_wp2
  go_loopw [12] (fun v wr => ∃ k : Nat, v = .int .i64 k ∧ EaAt (Vf.flowF m) m.units W0 er un num k wr) (fun v _ => m.units.length - (intOf v).toNat)
  case atStart => exact ⟨0, rfl, Nat.zero_le _, by rw [← HW0.out]; exact World.grownBy.refl _ _, hr.out⟩
  case round =>
    obtain ⟨k, rfl, hA⟩ := hrel
    have HA := hide hA
    have hk := hA.le
    have HG : Hid (w.grownBy wr none) := grown0_tr' HT0.out HA.out.grown
    have hz := HG.out.size
    have hwh : wr.heap[w.heap.size + 1 + 1]? = some whZ := (kept0 HA.out.grown (lt_of_block HT3.out)).trans HT3.out
    have HWH := hide hwh
    have hlk : wr.heap[w.heap.size + 1]? = some (lkO 25) := (kept0 HA.out.grown (lt_of_block HT2.out)).trans HT2.out
    have hmb : wr.heap[w.heap.size]? = some (mdO m ab au cb cu) := (kept0 HA.out.grown (lt_of_block HT1.out)).trans HT1.out
    have HLK := hide hlk
    have HMB := hide hmb
    have hsz2 : w.heap.size + 1 + 1 < wr.heap.size := lt_of_block hwh
    obtain ⟨⟨z0, z1, z2⟩, y0, y1, y2⟩ := wh_cells hwh
    clear hA hwh hlk hmb
    by_cases hlt : k < m.units.length
    · obtain ⟨u, hu⟩ : ∃ u, m.units[k]? = some u := ⟨_, List.getElem?_eq_getElem hlt⟩
      have hmdr : ModIn B wr m ab au := hmd.out.low (low0 HG.out hB)
      obtain ⟨b, off, al, cl, ac, cc, ha, hb, hui, u0, u1, u2, u3, u4, u5⟩ := hmdr.units k u hu
      have HU := hide hu
      have HMD := hide hmdr
      have HUI := hide hui
      have hk1 : (k : Int) < (m.units.length : Int) := by omega
      obtain ⟨e1, n1, hen⟩ : ∃ (e1 : Int) (n1 : Nat), e1 = (Vf.flowF m u).1 ∧ n1 = (Vf.flowF m u).2 := ⟨_, _, rfl, rfl⟩
      have HEN := hide hen
      have HZ : Hid (e1 = 0 → (n1 : Int) = 0) := fun h0 => by
        have := Vf.flow_zero (Vf.mu u.code.length (Vf.start u) + 1) (Vf.start u) (show (Vf.flowF m u).1 = 0 by rw [← hen.1]; exact h0)
        have h2 : (Vf.flowF m u).2 = 0 := this
        rw [hen.2, h2]
        rfl
      have HN : Hid ((er, un, num) = if e1 = 0 then Vf.eachW (Vf.flowF m) (m.units.drop (k + 1)) (k + 1) else (e1, (k : Int), (n1 : Int))) := by
        unfold Hid
        rw [HA.out.rest, each_drop _ hu, hen.1, hen.2]
      have HAU := hide ha
      clear hu hmdr hui hen ha
      rw [HAU.out]
      go_wp2_with fail
      obtain ⟨W1, hW1⟩ : ∃ W1 : World, W1 = wr.alloc (unO u al ac cl cc) := ⟨_, rfl⟩
      have HG1 : Hid (wr.grownBy W1 none) := by rw [hW1]; exact grown0_new (World.grownBy.refl _ _) _
      have HE1 : Hid (E1 25 ⟨m, u, ab, au, al, ac, cb, cu, cl, cc, 0⟩ (w.heap.size + 1) w.heap.size wr.heap.size (W1.alloc Z2C)) :=
        ⟨(Below.heap_alloc _ _ _ (by have := HG1.out.size; omega)).trans ((kept0 HG1.out (by omega)).trans HLK.out), (Below.heap_alloc _ _ _ (by have := HG1.out.size; omega)).trans ((kept0 HG1.out (by omega)).trans HMB.out), by
          have h1 : W1.heap[wr.heap.size]? = some (unO u al ac cl cc) := by rw [hW1]; exact heap_alloc_new _ _
          exact (Below.heap_alloc _ _ _ (lt_of_block h1)).trans h1⟩
      have HG2 : Hid (wr.grownBy (W1.alloc Z2C) none) := grown0_new HG1.out _
      have HW1 := hide hW1.symm
      rw [HW1.out]
      clear hW1
      refine (caught_any 37 #[.pointer (some ⟨w.heap.size + 1, 0, none⟩), .pointer (some ⟨w.heap.size, 0, none⟩), .pointer (some ⟨wr.heap.size, 0, none⟩)] e1 (n1 : Int) (fun wx => (W1.alloc Z2C).grownBy wx none) _ HZ.out ?_ ?_).mono ?_
      · intro w'
        first | rfl | kernel_rfl | simp [go_sem]
      · refine (each1F ⟨m, u, ab, au, al, ac, cb, cu, cl, cc, 0⟩ B (w.heap.size + 1) w.heap.size wr.heap.size _ HE1 (hide (HMD.out.low (low0 HG2.out (by omega)))) (hide (HUI.out.low (low0 HG2.out (by omega)))) (by have := HG2.out.size; omega) hR (hide (hR.out.heads k u HU.out).1) (hide (hR.out.heads k u HU.out).2) e1 (n1 : Int) (hide (by rw [HEN.out.1, HEN.out.2]))).mono ?_
        rintro e wx ⟨hgx, hex⟩
        exact ⟨hgx, (kept0 hgx (by simp)).trans (heap_alloc_new _ _), hex⟩
      rintro e w2 ⟨rfl, wx, hgx, hzx, rfl⟩
      have HG3 : Hid (wr.grownBy ((wx.setCell ⟨W1.heap.size, 0, none⟩ (.int .i64 e1)).setCell ⟨W1.heap.size, 1, none⟩ (.int .i64 (n1 : Int))) none) := grown0_setN (grown0_setN (grown0_tr' HG2.out hgx) (by have := HG1.out.size; omega) _ _) (by have := HG1.out.size; omega) _ _
      obtain ⟨W3, hW3⟩ : ∃ W3 : World, (wx.setCell ⟨W1.heap.size, 0, none⟩ (.int .i64 e1)).setCell ⟨W1.heap.size, 1, none⟩ (.int .i64 (n1 : Int)) = W3 := ⟨_, rfl⟩
      rw [hW3] at HG3
      have HW3 := hide hW3
      rw [HW3.out]
      have hwh3 : W3.heap[w.heap.size + 1 + 1]? = some whZ := (kept0 HG3.out (by omega)).trans HWH.out
      have HWH3 := hide hwh3
      obtain ⟨⟨p0, p1, p2⟩, q0, q1, q2⟩ := wh_cells hwh3
      have hz3 := HG3.out.size
      have hsz3 : w.heap.size + 1 + 1 < W3.heap.size := by omega
      clear hgx hzx hwh3 hW3 z0 z1 z2 y0 y1 y2 u0 u1 u2 u3 u4 u5
      by_cases h0 : e1 = 0
      · have e0 : (e1 != 0) = false := by simpa using h0
        have HN2 : Hid ((er, un, num) = Vf.eachW (Vf.flowF m) (m.units.drop (k + 1)) (k + 1)) := by have := HN.out; rw [if_pos h0] at this; exact this
        clear h0
        go_wp2
        go_roundw
        case rel => exact ⟨k + 1, by go_num, hlt, grown0_new (grown0_tr' HA.out.grown HG3.out) _, HN2.out⟩
        case measure => simp [intOf]; omega
      · have e0 : (e1 != 0) = true := by simpa using h0
        have HN2 : Hid (er = e1 ∧ un = (k : Int) ∧ num = (n1 : Int)) := by have := HN.out; rw [if_neg h0] at this; cases this; exact ⟨rfl, rfl, rfl⟩
        clear h0
        go_wp2
        have hX := wh_set HWH3.out (.int .i64 e1) (.int .i64 (k : Int)) (.int .i64 (n1 : Int))
        obtain ⟨⟨g0, g1, g2⟩, _⟩ := wh_cells ((Below.heap_alloc _ (.cells #[.int .i64 e1, .int .i64 (n1 : Int)] 86) _ (lt_of_block hX)).trans hX)
        refine bodyPost_ret (v := whV e1 (k : Int) (n1 : Int)) (by simp [results, Try.results21, go_sem, g0, g1, g2]) rfl ?_
        rw [HN2.out.1, HN2.out.2.1, HN2.out.2.2]
        exact ⟨rfl, grown0_new (grown0_setN (grown0_setN (grown0_setN (grown0_tr' HG.out HG3.out) (by omega) _ _) (by omega) _ _) (by omega) _ _) _⟩
    · have HN2 : Hid (er = 0 ∧ un = 0 ∧ num = 0) := by
        have := HA.out.rest
        rw [List.drop_eq_nil_of_le (by omega)] at this
        cases this
        exact ⟨rfl, rfl, rfl⟩
      go_wp2
      refine bodyPost_ret (v := whV 0 0 0) (by simp [results, Try.results21, go_sem, z0, z1, z2]) rfl ?_
      rw [HN2.out.1, HN2.out.2.1, HN2.out.2.2]
      exact ⟨rfl, grown0_setN (grown0_setN (grown0_setN HG.out (by omega) _ _) (by omega) _ _) (by omega) _ _⟩

set_option maxRecDepth 100000 in
set_option maxHeartbeats 2000000 in
theorem shapes_any (m : Vf.Md) (ab au : Option Addr) (cb cu B : Nat) (w : World) (hmd : Hid (ModIn B w m ab au)) (hB : B ≤ w.heap.size) (hmu : m.units.length ≤ 30) (er un num : Int) (hr : Hid ((er, un, num) = Vf.eachW (Vf.shapeF m) m.units 0)) :
    Calls Try.prog 13 #[mdV m ab au cb cu] w fun e w' => e = .returned (whV er un num) ∧ w.grownBy w' none := by
  have HT := hide (two_new w (mdO m ab au cb cu) whZ)
  have HM : Hid (ModIn B ((w.alloc (mdO m ab au cb cu)).alloc whZ) m ab au) := hmd.out.low (low0 HT.out hB)
  go_enter Try.func13, Try.ntmps13
  go_wp2_with fail
  refine (eachS m ab au cb cu B _ HM (by simp; omega) hmu er un num hr).mono ?_
  rintro e w2 ⟨rfl, hg2⟩
  have HG2 : Hid (w.grownBy w2 none) := grown0_tr' HT.out hg2
  have hwh : w2.heap[w.heap.size + 1]? = some whZ := (kept0 hg2 (by simp)).trans (new1 _ _ _)
  obtain ⟨⟨z0, z1, z2⟩, y0, y1, y2⟩ := wh_cells hwh
  clear hg2 hwh
  go_wp2
  refine bodyPost_ret (v := whV er un num) (by simp [results, Try.results13, go_sem, z0, z1, z2]) rfl ?_
  exact ⟨rfl, grown0_setN (grown0_setN (grown0_setN HG2.out (by omega) _ _) (by omega) _ _) (by omega) _ _⟩

set_option maxRecDepth 100000 in
set_option maxHeartbeats 2000000 in
theorem flows_any (m : Vf.Md) (ab au : Option Addr) (cb cu B : Nat) (w : World) (hmd : Hid (ModIn B w m ab au)) (hB : B ≤ w.heap.size) (hR : Hid (Rt m)) (er un num : Int) (hr : Hid ((er, un, num) = Vf.eachW (Vf.flowF m) m.units 0)) :
    Calls Try.prog 15 #[mdV m ab au cb cu] w fun e w' => e = .returned (whV er un num) ∧ w.grownBy w' none := by
  have HT := hide (two_new w (mdO m ab au cb cu) whZ)
  have HM : Hid (ModIn B ((w.alloc (mdO m ab au cb cu)).alloc whZ) m ab au) := hmd.out.low (low0 HT.out hB)
  go_enter Try.func15, Try.ntmps15
  go_wp2_with fail
  refine (eachF m ab au cb cu B _ HM (by simp; omega) hR.out.units hR er un num hr).mono ?_
  rintro e w2 ⟨rfl, hg2⟩
  have HG2 : Hid (w.grownBy w2 none) := grown0_tr' HT.out hg2
  have hwh : w2.heap[w.heap.size + 1]? = some whZ := (kept0 hg2 (by simp)).trans (new1 _ _ _)
  obtain ⟨⟨z0, z1, z2⟩, y0, y1, y2⟩ := wh_cells hwh
  clear hg2 hwh
  go_wp2
  refine bodyPost_ret (v := whV er un num) (by simp [results, Try.results15, go_sem, z0, z1, z2]) rfl ?_
  exact ⟨rfl, grown0_setN (grown0_setN (grown0_setN HG2.out (by omega) _ _) (by omega) _ _) (by omega) _ _⟩

end Go.Proofs.Ytbkimpimoclobaa

