/- The walk of each, for both looks; of shapes and flows. -/
import Derived.Test.YtlicfdligldhdaaGreatDoorM29
import Derived.Test.YtlicfdligldhdaaGreatDoorM24
namespace Go.Proofs.YtlicfdligldhdaaGreatDoor
open Go.RowKit

theorem new1 (w : World) (a b : Obj) : ((w.alloc a).alloc b).heap[w.heap.size + 1]? = some b := by
  have e : (w.alloc a).heap.size = w.heap.size + 1 := by simp
  rw [← e]
  exact heap_alloc_new _ _
theorem new2 (w : World) (a b c : Obj) : (((w.alloc a).alloc b).alloc c).heap[w.heap.size + 1 + 1]? = some c := by
  have e : ((w.alloc a).alloc b).heap.size = w.heap.size + 1 + 1 := by simp
  rw [← e]
  exact heap_alloc_new _ _
/-- Three blocks that are laid first. -/
theorem three_new (w : World) (a b c : Obj) : w.grownBy (((w.alloc a).alloc b).alloc c) none ∧ (((w.alloc a).alloc b).alloc c).heap[w.heap.size]? = some a ∧ (((w.alloc a).alloc b).alloc c).heap[w.heap.size + 1]? = some b ∧ (((w.alloc a).alloc b).alloc c).heap[w.heap.size + 1 + 1]? = some c :=
  ⟨grown0_new (two_new _ _ _) _, (Below.heap_alloc _ _ _ (by simp; omega)).trans ((Below.heap_alloc _ _ _ (by simp)).trans (heap_alloc_new _ _)), (Below.heap_alloc _ _ _ (by simp)).trans (new1 _ _ _), new2 _ _ _ _⟩

theorem wh_set {w : World} {N : Nat} {a b c : Value} (h : w.heap[N]? = some (.cells #[a, b, c] 29 (0, 0))) (x y z : Value) : (((w.setCell ⟨N, 0, none⟩ x).setCell ⟨N, 1, none⟩ y).setCell ⟨N, 2, none⟩ z).heap[N]? = some (.cells #[x, y, z] 29 (0, 0)) := by
  simp only [World.setCell, Array.getElem?_modify, if_true, h, Option.map_some]
  rfl



theorem grown0_setN {w w' : World} {N : Nat} (h : w.grownBy w' none) (hN : w.heap.size ≤ N) (o : Nat) (v : Value) : w.grownBy (w'.setCell ⟨N, o, none⟩ v) none :=
  ⟨h.os, h.tape, h.output, by have := h.size; simp [World.setCell]; omega, fun k hk hne => by
    rw [Below.heap_setCell _ ⟨N, o, none⟩ _ _ (by show k ≠ N; omega)]
    exact h.block k hk hne⟩

set_option maxRecDepth 100000 in
set_option maxHeartbeats 4000000 in
theorem eachS (m : Vf.Md) (ab au : Option Addr) (cb cu B : Nat) (w : World) (hmd : Hid (ModIn B w m ab au)) (hB : B ≤ w.heap.size) (hmu : m.units.length ≤ 30)  (er un num : Int) (hr : Hid ((er, un, num) = Vf.eachW (Vf.shapeF m) m.units 0)) :
    Calls Tryz.prog 36 #[mdV m ab au cb cu, .func (.func 37) #[] #[]] w fun e w' => e = .returned (whV er un num) ∧ w.grownBy w' none := by
  have hmf : ∀ (fn : Fn) (first cap : Array Value) (w : World), (Instr.makeFunc fn first cap).run Tryz.prog w = .ok (.func fn first cap) w := fun _ _ _ _ => rfl
  obtain ⟨W0, hW0⟩ : ∃ W0 : World, ((w.alloc (mdO m ab au cb cu)).alloc (lkO 37)).alloc whZ = W0 := ⟨_, rfl⟩
  obtain ⟨t0, t1, t2, t3⟩ := three_new w (mdO m ab au cb cu) (lkO 37) whZ
  rw [hW0] at t0 t1 t2 t3
  have HT0 := hide t0
  have HT1 := hide t1
  have HT2 := hide t2
  have HT3 := hide t3
  have HW0 := hide hW0
  clear t0 t1 t2 t3 hW0
  go_enter Tryz.func36, Tryz.ntmps36
  go_wp2
  go_loopw [12] (fun v wr => ∃ k : Nat, v = .int .i64 k ∧ EaAt (Vf.shapeF m) m.units W0 er un num k wr) (fun v _ => m.units.length - (intOf v).toNat)
  case atStart => exact ⟨0, rfl, Nat.zero_le _, by rw [← HW0.out]; exact World.grownBy.refl _ _, hr.out⟩
  case round =>
    obtain ⟨k, rfl, hA⟩ := hrel
    have HA := hide hA
    have hk := hA.le
    have HG : Hid (w.grownBy wr none) := grown0_tr' HT0.out HA.out.grown
    have hz := HG.out.size
    have hwh : wr.heap[w.heap.size + 1 + 1]? = some whZ := (kept0 HA.out.grown (lt_of_block HT3.out)).trans HT3.out
    have HWH := hide hwh
    have hlk : wr.heap[w.heap.size + 1]? = some (lkO 37) := (kept0 HA.out.grown (lt_of_block HT2.out)).trans HT2.out
    have hmb : wr.heap[w.heap.size]? = some (mdO m ab au cb cu) := (kept0 HA.out.grown (lt_of_block HT1.out)).trans HT1.out
    have HLK := hide hlk
    have HMB := hide hmb
    have hsz2 : w.heap.size + 1 + 1 < wr.heap.size := lt_of_block hwh
    obtain ⟨⟨z0, z1, z2⟩, y0, y1, y2⟩ := wh_cells hwh
    clear hA hwh hlk hmb
    by_cases hlt : k < m.units.length
    · obtain ⟨u, hu⟩ : ∃ u, m.units[k]? = some u := ⟨_, List.getElem?_eq_getElem hlt⟩
      have hmdr : ModIn B wr m ab au := hmd.out.low (low0 HG.out hB)
      obtain ⟨b, off, al, cl, ac, cc, ha, hb, hui, u0, u1, u2, u3, u4, u5⟩ := hmdr.units k u hu
      have HU := hide hu
      have HMD := hide hmdr
      have HUI := hide hui
      have hk1 : (k : Int) < (m.units.length : Int) := by omega
      obtain ⟨e1, n1, hen⟩ : ∃ (e1 : Int) (n1 : Nat), e1 = (Vf.shapeF m u).1 ∧ n1 = (Vf.shapeF m u).2 := ⟨_, _, rfl, rfl⟩
      have HEN := hide hen
      have HZ : Hid (e1 = 0 → (n1 : Int) = 0) := fun h0 => by
        have := Vf.shapeF_zero (show (Vf.shapeF m u).1 = 0 by rw [← hen.1]; exact h0)
        have h2 : (Vf.shapeF m u).2 = 0 := this
        rw [hen.2, h2]
        rfl
      have HN : Hid ((er, un, num) = if e1 = 0 then Vf.eachW (Vf.shapeF m) (m.units.drop (k + 1)) (k + 1) else (e1, (k : Int), (n1 : Int))) := by
        unfold Hid
        rw [HA.out.rest, each_drop _ hu, hen.1, hen.2]
      have HAU := hide ha
      clear hu hmdr hui hen ha
      rw [HAU.out]
      go_wp2_with fail
      obtain ⟨W1, hW1⟩ : ∃ W1 : World, W1 = wr.alloc (unO u al ac cl cc) := ⟨_, rfl⟩
      have HG1 : Hid (wr.grownBy W1 none) := by rw [hW1]; exact grown0_new (World.grownBy.refl _ _) _
      have HE1 : Hid (E1 37 ⟨m, u, ab, au, al, ac, cb, cu, cl, cc, 0⟩ (w.heap.size + 1) w.heap.size wr.heap.size (W1.alloc Z2C)) :=
        ⟨(Below.heap_alloc _ _ _ (by have := HG1.out.size; omega)).trans ((kept0 HG1.out (by omega)).trans HLK.out), (Below.heap_alloc _ _ _ (by have := HG1.out.size; omega)).trans ((kept0 HG1.out (by omega)).trans HMB.out), by
          have h1 : W1.heap[wr.heap.size]? = some (unO u al ac cl cc) := by rw [hW1]; exact heap_alloc_new _ _
          exact (Below.heap_alloc _ _ _ (lt_of_block h1)).trans h1⟩
      have HG2 : Hid (wr.grownBy (W1.alloc Z2C) none) := grown0_new HG1.out _
      have HW1 := hide hW1.symm
      rw [HW1.out]
      clear hW1
      refine (caught_any 55 #[.pointer (some ⟨w.heap.size + 1, 0, none⟩), .pointer (some ⟨w.heap.size, 0, none⟩), .pointer (some ⟨wr.heap.size, 0, none⟩)] e1 (n1 : Int) (fun wx => (W1.alloc Z2C).grownBy wx none) _ HZ.out ?_ ?_).mono ?_
      · intro w'
        first | rfl | kernel_rfl | simp [go_sem]
      · refine (each1S ⟨m, u, ab, au, al, ac, cb, cu, cl, cc, 0⟩ B (w.heap.size + 1) w.heap.size wr.heap.size _ HE1 (hide (HMD.out.low (low0 HG2.out (by omega)))) (hide (HUI.out.low (low0 HG2.out (by omega)))) (by have := HG2.out.size; omega) hmu e1 (n1 : Int) (hide (by rw [HEN.out.1, HEN.out.2]))).mono ?_
        rintro e wx ⟨hgx, hex⟩
        exact ⟨hgx, (kept0 hgx (by simp)).trans (heap_alloc_new _ _), hex⟩
      rintro e w2 ⟨rfl, wx, hgx, hzx, rfl⟩
      have HG3 : Hid (wr.grownBy ((wx.setCell ⟨W1.heap.size, 0, none⟩ (.int .i64 e1)).setCell ⟨W1.heap.size, 1, none⟩ (.int .i64 (n1 : Int))) none) := grown0_setN (grown0_setN (grown0_tr' HG2.out hgx) (by have := HG1.out.size; omega) _ _) (by have := HG1.out.size; omega) _ _
      obtain ⟨W3, hW3⟩ : ∃ W3 : World, (wx.setCell ⟨W1.heap.size, 0, none⟩ (.int .i64 e1)).setCell ⟨W1.heap.size, 1, none⟩ (.int .i64 (n1 : Int)) = W3 := ⟨_, rfl⟩
      rw [hW3] at HG3
      have HW3 := hide hW3
      rw [HW3.out]
      have hwh3 : W3.heap[w.heap.size + 1 + 1]? = some whZ := (kept0 HG3.out (by omega)).trans HWH.out
      have HWH3 := hide hwh3
      obtain ⟨⟨p0, p1, p2⟩, q0, q1, q2⟩ := wh_cells hwh3
      have hz3 := HG3.out.size
      have hsz3 : w.heap.size + 1 + 1 < W3.heap.size := by omega
      clear hgx hzx hwh3 hW3 z0 z1 z2 y0 y1 y2 u0 u1 u2 u3 u4 u5
      by_cases h0 : e1 = 0
      · have e0 : (e1 != 0) = false := by simpa using h0
        have HN2 : Hid ((er, un, num) = Vf.eachW (Vf.shapeF m) (m.units.drop (k + 1)) (k + 1)) := by have := HN.out; rw [if_pos h0] at this; exact this
        clear h0
        go_wp2
        go_roundw
        case rel => exact ⟨k + 1, by go_num, hlt, grown0_new (grown0_tr' HA.out.grown HG3.out) _, HN2.out⟩
        case measure => simp [intOf]; omega
      · have e0 : (e1 != 0) = true := by simpa using h0
        have HN2 : Hid (er = e1 ∧ un = (k : Int) ∧ num = (n1 : Int)) := by have := HN.out; rw [if_neg h0] at this; cases this; exact ⟨rfl, rfl, rfl⟩
        clear h0
        go_wp2
        have hX := wh_set HWH3.out (.int .i64 e1) (.int .i64 (k : Int)) (.int .i64 (n1 : Int))
        obtain ⟨⟨g0, g1, g2⟩, _⟩ := wh_cells ((Below.heap_alloc _ (.cells #[.int .i64 e1, .int .i64 (n1 : Int)] 33) _ (lt_of_block hX)).trans hX)
        refine bodyPost_ret (v := whV e1 (k : Int) (n1 : Int)) (by simp [results, Tryz.results36, go_sem, g0, g1, g2]) rfl ?_
        rw [HN2.out.1, HN2.out.2.1, HN2.out.2.2]
        exact ⟨rfl, grown0_new (grown0_setN (grown0_setN (grown0_setN (grown0_tr' HG.out HG3.out) (by omega) _ _) (by omega) _ _) (by omega) _ _) _⟩
    · have HN2 : Hid (er = 0 ∧ un = 0 ∧ num = 0) := by
        have := HA.out.rest
        rw [List.drop_eq_nil_of_le (by omega)] at this
        cases this
        exact ⟨rfl, rfl, rfl⟩
      go_wp2
      refine bodyPost_ret (v := whV 0 0 0) (by simp [results, Tryz.results36, go_sem, z0, z1, z2]) rfl ?_
      rw [HN2.out.1, HN2.out.2.1, HN2.out.2.2]
      exact ⟨rfl, grown0_setN (grown0_setN (grown0_setN HG.out (by omega) _ _) (by omega) _ _) (by omega) _ _⟩
set_option maxRecDepth 100000 in
set_option maxHeartbeats 4000000 in
theorem eachF (m : Vf.Md) (ab au : Option Addr) (cb cu B : Nat) (w : World) (hmd : Hid (ModIn B w m ab au)) (hB : B ≤ w.heap.size) (hmu : m.units.length ≤ 30) (hR : Hid (Rt m)) (er un num : Int) (hr : Hid ((er, un, num) = Vf.eachW (Vf.flowF m) m.units 0)) :
    Calls Tryz.prog 36 #[mdV m ab au cb cu, .func (.func 40) #[] #[]] w fun e w' => e = .returned (whV er un num) ∧ w.grownBy w' none := by
  have hmf : ∀ (fn : Fn) (first cap : Array Value) (w : World), (Instr.makeFunc fn first cap).run Tryz.prog w = .ok (.func fn first cap) w := fun _ _ _ _ => rfl
  obtain ⟨W0, hW0⟩ : ∃ W0 : World, ((w.alloc (mdO m ab au cb cu)).alloc (lkO 40)).alloc whZ = W0 := ⟨_, rfl⟩
  obtain ⟨t0, t1, t2, t3⟩ := three_new w (mdO m ab au cb cu) (lkO 40) whZ
  rw [hW0] at t0 t1 t2 t3
  have HT0 := hide t0
  have HT1 := hide t1
  have HT2 := hide t2
  have HT3 := hide t3
  have HW0 := hide hW0
  clear t0 t1 t2 t3 hW0
  go_enter Tryz.func36, Tryz.ntmps36
  go_wp2
  go_loopw [12] (fun v wr => ∃ k : Nat, v = .int .i64 k ∧ EaAt (Vf.flowF m) m.units W0 er un num k wr) (fun v _ => m.units.length - (intOf v).toNat)
  case atStart => exact ⟨0, rfl, Nat.zero_le _, by rw [← HW0.out]; exact World.grownBy.refl _ _, hr.out⟩
  case round =>
    obtain ⟨k, rfl, hA⟩ := hrel
    have HA := hide hA
    have hk := hA.le
    have HG : Hid (w.grownBy wr none) := grown0_tr' HT0.out HA.out.grown
    have hz := HG.out.size
    have hwh : wr.heap[w.heap.size + 1 + 1]? = some whZ := (kept0 HA.out.grown (lt_of_block HT3.out)).trans HT3.out
    have HWH := hide hwh
    have hlk : wr.heap[w.heap.size + 1]? = some (lkO 40) := (kept0 HA.out.grown (lt_of_block HT2.out)).trans HT2.out
    have hmb : wr.heap[w.heap.size]? = some (mdO m ab au cb cu) := (kept0 HA.out.grown (lt_of_block HT1.out)).trans HT1.out
    have HLK := hide hlk
    have HMB := hide hmb
    have hsz2 : w.heap.size + 1 + 1 < wr.heap.size := lt_of_block hwh
    obtain ⟨⟨z0, z1, z2⟩, y0, y1, y2⟩ := wh_cells hwh
    clear hA hwh hlk hmb
    by_cases hlt : k < m.units.length
    · obtain ⟨u, hu⟩ : ∃ u, m.units[k]? = some u := ⟨_, List.getElem?_eq_getElem hlt⟩
      have hmdr : ModIn B wr m ab au := hmd.out.low (low0 HG.out hB)
      obtain ⟨b, off, al, cl, ac, cc, ha, hb, hui, u0, u1, u2, u3, u4, u5⟩ := hmdr.units k u hu
      have HU := hide hu
      have HMD := hide hmdr
      have HUI := hide hui
      have hk1 : (k : Int) < (m.units.length : Int) := by omega
      obtain ⟨e1, n1, hen⟩ : ∃ (e1 : Int) (n1 : Nat), e1 = (Vf.flowF m u).1 ∧ n1 = (Vf.flowF m u).2 := ⟨_, _, rfl, rfl⟩
      have HEN := hide hen
      have HZ : Hid (e1 = 0 → (n1 : Int) = 0) := fun h0 => by
        have := Vf.flow_zero (Vf.mu u.code.length (Vf.start u) + 1) (Vf.start u) (show (Vf.flowF m u).1 = 0 by rw [← hen.1]; exact h0)
        have h2 : (Vf.flowF m u).2 = 0 := this
        rw [hen.2, h2]
        rfl
      have HN : Hid ((er, un, num) = if e1 = 0 then Vf.eachW (Vf.flowF m) (m.units.drop (k + 1)) (k + 1) else (e1, (k : Int), (n1 : Int))) := by
        unfold Hid
        rw [HA.out.rest, each_drop _ hu, hen.1, hen.2]
      have HAU := hide ha
      clear hu hmdr hui hen ha
      rw [HAU.out]
      go_wp2_with fail
      obtain ⟨W1, hW1⟩ : ∃ W1 : World, W1 = wr.alloc (unO u al ac cl cc) := ⟨_, rfl⟩
      have HG1 : Hid (wr.grownBy W1 none) := by rw [hW1]; exact grown0_new (World.grownBy.refl _ _) _
      have HE1 : Hid (E1 40 ⟨m, u, ab, au, al, ac, cb, cu, cl, cc, 0⟩ (w.heap.size + 1) w.heap.size wr.heap.size (W1.alloc Z2C)) :=
        ⟨(Below.heap_alloc _ _ _ (by have := HG1.out.size; omega)).trans ((kept0 HG1.out (by omega)).trans HLK.out), (Below.heap_alloc _ _ _ (by have := HG1.out.size; omega)).trans ((kept0 HG1.out (by omega)).trans HMB.out), by
          have h1 : W1.heap[wr.heap.size]? = some (unO u al ac cl cc) := by rw [hW1]; exact heap_alloc_new _ _
          exact (Below.heap_alloc _ _ _ (lt_of_block h1)).trans h1⟩
      have HG2 : Hid (wr.grownBy (W1.alloc Z2C) none) := grown0_new HG1.out _
      have HW1 := hide hW1.symm
      rw [HW1.out]
      clear hW1
      refine (caught_any 55 #[.pointer (some ⟨w.heap.size + 1, 0, none⟩), .pointer (some ⟨w.heap.size, 0, none⟩), .pointer (some ⟨wr.heap.size, 0, none⟩)] e1 (n1 : Int) (fun wx => (W1.alloc Z2C).grownBy wx none) _ HZ.out ?_ ?_).mono ?_
      · intro w'
        first | rfl | kernel_rfl | simp [go_sem]
      · refine (each1F ⟨m, u, ab, au, al, ac, cb, cu, cl, cc, 0⟩ B (w.heap.size + 1) w.heap.size wr.heap.size _ HE1 (hide (HMD.out.low (low0 HG2.out (by omega)))) (hide (HUI.out.low (low0 HG2.out (by omega)))) (by have := HG2.out.size; omega) hR (hide (hR.out.heads k u HU.out).1) (hide (hR.out.heads k u HU.out).2) e1 (n1 : Int) (hide (by rw [HEN.out.1, HEN.out.2]))).mono ?_
        rintro e wx ⟨hgx, hex⟩
        exact ⟨hgx, (kept0 hgx (by simp)).trans (heap_alloc_new _ _), hex⟩
      rintro e w2 ⟨rfl, wx, hgx, hzx, rfl⟩
      have HG3 : Hid (wr.grownBy ((wx.setCell ⟨W1.heap.size, 0, none⟩ (.int .i64 e1)).setCell ⟨W1.heap.size, 1, none⟩ (.int .i64 (n1 : Int))) none) := grown0_setN (grown0_setN (grown0_tr' HG2.out hgx) (by have := HG1.out.size; omega) _ _) (by have := HG1.out.size; omega) _ _
      obtain ⟨W3, hW3⟩ : ∃ W3 : World, (wx.setCell ⟨W1.heap.size, 0, none⟩ (.int .i64 e1)).setCell ⟨W1.heap.size, 1, none⟩ (.int .i64 (n1 : Int)) = W3 := ⟨_, rfl⟩
      rw [hW3] at HG3
      have HW3 := hide hW3
      rw [HW3.out]
      have hwh3 : W3.heap[w.heap.size + 1 + 1]? = some whZ := (kept0 HG3.out (by omega)).trans HWH.out
      have HWH3 := hide hwh3
      obtain ⟨⟨p0, p1, p2⟩, q0, q1, q2⟩ := wh_cells hwh3
      have hz3 := HG3.out.size
      have hsz3 : w.heap.size + 1 + 1 < W3.heap.size := by omega
      clear hgx hzx hwh3 hW3 z0 z1 z2 y0 y1 y2 u0 u1 u2 u3 u4 u5
      by_cases h0 : e1 = 0
      · have e0 : (e1 != 0) = false := by simpa using h0
        have HN2 : Hid ((er, un, num) = Vf.eachW (Vf.flowF m) (m.units.drop (k + 1)) (k + 1)) := by have := HN.out; rw [if_pos h0] at this; exact this
        clear h0
        go_wp2
        go_roundw
        case rel => exact ⟨k + 1, by go_num, hlt, grown0_new (grown0_tr' HA.out.grown HG3.out) _, HN2.out⟩
        case measure => simp [intOf]; omega
      · have e0 : (e1 != 0) = true := by simpa using h0
        have HN2 : Hid (er = e1 ∧ un = (k : Int) ∧ num = (n1 : Int)) := by have := HN.out; rw [if_neg h0] at this; cases this; exact ⟨rfl, rfl, rfl⟩
        clear h0
        go_wp2
        have hX := wh_set HWH3.out (.int .i64 e1) (.int .i64 (k : Int)) (.int .i64 (n1 : Int))
        obtain ⟨⟨g0, g1, g2⟩, _⟩ := wh_cells ((Below.heap_alloc _ (.cells #[.int .i64 e1, .int .i64 (n1 : Int)] 33) _ (lt_of_block hX)).trans hX)
        refine bodyPost_ret (v := whV e1 (k : Int) (n1 : Int)) (by simp [results, Tryz.results36, go_sem, g0, g1, g2]) rfl ?_
        rw [HN2.out.1, HN2.out.2.1, HN2.out.2.2]
        exact ⟨rfl, grown0_new (grown0_setN (grown0_setN (grown0_setN (grown0_tr' HG.out HG3.out) (by omega) _ _) (by omega) _ _) (by omega) _ _) _⟩
    · have HN2 : Hid (er = 0 ∧ un = 0 ∧ num = 0) := by
        have := HA.out.rest
        rw [List.drop_eq_nil_of_le (by omega)] at this
        cases this
        exact ⟨rfl, rfl, rfl⟩
      go_wp2
      refine bodyPost_ret (v := whV 0 0 0) (by simp [results, Tryz.results36, go_sem, z0, z1, z2]) rfl ?_
      rw [HN2.out.1, HN2.out.2.1, HN2.out.2.2]
      exact ⟨rfl, grown0_setN (grown0_setN (grown0_setN HG.out (by omega) _ _) (by omega) _ _) (by omega) _ _⟩

set_option maxRecDepth 100000 in
set_option maxHeartbeats 2000000 in
theorem shapes_any (m : Vf.Md) (ab au : Option Addr) (cb cu B : Nat) (w : World) (hmd : Hid (ModIn B w m ab au)) (hB : B ≤ w.heap.size) (hmu : m.units.length ≤ 30) (er un num : Int) (hr : Hid ((er, un, num) = Vf.eachW (Vf.shapeF m) m.units 0)) :
    Calls Tryz.prog 18 #[mdV m ab au cb cu] w fun e w' => e = .returned (whV er un num) ∧ w.grownBy w' none := by
  have HT := hide (two_new w (mdO m ab au cb cu) whZ)
  have HM : Hid (ModIn B ((w.alloc (mdO m ab au cb cu)).alloc whZ) m ab au) := hmd.out.low (low0 HT.out hB)
  go_enter Tryz.func18, Tryz.ntmps18
  go_wp2_with fail
  refine (eachS m ab au cb cu B _ HM (by simp; omega) hmu er un num hr).mono ?_
  rintro e w2 ⟨rfl, hg2⟩
  have HG2 : Hid (w.grownBy w2 none) := grown0_tr' HT.out hg2
  have hwh : w2.heap[w.heap.size + 1]? = some whZ := (kept0 hg2 (by simp)).trans (new1 _ _ _)
  obtain ⟨⟨z0, z1, z2⟩, y0, y1, y2⟩ := wh_cells hwh
  clear hg2 hwh
  go_wp2
  refine bodyPost_ret (v := whV er un num) (by simp [results, Tryz.results18, go_sem, z0, z1, z2]) rfl ?_
  exact ⟨rfl, grown0_setN (grown0_setN (grown0_setN HG2.out (by omega) _ _) (by omega) _ _) (by omega) _ _⟩

set_option maxRecDepth 100000 in
set_option maxHeartbeats 2000000 in
theorem flows_any (m : Vf.Md) (ab au : Option Addr) (cb cu B : Nat) (w : World) (hmd : Hid (ModIn B w m ab au)) (hB : B ≤ w.heap.size) (hR : Hid (Rt m)) (er un num : Int) (hr : Hid ((er, un, num) = Vf.eachW (Vf.flowF m) m.units 0)) :
    Calls Tryz.prog 20 #[mdV m ab au cb cu] w fun e w' => e = .returned (whV er un num) ∧ w.grownBy w' none := by
  have HT := hide (two_new w (mdO m ab au cb cu) whZ)
  have HM : Hid (ModIn B ((w.alloc (mdO m ab au cb cu)).alloc whZ) m ab au) := hmd.out.low (low0 HT.out hB)
  go_enter Tryz.func20, Tryz.ntmps20
  go_wp2_with fail
  refine (eachF m ab au cb cu B _ HM (by simp; omega) hR.out.units hR er un num hr).mono ?_
  rintro e w2 ⟨rfl, hg2⟩
  have HG2 : Hid (w.grownBy w2 none) := grown0_tr' HT.out hg2
  have hwh : w2.heap[w.heap.size + 1]? = some whZ := (kept0 hg2 (by simp)).trans (new1 _ _ _)
  obtain ⟨⟨z0, z1, z2⟩, y0, y1, y2⟩ := wh_cells hwh
  clear hg2 hwh
  go_wp2
  refine bodyPost_ret (v := whV er un num) (by simp [results, Tryz.results20, go_sem, z0, z1, z2]) rfl ?_
  exact ⟨rfl, grown0_setN (grown0_setN (grown0_setN HG2.out (by omega) _ _) (by omega) _ _) (by omega) _ _⟩

end Go.Proofs.YtlicfdligldhdaaGreatDoor

/- The walk of gather. -/
namespace Go.Proofs.YtlicfdligldhdaaGreatDoor
open Go.RowKit

theorem grownM_tr {a b c : World} {M : Nat} (h : a.grownBy b (some M)) (k : b.grownBy c (some M)) : a.grownBy c (some M) := grown_tr h k
theorem grownM_of0 {a b : World} {M : Nat} (h : a.grownBy b none) : a.grownBy b (some M) := ⟨h.os, h.tape, h.output, h.size, fun k hk _ => h.block k hk (by simp)⟩
theorem lowM {B M : Nat} {w w' : World} (h : w.grownBy w' (some M)) (hM : B ≤ M) (hB : B ≤ w.heap.size) : Low B w w' := fun k hk => h.block k (by omega) (by simp; omega)
theorem LkIn.keep {w w' : World} {M : Nat} {l : LL} (h : LkIn w M l) (hk : w'.heap[M]? = w.heap[M]?) : LkIn w' M l := hk.trans h
theorem LkIn.alloc {w : World} {M : Nat} {l : LL} (h : LkIn w M l) (o : Obj) : LkIn (w.alloc o) M l := h.keep (Below.heap_alloc _ _ _ (lt_of_block h))
theorem LkIn.lt {w : World} {M : Nat} {l : LL} (h : LkIn w M l) : M < w.heap.size := lt_of_block h
abbrev lkB (k : Lk) : Obj := .cells #[.int .i64 k.1, .int .i64 k.2] 98 (0, 0)

theorem gatC_next {rec' : Int → LL → LL} {cs : List Vf.Ins} {l : LL} {j : Nat} {x : Vf.Ins} (h : cs[j]? = some x) : Vf.gatC rec' (cs.take (j + 1)) l = Vf.gstep rec' x (Vf.gatC rec' (cs.take j) l) := by
  obtain ⟨hj, rfl⟩ := List.getElem?_eq_some_iff.1 h
  unfold Vf.gatC
  rw [List.take_succ_eq_append_getElem hj, List.foldl_append]
  rfl

/-- What gather does, with so much still to be found. -/
def GC (m : Vf.Md) (ab au : Option Addr) (cb cu f : Nat) : Prop :=
  ∀ (B M k : Nat) (l : LL) (w : World), Hid (ModIn B w m ab au) → B ≤ w.heap.size → B ≤ M → Hid (LkIn w M l) → Hid (Vf.Wl l) → k < m.units.length → Hid (Vf.mus l < f ∧ Vf.tot l + 4000 * Vf.mus l + 4000 ≤ 300000) →
    Calls Tryz.prog 42 #[mdV m ab au cb cu, .int .i64 (k : Int), .map (some M)] w fun e w' => e = .returned (.tuple #[]) ∧ LkIn w' M (Vf.gat m f (k : Int) l) ∧ w.grownBy w' (some M)

/-- At the head of gather's loop. -/
structure GaAt (m : Vf.Md) (f : Nat) (cs : List Vf.Ins) (l : LL) (W0 : World) (M j : Nat) (W : World) : Prop where
  le : j ≤ cs.length
  lk : LkIn W M (Vf.gatC (Vf.gat m f) (cs.take j) l)
  grown : W0.grownBy W (some M)

theorem lk_cell {w : World} {N : Nat} {k : Lk} (h : w.heap[N]? = some (lkB k)) : w.cell? ⟨N, 0, none⟩ = some (.int .i64 k.1) ∧ w.cell? ⟨N, 1, none⟩ = some (.int .i64 k.2) := by simp [World.cell?, h]



set_option maxRecDepth 100000 in
set_option maxHeartbeats 4000000 in
theorem gather_succ (m : Vf.Md) (ab au : Option Addr) (cb cu f : Nat) (hR : Hid (Rt m)) (hf : Hid (GC m ab au cb cu f)) : GC m ab au cb cu (f + 1) := by
  intro B M k l w hmd hB hBM hlk hwl hk hbd
  obtain ⟨u, hu⟩ : ∃ u, m.units[k]? = some u := ⟨_, List.getElem?_eq_getElem hk⟩
  obtain ⟨b, off, al, cl, ac, cc, ha, hb, hui, u0, u1, u2, u3, u4, u5⟩ := hmd.out.units k u hu
  have hun := unit_of hu
  have hco := sized_true (headE_zero (hR.out.heads k u hu).1).2.1
  have hc4 : u.code.length ≤ 4000 := hco.2.2.2.2.2
  have HFO : Hid (Vf.Forms m u) := (hR.out.heads k u hu).2
  have hmu : m.units.length ≤ 30 := hR.out.units
  have HGE : Hid (Vf.gat m (f + 1) (k : Int) l = Vf.gatC (Vf.gat m f) u.code l) := by show Vf.gatC (Vf.gat m f) (Vf.unit m (k : Int)).code l = _; rw [hun]
  have hMlt := hlk.out.lt
  have HT0 : Hid (w.grownBy (w.alloc (mdO m ab au cb cu)) (some M)) := grownM_of0 (grown0_new (World.grownBy.refl _ _) _)
  have HL0 : Hid (LkIn (w.alloc (mdO m ab au cb cu)) M l) := hlk.out.alloc _
  have HUI := hide hui
  have hk1 : (k : Int) < (m.units.length : Int) := by omega
  clear hu hui hun hco
  subst ha
  have hbl : b < w.heap.size := by omega
  rw [HGE.out]
  go_enter Tryz.func42, Tryz.ntmps42
  go_wp2
  go_loopw [17] (fun v wr => ∃ j : Nat, v = .int .i64 j ∧ GaAt m f u.code l (w.alloc (mdO m ab (some ⟨b, off, none⟩) cb cu)) M j wr) (fun v _ => u.code.length - (intOf v).toNat)
  case atStart => exact ⟨0, rfl, Nat.zero_le _, HL0.out, World.grownBy.refl _ _⟩
  case round =>
    obtain ⟨j, rfl, hA⟩ := hrel
    have HA := hide hA
    have hj := hA.le
    have HG : Hid (w.grownBy wr (some M)) := grownM_tr HT0.out HA.out.grown
    have hz := HG.out.size
    clear hA
    by_cases hlt : j < u.code.length
    · obtain ⟨x, hx⟩ : ∃ x, u.code[j]? = some x := ⟨_, List.getElem?_eq_getElem hlt⟩
      have HMr : Hid (ModIn B wr m ab (some ⟨b, off, none⟩)) := hmd.out.low (lowM HG.out hBM hB)
      obtain ⟨_, _, _, bc, oc, hac, hbc, i0, i1, i2⟩ := (HUI.out.low (lowM HG.out hBM hB)).code j x hx
      have HX := hide hx
      obtain ⟨L, hL⟩ : ∃ L, L = Vf.gatC (Vf.gat m f) (u.code.take j) l := ⟨_, rfl⟩
      have HL : Hid (LkIn wr M L) := by rw [hL]; exact HA.out.lk
      have HGD : Hid (Vf.Gd j l L) := by
        have := Vf.gatC_gd (u := u) hmu (Vf.gat_gd hR.out f) (u.code.take j) l (fun c hc => HFO.out c (List.mem_of_mem_take hc)) hwl.out
        rw [List.length_take, Nat.min_eq_left hj, ← hL] at this
        exact this
      have HNX : Hid (Vf.gatC (Vf.gat m f) (u.code.take (j + 1)) l = Vf.gstep (Vf.gat m f) x L) := by rw [hL]; exact gatC_next hx
      have HFX : Hid (Vf.formE m u x = 0) := HFO.out x (List.mem_of_getElem? hx)
      have HLT : Hid (M < wr.heap.size) := HL.out.lt
      have hmb : wr.heap[w.heap.size]? = some (mdO m ab (some ⟨b, off, none⟩) cb cu) := (HA.out.grown.block _ (by simp) (by simp; omega)).trans (heap_alloc_new _ _)
      have HMB := hide hmb
      have hwz : w.heap.size < wr.heap.size := lt_of_block hmb
      have HCT : Hid (∀ q, 0 ≤ Vf.cnt q L ∧ Vf.cnt q L ≤ 300000) := fun q => ⟨Vf.cnt_nn HGD.out.wl q, by have h1 := Vf.cnt_le_tot HGD.out.wl q; have h2 := HGD.out.tot; have h3 := hbd.out.2; omega⟩
      obtain ⟨n0, hn0⟩ : ∃ n0, n0 = Vf.cnt (x.op, x.a) L := ⟨_, rfl⟩
      have hn1 : 0 ≤ n0 := by rw [hn0]; exact (HCT.out _).1
      have hn2 : n0 ≤ 300000 := by rw [hn0]; exact (HCT.out _).2
      have HN0 := hide hn0
      clear hx hL hmb
      have HAC := hide hac
      rw [HAC.out]
      by_cases h26 : x.op = 26 ∨ x.op = 27
      · have HN2 : Hid (Vf.gatC (Vf.gat m f) (u.code.take (j + 1)) l = Vf.bump (x.op, x.a) L) := by rw [HNX.out]; unfold Vf.gstep; rw [if_pos h26]; rfl
        obtain ⟨W2, hW2⟩ : ∃ W2 : World, (wr.alloc (insO x.op x.a x.n)).alloc (lkB (x.op, x.a)) = W2 := ⟨_, rfl⟩
        have hT2 : wr.grownBy W2 none := by rw [← hW2]; exact two_new _ _ _
        have hL2 : LkIn W2 M L := by rw [← hW2]; exact (HL.out.alloc _).alloc _
        have hi2 : W2.heap[wr.heap.size]? = some (insO x.op x.a x.n) := by rw [← hW2]; exact (Below.heap_alloc _ _ _ (by simp)).trans (heap_alloc_new _ _)
        have hk2 : W2.heap[wr.heap.size + 1]? = some (lkB (x.op, x.a)) := by rw [← hW2]; exact new1 _ _ _
        obtain ⟨w3, w4, b1, b2, b3, b4, b5, b6⟩ := run_bump (w := W2.drew) (M := M) (l := L) hL2 (x.op, x.a)
        have b0 := run_lookL (w := W2.drew) (M := M) (l := L) hL2 (x.op, x.a)
        have hg4 : wr.grownBy w4 (some M) := grownM_tr (grownM_of0 hT2) (grown_drew b6)
        have hwm := HLT.out
        have hi4 : w4.heap[wr.heap.size]? = some (insO x.op x.a x.n) := ((grown_drew b6).block _ (lt_of_block hi2) (by simp; omega)).trans hi2
        have hk4 : w4.heap[wr.heap.size + 1]? = some (lkB (x.op, x.a)) := ((grown_drew b6).block _ (lt_of_block hk2) (by simp; omega)).trans hk2
        have hi3 : w3.heap[wr.heap.size]? = some (insO x.op x.a x.n) := ((grown_drew b5).block _ (lt_of_block hi2) (by simp; omega)).trans hi2
        obtain ⟨q0, q1⟩ := lk_cell hk2
        have HB4 := hide b4
        have HG4 := hide hg4
        have HI4 := hide hi4
        have HK4 := hide hk4
        have HW2 := hide hW2
        clear hW2 hT2 hL2 hi2 hk2 b4 b5 b6 hg4 hi4 hk4 hi3
        rw [← hn0] at b1 b0 b2 b3
        clear hn0 hac
        have ew : IntKind.i64.wrap (n0 + 1) = n0 + 1 := by simp [IntKind.wrap, IntKind.bits, IntKind.signed]; omega
        rcases h26 with h | h
        · have e26 : (x.op == 26) = true := by simpa using h
          clear h
          go_wp2_with fail
          rw [HW2.out]
          go_region
          all_goals
            go_wp2
            go_roundw
            case rel => exact ⟨j + 1, by go_num, hlt, by rw [HN2.out]; exact HB4.out, grownM_tr HA.out.grown HG4.out⟩
            case measure => simp [intOf]; omega
        · have e26 : (x.op == 26) = false := by simp; omega
          have e27 : (x.op == 27) = true := by simpa using h
          clear h
          go_wp2_with fail
          rw [HW2.out]
          go_region
          all_goals
            go_wp2
            go_roundw
            case rel => exact ⟨j + 1, by go_num, hlt, by rw [HN2.out]; exact HB4.out, grownM_tr HA.out.grown HG4.out⟩
            case measure => simp [intOf]; omega
      · by_cases h23 : x.op = 23 ∨ x.op = 29
        · have e26 : (x.op == 26) = false := by simp; omega
          have e27 : (x.op == 27) = false := by simp; omega
          have ew : IntKind.i64.wrap (n0 + 1) = n0 + 1 := by simp [IntKind.wrap, IntKind.bits, IntKind.signed]; omega
          have hnx := HNX.out
          unfold Vf.gstep at hnx
          rw [if_neg h26, if_pos h23, ← hn0] at hnx
          have HN2 : Hid (Vf.gatC (Vf.gat m f) (u.code.take (j + 1)) l = if n0 = 0 then Vf.gat m f x.a (Vf.bump (x.op, x.a) L) else Vf.bump (x.op, x.a) L) := hnx
          have hka : ∃ ka : Nat, x.a = ka ∧ ka < m.units.length := by
            obtain ⟨_, _, hrg⟩ := formE_zero HFX.out
            have : ∃ kd, Vf.is m kd x.a = true := by
              rcases h23 with h | h
              · refine ⟨2, ?_⟩
                rw [← hrg]
                unfold Vf.ranged
                rw [if_neg (by omega), if_neg (by omega), if_neg (by omega), if_pos h]
              · refine ⟨3, ?_⟩
                rw [← hrg]
                unfold Vf.ranged
                rw [if_neg (by omega), if_neg (by omega), if_neg (by omega), if_neg (by omega), if_pos h]
            obtain ⟨kd, this⟩ := this
            obtain ⟨y, h3, _, h4⟩ := is_some this
            exact ⟨x.a.toNat, by omega, (List.getElem?_eq_some_iff.1 h3).1⟩
          obtain ⟨ka, hxa, hka⟩ := hka
          have HUV : Hid ((x.op, x.a) ∈ Vf.univ) := by rw [hxa]; exact Vf.univ_mem h23 (by omega)
          obtain ⟨W2, hW2⟩ : ∃ W2 : World, (wr.alloc (insO x.op x.a x.n)).alloc (lkB (x.op, x.a)) = W2 := ⟨_, rfl⟩
          have hT2 : wr.grownBy W2 none := by rw [← hW2]; exact two_new _ _ _
          have hL2 : LkIn W2 M L := by rw [← hW2]; exact (HL.out.alloc _).alloc _
          have hi2 : W2.heap[wr.heap.size]? = some (insO x.op x.a x.n) := by rw [← hW2]; exact (Below.heap_alloc _ _ _ (by simp)).trans (heap_alloc_new _ _)
          have hk2 : W2.heap[wr.heap.size + 1]? = some (lkB (x.op, x.a)) := by rw [← hW2]; exact new1 _ _ _
          obtain ⟨w3, w4, b1, b2, b3, b4, b5, b6⟩ := run_bump (w := W2.drew) (M := M) (l := L) hL2 (x.op, x.a)
          have b0 := run_lookL (w := W2.drew) (M := M) (l := L) hL2 (x.op, x.a)
          have hg4 : wr.grownBy w4 (some M) := grownM_tr (grownM_of0 hT2) (grown_drew b6)
          have hwm := HLT.out
          have hi4 : w4.heap[wr.heap.size]? = some (insO x.op x.a x.n) := ((grown_drew b6).block _ (lt_of_block hi2) (by simp; omega)).trans hi2
          have hk4 : w4.heap[wr.heap.size + 1]? = some (lkB (x.op, x.a)) := ((grown_drew b6).block _ (lt_of_block hk2) (by simp; omega)).trans hk2
          have hi3 : w3.heap[wr.heap.size]? = some (insO x.op x.a x.n) := ((grown_drew b5).block _ (lt_of_block hi2) (by simp; omega)).trans hi2
          obtain ⟨q0, q1⟩ := lk_cell hk2
          have HB4 := hide b4
          have HG4 := hide hg4
          have HI4 := hide hi4
          have HK4 := hide hk4
          have HW2 := hide hW2
          clear hW2 hT2 hL2 hi2 hk2 b4 b5 b6 hg4 hi4 hk4 hi3
          rw [← hn0] at b1 b0 b2 b3
          have hbn : Vf.cnt (x.op, x.a) (Vf.bump (x.op, x.a) L) = n0 + 1 := by rw [Vf.cnt_bump, if_pos rfl, hn0]
          have bl4 := run_lookL (w := w4) (M := M) (l := Vf.bump (x.op, x.a) L) HB4.out (x.op, x.a)
          rw [hbn] at bl4
          have HXA := hide hxa
          have hac2 := hac
          clear hn0 hac hnx hxa h26 hbn
          rcases h23 with h | h
          · have e23 : (x.op == 23) = true := by simpa using h
            clear h
            go_upto_region 11 with fail
            rw [HW2.out]
            go_cut [] (fun wx => wx = w4)
            case first =>
              go_region
              all_goals
                go_wp2_with fail
                go_meet
                rfl
            case rest =>
              subst hcut
              obtain ⟨r0, r1⟩ := lk_cell HK4.out
              obtain ⟨s0, s1, s2⟩ := ins_cells HI4.out
              have hg4z := HG4.out.size
              have hmb4 : wc.heap[w.heap.size]? = some (mdO m ab (some ⟨b, off, none⟩) cb cu) := (HG4.out.block _ hwz (by simp; omega)).trans HMB.out
              obtain ⟨t0, t1⟩ := md_cells hmb4
              clear hmb4 b0 b1 b2 b3 q0 q1 i0 i1 i2
              by_cases hz0 : n0 = 0
              · have HN3 : Hid (Vf.gatC (Vf.gat m f) (u.code.take (j + 1)) l = Vf.gat m f (ka : Int) (Vf.bump (x.op, x.a) L)) := by rw [HN2.out, if_pos hz0, ← HXA.out]; rfl
                have HNW : Hid (Vf.mus (Vf.bump (x.op, x.a) L) < f ∧ Vf.tot (Vf.bump (x.op, x.a) L) + 4000 * Vf.mus (Vf.bump (x.op, x.a) L) + 4000 ≤ 300000) := by
                  have h1 := Vf.mus_new HGD.out.wl HUV.out (by rw [← HN0.out]; exact hz0)
                  have h2 := HGD.out.mus
                  have h3 := HGD.out.tot
                  have h4 := hbd.out
                  have h5 := Vf.tot_bump (x.op, x.a) L
                  exact ⟨by omega, by omega⟩
                have e1 : (n0 + 1 == 1) = true := by simp; omega
                rw [HXA.out] at s1
                clear hz0
                go_wp2_with fail
                refine (hf.out B M ka (Vf.bump (x.op, x.a) L) _ (hide (HMr.out.low (lowM HG4.out hBM (by omega)))) (by omega) hBM HB4 (hide (HGD.out.wl.bump _)) hka HNW).mono ?_
                rintro e w9 ⟨rfl, hl9, hg9⟩
                have HL9 := hide hl9
                have HG9 := hide hg9
                clear hl9 hg9 r0 r1 s0 s1 s2 t0 t1 bl4
                go_wp2
                go_roundw
                case rel => exact ⟨j + 1, by go_num, hlt, by rw [HN3.out]; exact HL9.out, grownM_tr (grownM_tr HA.out.grown HG4.out) HG9.out⟩
                case measure => simp [intOf]; omega
              · have HN3 : Hid (Vf.gatC (Vf.gat m f) (u.code.take (j + 1)) l = Vf.bump (x.op, x.a) L) := by rw [HN2.out, if_neg hz0]; rfl
                have e1 : (n0 + 1 == 1) = false := by simp; omega
                clear hz0
                go_wp2
                go_roundw
                case rel => exact ⟨j + 1, by go_num, hlt, by rw [HN3.out]; exact HB4.out, grownM_tr HA.out.grown HG4.out⟩
                case measure => simp [intOf]; omega
          · have e23 : (x.op == 23) = false := by simp; omega
            have e29 : (x.op == 29) = true := by simpa using h
            clear h
            go_upto_region 11 with fail
            rw [HW2.out]
            go_cut [] (fun wx => wx = w4)
            case first =>
              go_region
              all_goals
                go_wp2_with fail
                go_meet
                rfl
            case rest =>
              subst hcut
              obtain ⟨r0, r1⟩ := lk_cell HK4.out
              obtain ⟨s0, s1, s2⟩ := ins_cells HI4.out
              have hg4z := HG4.out.size
              have hmb4 : wc.heap[w.heap.size]? = some (mdO m ab (some ⟨b, off, none⟩) cb cu) := (HG4.out.block _ hwz (by simp; omega)).trans HMB.out
              obtain ⟨t0, t1⟩ := md_cells hmb4
              clear hmb4 b0 b1 b2 b3 q0 q1 i0 i1 i2
              by_cases hz0 : n0 = 0
              · have HN3 : Hid (Vf.gatC (Vf.gat m f) (u.code.take (j + 1)) l = Vf.gat m f (ka : Int) (Vf.bump (x.op, x.a) L)) := by rw [HN2.out, if_pos hz0, ← HXA.out]; rfl
                have HNW : Hid (Vf.mus (Vf.bump (x.op, x.a) L) < f ∧ Vf.tot (Vf.bump (x.op, x.a) L) + 4000 * Vf.mus (Vf.bump (x.op, x.a) L) + 4000 ≤ 300000) := by
                  have h1 := Vf.mus_new HGD.out.wl HUV.out (by rw [← HN0.out]; exact hz0)
                  have h2 := HGD.out.mus
                  have h3 := HGD.out.tot
                  have h4 := hbd.out
                  have h5 := Vf.tot_bump (x.op, x.a) L
                  exact ⟨by omega, by omega⟩
                have e1 : (n0 + 1 == 1) = true := by simp; omega
                rw [HXA.out] at s1
                clear hz0
                go_wp2_with fail
                refine (hf.out B M ka (Vf.bump (x.op, x.a) L) _ (hide (HMr.out.low (lowM HG4.out hBM (by omega)))) (by omega) hBM HB4 (hide (HGD.out.wl.bump _)) hka HNW).mono ?_
                rintro e w9 ⟨rfl, hl9, hg9⟩
                have HL9 := hide hl9
                have HG9 := hide hg9
                clear hl9 hg9 r0 r1 s0 s1 s2 t0 t1 bl4
                go_wp2
                go_roundw
                case rel => exact ⟨j + 1, by go_num, hlt, by rw [HN3.out]; exact HL9.out, grownM_tr (grownM_tr HA.out.grown HG4.out) HG9.out⟩
                case measure => simp [intOf]; omega
              · have HN3 : Hid (Vf.gatC (Vf.gat m f) (u.code.take (j + 1)) l = Vf.bump (x.op, x.a) L) := by rw [HN2.out, if_neg hz0]; rfl
                have e1 : (n0 + 1 == 1) = false := by simp; omega
                clear hz0
                go_wp2
                go_roundw
                case rel => exact ⟨j + 1, by go_num, hlt, by rw [HN3.out]; exact HB4.out, grownM_tr HA.out.grown HG4.out⟩
                case measure => simp [intOf]; omega
        · have HN2 : Hid (Vf.gatC (Vf.gat m f) (u.code.take (j + 1)) l = L) := by rw [HNX.out]; unfold Vf.gstep; rw [if_neg h26, if_neg h23]; rfl
          have e26 : (x.op == 26) = false := by simp; omega
          have e27 : (x.op == 27) = false := by simp; omega
          have e23 : (x.op == 23) = false := by simp; omega
          have e29 : (x.op == 29) = false := by simp; omega
          clear h26 h23 hn0 hac
          go_wp2
          go_roundw
          case rel => exact ⟨j + 1, by go_num, hlt, by rw [HN2.out]; exact (HL.out.alloc _).alloc _, grownM_tr HA.out.grown (grownM_of0 (two_new _ _ _))⟩
          case measure => simp [intOf]; omega
    · have HE : Hid (LkIn wr M (Vf.gatC (Vf.gat m f) u.code l)) := by have := HA.out.lk; rw [List.take_of_length_le (by omega)] at this; exact this
      go_wp2
      go_end0
      exact ⟨rfl, HE.out, HG.out⟩

theorem gather_zero (m : Vf.Md) (ab au : Option Addr) (cb cu : Nat) : GC m ab au cb cu 0 := fun _ _ _ _ _ _ _ _ _ _ _ h => absurd h.out.1 (Nat.not_lt_zero _)
/-- WHAT gather DOES. -/
theorem gather_any (m : Vf.Md) (ab au : Option Addr) (cb cu : Nat) (hR : Rt m) : ∀ f, GC m ab au cb cu f
  | 0 => gather_zero m ab au cb cu
  | f + 1 => gather_succ m ab au cb cu f hR (gather_any m ab au cb cu hR f)

end Go.Proofs.YtlicfdligldhdaaGreatDoor

