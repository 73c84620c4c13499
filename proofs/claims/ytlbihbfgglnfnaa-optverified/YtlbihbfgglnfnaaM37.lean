/- Two Wheres, held against each other. -/
import Derived.Test.YtlbihbfgglnfnaaM28
import Derived.Test.YtlbihbfgglnfnaaM36
namespace Go.Proofs.Ytlbihbfgglnfnaa
open Go.RowKit

theorem Try.infoerrno : (Try.prog.info? 27).map (fun i => i.size) = some 1 := by kernel_rfl
theorem eq_errno (d : Nat) (x y : Int) (w : World) : (Op.equalIn (d + 1) 27 (.int .i64 x) (.int .i64 y)).run Try.prog w = .ok (x == y) w := by
  simp [Op.equalIn, run_underlying Try.underlying27]
/-- Two Wheres, held against each other. -/
theorem eq_where (a b c a' b' c' : Int) (w : World) : (Op.equalIn 10000 29 (whV a b c) (whV a' b' c')).run Try.prog w = .ok (a == a' && b == b' && c == c') w := by
  have hu := run_underlying (P := Try.prog) (w := w) Try.underlying29
  obtain ⟨j, hj, hj2⟩ := Option.map_eq_some_iff.1 Try.infolink
  obtain ⟨j', hj', hj2'⟩ := Option.map_eq_some_iff.1 Try.infoerrno
  have p0 : ∀ (a b c : Value) (w : World), (part 27 #[a, b, c] 0).run Try.prog w = .ok a w := fun _ _ _ _ => by simp [part, sizeOf, typeInfo, hj', hj2']
  have p1 : ∀ (a b c : Value) (w : World), (part 3 #[a, b, c] 1).run Try.prog w = .ok b w := fun _ _ _ _ => by simp [part, sizeOf, typeInfo, hj, hj2]
  have p2 : ∀ (a b c : Value) (w : World), (part 3 #[a, b, c] 2).run Try.prog w = .ok c w := fun _ _ _ _ => by simp [part, sizeOf, typeInfo, hj, hj2]
  have hst : Try.prog.stoodInHeld 29 = false := by kernel_rfl
  have hp : (Sem.program Sem.pure).run Try.prog w = .ok Try.prog w := rfl
  have h : ∀ d : Nat, (Op.equalIn (d + 2) 29 (whV a b c) (whV a' b' c')).run Try.prog w = .ok (a == a' && b == b' && c == c') w := fun d => by
    rw [Op.equalIn]
    simp [hu, program, hp, hst, p0, p1, p2, eq_int, eq_errno]
    by_cases ha : a = a'
    · by_cases hb : b = b'
      · by_cases hc : c = c'
        · simp [ha, hb, hc]
        · simp [ha, hb, hc]
      · simp [ha, hb]
    · simp [ha]
  exact h 9998

end Go.Proofs.Ytlbihbfgglnfnaa

/- The walk of OptVerified. -/
namespace Go.Proofs.Ytlbihbfgglnfnaa.Ow
open Go.RowKit Vf Vm Ot

set_option maxHeartbeats 2000000 in
set_option maxRecDepth 100000 in
theorem verified_any (m : Md) (ab au : Option Addr) (cb cu : Nat) (w : World) (hin : ModIn w.heap.size w m ab au) :
    Calls Try.prog 3 #[modV m ab au cb cu] w fun e w' => e = .returned (.bool true) ∧ Below w.heap.size w w' := by
  have HIN := hide hin
  clear hin
  have HLOW : Hid (∀ W : World, Below w.heap.size w W → w.heap.size ≤ W.heap.size ∧ ModIn w.heap.size W m ab au) := fun W h => ⟨h.size, HIN.out.low h.block⟩
  obtain ⟨V, hV⟩ : ∃ V, V = w.alloc (modO m ab au cb cu) := ⟨_, rfl⟩
  have HBV : Hid (Below w.heap.size w V) := by rw [hV]; exact one_below _ _
  have HN0 : Hid (V.heap[w.heap.size]? = some (modO m ab au cb cu)) := by rw [hV]; exact heap_alloc_new _ _
  have HV := hide hV.symm
  clear hV
  go_enter Try.func3, Try.ntmps3
  go_wp2_with fail
  rw [HV.out]
  clear HV
  refine (alive_any V).mono ?_
  rintro e w1 ⟨rfl, hb1⟩
  have HB1 : Hid (Below w.heap.size w w1) := below_onO HBV.out hb1
  have HN1 := hide (keepB hb1 HN0.out)
  clear hb1 HBV HN0
  obtain ⟨a0, a1, _, _⟩ := two_cells HN1.out
  have hmd := module_any w.heap.size m ab au cb cu w1 (hide (HLOW.out _ HB1.out).1) (hide (HLOW.out _ HB1.out).2)
  unfold ModV at hmd
  obtain ⟨r, hr⟩ : ∃ r, r = verify m := ⟨_, rfl⟩
  obtain ⟨n, hn⟩ : ∃ n, n = made m := ⟨_, rfl⟩
  rw [← hr, ← hn] at hmd
  have HMD := hide hmd
  have HR := hide hr
  have HN := hide hn
  clear hmd hr hn
  go_wp2_with fail
  refine HMD.out.mono ?_
  rintro e w2 ⟨nb, cnb, nu, cnu, rfl, hM, hb2⟩
  obtain ⟨W2, hW2⟩ : ∃ W2, W2 = (w2.alloc (modO n nb nu cnb cnu)).alloc (.cells #[.int .i64 r.1, .int .i64 r.2.1, .int .i64 r.2.2] 29) := ⟨_, rfl⟩
  have hbW : Below w2.heap.size w2 W2 := by rw [hW2]; exact two_belowO _ _ _
  have HB2 : Hid (Below w.heap.size w W2) := below_onO (below_onO HB1.out hb2) hbW
  have HA : Hid (W2.heap[w.heap.size]? = some (modO m ab au cb cu)) := keepB hbW (keepB hb2 HN1.out)
  have HNN : Hid (W2.heap[w2.heap.size]? = some (modO n nb nu cnb cnu)) := by rw [hW2]; exact oldO _ _ _
  have HWW : Hid (W2.heap[w2.heap.size + 1]? = some (.cells #[.int .i64 r.1, .int .i64 r.2.1, .int .i64 r.2.2] 29 (0, 0))) := by rw [hW2]; exact newO _ _ _
  have HMN : Hid (ModIn w2.heap.size W2 n nb nu) := hM.low hbW.block
  have HZ2 := hide hbW.size
  have HW2 := hide hW2.symm
  clear hW2 hbW hb2 hM HMD a0 a1 HN1
  go_upto_region 4 with fail
  rw [HW2.out]
  clear HW2
  generalize hQ : w2.heap.size = Q at *
  generalize hNN : w.heap.size = N at *
  have hAl := lt_of_block HA.out
  have hNl := lt_of_block HNN.out
  have hWl := lt_of_block HWW.out
  obtain ⟨a0, a1, _, _⟩ := two_cells HA.out
  obtain ⟨n0, n1, _, _⟩ := two_cells HNN.out
  obtain ⟨w0, w1', w2', _, _, _⟩ := three_cells HWW.out
  by_cases h0 : r.1 = 0
  · have e1 : (r.1 != 0) = false := by simpa using h0
    have hz : verify m = (0, 0, 0) := verify_zero (by rw [← HR.out]; exact h0)
    have hns : n = shortM m := by rw [HN.out]; unfold made; rw [hz]; rfl
    have hvn : (0, 0, 0) = verify n := by rw [hns]; exact (short_right hz).symm
    have hver := verify_any n nb nu cnb cnu Q W2 HMN HZ2.out (0, 0, 0) (hide hvn)
    have HVR := hide hver
    have heq : ∀ W : World, (Op.equalIn 10000 29 (whV 0 0 0) (whV 0 0 0)).run Try.prog W = .ok true W := fun W => by
      have := eq_where 0 0 0 0 0 0 W
      simpa using this
    clear h0 hz hns hvn hver
    go_wp2_with fail
    refine HVR.out.mono ?_
    rintro e w3 ⟨rfl, hg3⟩
    have HB3 : Hid (Below N w w3) := HB2.out.trans ((grown_belowO hg3).mono (Nat.le_of_lt hAl))
    clear hg3 HVR
    go_wp2
    go_ret
    exact ⟨rfl, by rw [hNN]; exact HB3.out⟩
  · have e1 : (r.1 != 0) = true := by simpa using h0
    have hnz : n = ⟨[], []⟩ := by rw [HN.out]; unfold made; rw [← HR.out, if_neg h0]
    subst hnz
    have heq : ∀ W : World, (Op.equalIn 10000 29 (whV r.1 r.2.1 r.2.2) (whV r.1 r.2.1 r.2.2)).run Try.prog W = .ok true W := fun W => by
      have := eq_where r.1 r.2.1 r.2.2 r.1 r.2.1 r.2.2 W
      simpa using this
    clear h0
    go_wp2
    go_region_held3 (fun w' => w'.cell? ⟨N, 0, none⟩ = some (.slice ab m.boxes.length cb) ∧ w'.cell? ⟨N, 1, none⟩ = some (.slice au m.units.length cu) ∧ w'.cell? ⟨Q, 1, none⟩ = some (.slice nu 0 cnu) ∧ w'.cell? ⟨Q + 1, 0, none⟩ = some (.int .i64 r.1) ∧ w'.cell? ⟨Q + 1, 1, none⟩ = some (.int .i64 r.2.1) ∧ w'.cell? ⟨Q + 1, 2, none⟩ = some (.int .i64 r.2.2)) (go_keep) ((go_at_call 8; refine (verify_any m ab au cb cu N (World.drew W2) (hide ((HLOW.out _ HB2.out).2.low (w' := World.drew W2) (fun _ _ => rfl))) (HLOW.out _ HB2.out).1 r HR).mono ?_; rintro e w3 ⟨rfl, hg3⟩; have HB3 : Hid (Below W2.heap.size W2 w3) := below_onO (w1 := World.drew W2) ⟨rfl, rfl, rfl, Nat.le_refl _, fun _ _ => rfl⟩ (grown_belowO hg3); clear hg3; have k0 := (HB3.out.cell (p := ⟨N, 0, none⟩) hAl).trans a0; have k1 := (HB3.out.cell (p := ⟨N, 1, none⟩) hAl).trans a1; have k2 := (HB3.out.cell (p := ⟨Q, 1, none⟩) hNl).trans n1; have k3 := (HB3.out.cell (p := ⟨Q + 1, 0, none⟩) hWl).trans w0; have k4 := (HB3.out.cell (p := ⟨Q + 1, 1, none⟩) hWl).trans w1'; have k5 := (HB3.out.cell (p := ⟨Q + 1, 2, none⟩) hWl).trans w2'))
    go_wp2
    go_ret
    exact ⟨rfl, by rw [hNN]; exact HB2.out.trans (HB3.out.mono (Nat.le_of_lt hAl))⟩
end Go.Proofs.Ytlbihbfgglnfnaa.Ow

