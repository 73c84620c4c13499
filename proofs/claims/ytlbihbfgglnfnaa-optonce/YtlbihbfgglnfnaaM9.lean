/- The walk of opt's first rule: what comes of two constants. -/
import Derived.Test.YtlbihbfgglnfnaaM8
import Derived.Maps.RangeWalk
namespace Go.Proofs.Ytlbihbfgglnfnaa.Ow
open Go.RowKit Vf Vm Ot

theorem word_at (op a n : Int) (w : World) :
    Calls Try.prog 73 #[.agg #[.int .i64 op, .int .i64 a, .int .i64 n]] w fun e w' => e = .returned (.int .i64 (word ⟨op, a, n⟩)) ∧ w' = w.alloc (inO ⟨op, a, n⟩) := word_any ⟨op, a, n⟩ w
theorem word_lo (op a n : Int) (w : World) :
    Calls Try.prog 73 #[.agg #[.int .i64 op, .int .i64 a, .int .i64 n]] w fun e w' => e = .returned (.int .i64 (word ⟨op, a, n⟩)) ∧ Below w.heap.size w w' := (word_at op a n w).mono fun e w' ⟨h1, h2⟩ => ⟨h1, by rw [h2]; exact one_below _ _⟩
abbrev chO : Obj := .cells #[.int .i64 0, .slice none 0 0] 82
theorem set2_below {w W : World} (h : Below w.heap.size w W) (x y : Value) : Below w.heap.size w ((W.setCell ⟨w.heap.size, 0, none⟩ x).setCell ⟨w.heap.size, 1, none⟩ y) := (h.setCell (p := ⟨w.heap.size, 0, none⟩) (Nat.le_refl _) x).setCell (p := ⟨w.heap.size, 1, none⟩) (Nat.le_refl _) y

set_option maxHeartbeats 600000 in
set_option maxRecDepth 100000 in
theorem reckon_any (lo hi : Nat) (w0 : World) : RuleC lo hi w0 49 #[] (fun _ => rule1) := by
  refine ⟨fun args w => by kernel_rfl, fun k l b off cap B w hk hl0 hl hC hB _ => ?_⟩
  have HBV : Hid (∀ d x y, Below w.heap.size w ((((w.alloc chO).drewN d).setCell ⟨w.heap.size, 0, none⟩ x).setCell ⟨w.heap.size, 1, none⟩ y)) := fun d x y => set2_below (drewN_below (one_below w chO) d) x y
  cases l with
  | nil => simp at hl0
  | cons a r =>
  cases r with
  | nil =>
    have HR : Hid (rule1 [a] = (0, [])) := rfl
    clear hC hl hl0
    go_enter Try.func49, Try.ntmps49
    go_wp2
    go_quiet (fail)
    go_wp2
    exact bodyPost_ret (v := .agg #[.int .i64 0, .slice none 0 0]) (by simp [results, Try.results49, go_sem]) rfl ⟨_, _, _, by rw [HR.out]; rfl, by rw [HR.out]; exact .none _ _, HBV.out _ _ _⟩
  | cons c r =>
  cases r with
  | nil =>
    have HR : Hid (rule1 [a, c] = (0, [])) := rfl
    clear hC hl hl0
    go_enter Try.func49, Try.ntmps49
    go_wp2
    go_quiet (fail)
    go_wp2
    exact bodyPost_ret (v := .agg #[.int .i64 0, .slice none 0 0]) (by simp [results, Try.results49, go_sem]) rfl ⟨_, _, _, by rw [HR.out]; rfl, by rw [HR.out]; exact .none _ _, HBV.out _ _ _⟩
  | cons d r =>
    obtain ⟨hb, a0, a1, a2⟩ := code_cells hC (i := 0) (x := a) rfl
    obtain ⟨_, c0, c1, c2⟩ := code_cells hC (i := 1) (x := c) rfl
    obtain ⟨_, d0, d1, d2⟩ := code_cells hC (i := 2) (x := d) rfl
    rw [Nat.zero_mul, Nat.add_zero] at a0 a1 a2
    rw [Nat.one_mul] at c0 c1 c2
    rw [show 2 * 3 = 6 from rfl] at d0 d1 d2
    have hbw : b < w.heap.size := by omega
    have HE := hide (rule1_eq a c d r)
    obtain ⟨n, hn⟩ : ∃ n, n = (a :: c :: d :: r).length := ⟨_, rfl⟩
    rw [← hn]
    have n0 : (0 : Int) < (n : Int) := by rw [hn]; simp; omega
    have n0' : 0 < n := by omega
    have n1 : (1 : Int) < (n : Int) := by rw [hn]; simp; omega
    have n2 : (2 : Int) < (n : Int) := by rw [hn]; simp; omega
    have n3 : ¬ (n : Int) < 3 := by omega
    clear hC hn hl hl0 d1 d2
    by_cases h1 : a.op = c.op
    · have e1 : (a.op != c.op) = false := by simpa using h1
      obtain ⟨q, hq⟩ : ∃ q, q = reckons a.op d.op := ⟨_, rfl⟩
      have HQ := hide hq
      have H1 := hide h1
      clear hq h1
      go_enter Try.func49, Try.ntmps49
      go_upto_region 1 with fail
      have x0 : (w.alloc chO).drew.cell? ⟨b, off, none⟩ = some (.int .i64 a.op) := alloc_cell a0
      have x3 : (w.alloc chO).drew.cell? ⟨b, off + 3, none⟩ = some (.int .i64 c.op) := alloc_cell c0
      have x6 : (w.alloc chO).drew.cell? ⟨b, off + 6, none⟩ = some (.int .i64 d.op) := alloc_cell d0
      refine wp_region_held_drew (S := fun w' => w'.cell? ⟨b, off, none⟩ = some (.int .i64 a.op) ∧ w'.cell? ⟨b, off + 3, none⟩ = some (.int .i64 c.op) ∧ w'.cell? ⟨b, off + 6, none⟩ = some (.int .i64 d.op)) (by kernel_rfl) ⟨x0, x3, x6⟩ (fun hHeld => ?_)
      clear x0 x3 x6
      refine wpAnyH_take (i := 0) (oi := _) (v := ?_) rfl (by kernel_rfl) (by kernel_rfl) (by kernel_rfl) (fun _ _ _ h => h) (Or.inl ⟨by kernel_rfl, ?_⟩) (by assumption) ?_
      rotate_left
      · intro w hSw
        (try dsimp only at hSw)
        go_simp
        (try with_reducible rfl)
      (try simp only [Act.put])
      (try go_frame)
      refine wpAnyH_take (i := 1) (oi := _) (v := ?_) rfl (by kernel_rfl) (by kernel_rfl) (by kernel_rfl) (fun _ _ _ h => h) (Or.inl ⟨by kernel_rfl, ?_⟩) (by assumption) ?_
      rotate_left
      · intro w hSw
        (try dsimp only at hSw)
        go_simp
        (try with_reducible rfl)
      (try simp only [Act.put])
      (try go_frame)
      refine wpAnyH_take (i := 2) (oi := _) (v := ?_) rfl (by kernel_rfl) (by kernel_rfl) (by kernel_rfl) (fun _ _ _ h => h) (Or.inl ⟨by kernel_rfl, ?_⟩) (by assumption) ?_
      rotate_left
      · intro w hSw
        (try dsimp only at hSw)
        go_simp
        (try with_reducible rfl)
      (try simp only [Act.put])
      (try go_frame)
      refine wpAnyH_take (i := 3) (oi := _) (v := ?_) rfl (by kernel_rfl) (by kernel_rfl) (by kernel_rfl) (fun _ _ _ h => h) (Or.inl ⟨by kernel_rfl, ?_⟩) (by assumption) ?_
      rotate_left
      · intro w hSw
        (try dsimp only at hSw)
        go_simp
        (try with_reducible rfl)
      (try simp only [Act.put])
      (try go_frame)
      refine wpAnyH_take (i := 4) (oi := _) (v := ?_) rfl (by kernel_rfl) (by kernel_rfl) (by kernel_rfl) (fun _ _ _ h => h) (Or.inl ⟨by kernel_rfl, ?_⟩) (by assumption) ?_
      rotate_left
      · intro w hSw
        (try dsimp only at hSw)
        go_simp
        (try with_reducible rfl)
      (try simp only [Act.put])
      (try go_frame)
      refine wpAnyH_take (i := 5) (oi := _) (v := ?_) rfl (by kernel_rfl) (by kernel_rfl) (by kernel_rfl) (fun _ _ _ h => h) (Or.inl ⟨by kernel_rfl, ?_⟩) (by assumption) ?_
      rotate_left
      · intro w hSw
        (try dsimp only at hSw)
        go_simp
        (try with_reducible rfl)
      (try simp only [Act.put])
      (try go_frame)
      refine wpAnyH_take (i := 6) (oi := _) (v := ?_) rfl (by kernel_rfl) (by kernel_rfl) (by kernel_rfl) (fun _ _ _ h => h) (Or.inl ⟨by kernel_rfl, ?_⟩) (by assumption) ?_
      rotate_left
      · intro w hSw
        (try dsimp only at hSw)
        go_simp
        (try with_reducible rfl)
      (try simp only [Act.put])
      (try go_frame)
      refine wpAnyH_take (i := 7) (oi := _) (v := ?_) rfl (by kernel_rfl) (by kernel_rfl) (by kernel_rfl) (fun _ _ _ h => h) (Or.inl ⟨by kernel_rfl, ?_⟩) (by assumption) ?_
      rotate_left
      · intro w hSw
        (try dsimp only at hSw)
        go_simp
        (try with_reducible rfl)
      (try simp only [Act.put])
      (try go_frame)
      refine wpAnyH_take (i := 8) (oi := _) (v := ?_) rfl (by kernel_rfl) (by kernel_rfl) (by kernel_rfl) (fun _ _ _ h => h) (Or.inl ⟨by kernel_rfl, ?_⟩) (by assumption) ?_
      rotate_left
      · intro w hSw
        (try dsimp only at hSw)
        go_simp
        (try with_reducible rfl)
      (try simp only [Act.put])
      (try go_frame)
      refine wpAnyH_take (i := 9) (oi := _) (v := ?_) rfl (by kernel_rfl) (by kernel_rfl) (by kernel_rfl) (fun _ _ _ h => h) (Or.inl ⟨by kernel_rfl, ?_⟩) (by assumption) ?_
      rotate_left
      · intro w hSw
        (try dsimp only at hSw)
        go_simp
        (try with_reducible rfl)
      (try simp only [Act.put])
      (try go_frame)
      refine wpAnyH_take (i := 10) (oi := _) (v := ?_) rfl (by kernel_rfl) (by kernel_rfl) (by kernel_rfl) (fun _ _ _ h => h) (Or.inl ⟨by kernel_rfl, ?_⟩) (by assumption) ?_
      rotate_left
      · intro w hSw
        (try dsimp only at hSw)
        go_simp
        (try with_reducible rfl)
      (try simp only [Act.put])
      (try go_frame)
      refine wpAnyH_take (i := 11) (oi := _) (v := ?_) rfl (by kernel_rfl) (by kernel_rfl) (by kernel_rfl) (fun _ _ _ h => h) (Or.inl ⟨by kernel_rfl, ?_⟩) (by assumption) ?_
      rotate_left
      · intro w hSw
        (try dsimp only at hSw)
        go_simp
        (try with_reducible rfl)
      (try simp only [Act.put])
      (try go_frame)
      refine wpAnyH_take (i := 12) (oi := _) (v := ?_) rfl (by kernel_rfl) (by kernel_rfl) (by kernel_rfl) (fun _ _ _ h => h) (Or.inl ⟨by kernel_rfl, ?_⟩) (by assumption) ?_
      rotate_left
      · intro w hSw
        (try dsimp only at hSw)
        go_simp
        (try with_reducible rfl)
      (try simp only [Act.put])
      (try go_frame)
      refine wpAnyH_take (i := 13) (oi := _) (v := ?_) rfl (by kernel_rfl) (by kernel_rfl) (by kernel_rfl) (fun _ _ _ h => h) (Or.inl ⟨by kernel_rfl, ?_⟩) (by assumption) ?_
      rotate_left
      · intro w hSw
        (try dsimp only at hSw)
        go_simp
        (try with_reducible rfl)
      (try simp only [Act.put])
      (try go_frame)
      refine wpAnyH_take (i := 14) (oi := _) (v := ?_) rfl (by kernel_rfl) (by kernel_rfl) (by kernel_rfl) (fun _ _ _ h => h) (Or.inl ⟨by kernel_rfl, ?_⟩) (by assumption) ?_
      rotate_left
      · intro w hSw
        (try dsimp only at hSw)
        go_simp
        (try with_reducible rfl)
      (try simp only [Act.put])
      (try go_frame)
      refine wpAnyH_take (i := 15) (oi := _) (v := ?_) rfl (by kernel_rfl) (by kernel_rfl) (by kernel_rfl) (fun _ _ _ h => h) (Or.inl ⟨by kernel_rfl, ?_⟩) (by assumption) ?_
      rotate_left
      · intro w hSw
        (try dsimp only at hSw)
        go_simp
        (try with_reducible rfl)
      (try simp only [Act.put])
      (try go_frame)
      refine wpAnyH_take (i := 16) (oi := _) (v := ?_) rfl (by kernel_rfl) (by kernel_rfl) (by kernel_rfl) (fun _ _ _ h => h) (Or.inl ⟨by kernel_rfl, ?_⟩) (by assumption) ?_
      rotate_left
      · intro w hSw
        (try dsimp only at hSw)
        go_simp
        (try with_reducible rfl)
      (try simp only [Act.put])
      (try go_frame)
      refine wpAnyH_take (i := 17) (oi := _) (v := ?_) rfl (by kernel_rfl) (by kernel_rfl) (by kernel_rfl) (fun _ _ _ h => h) (Or.inl ⟨by kernel_rfl, ?_⟩) (by assumption) ?_
      rotate_left
      · intro w hSw
        (try dsimp only at hSw)
        go_simp
        (try with_reducible rfl)
      (try simp only [Act.put])
      (try go_frame)
      refine wpAnyH_take (i := 18) (oi := _) (v := ?_) rfl (by kernel_rfl) (by kernel_rfl) (by kernel_rfl) (fun _ _ _ h => h) (Or.inl ⟨by kernel_rfl, ?_⟩) (by assumption) ?_
      rotate_left
      · intro w hSw
        (try dsimp only at hSw)
        go_simp
        (try with_reducible rfl)
      (try simp only [Act.put])
      (try go_frame)
      refine wpAnyH_take (i := 19) (oi := _) (v := ?_) rfl (by kernel_rfl) (by kernel_rfl) (by kernel_rfl) (fun _ _ _ h => h) (Or.inl ⟨by kernel_rfl, ?_⟩) (by assumption) ?_
      rotate_left
      · intro w hSw
        (try dsimp only at hSw)
        go_simp
        (try with_reducible rfl)
      (try simp only [Act.put])
      (try go_frame)
      refine wpAnyH_take (i := 20) (oi := _) (v := ?_) rfl (by kernel_rfl) (by kernel_rfl) (by kernel_rfl) (fun _ _ _ h => h) (Or.inl ⟨by kernel_rfl, ?_⟩) (by assumption) ?_
      rotate_left
      · intro w hSw
        (try dsimp only at hSw)
        go_simp
        (try with_reducible rfl)
      (try simp only [Act.put])
      (try go_frame)
      refine wpAnyH_take (i := 21) (oi := _) (v := ?_) rfl (by kernel_rfl) (by kernel_rfl) (by kernel_rfl) (fun _ _ _ h => h) (Or.inl ⟨by kernel_rfl, ?_⟩) (by assumption) ?_
      rotate_left
      · intro w hSw
        (try dsimp only at hSw)
        go_simp
        (try with_reducible rfl)
      (try simp only [Act.put])
      (try go_frame)
      refine wpAnyH_take (i := 22) (oi := _) (v := ?_) rfl (by kernel_rfl) (by kernel_rfl) (by kernel_rfl) (fun _ _ _ h => h) (Or.inl ⟨by kernel_rfl, ?_⟩) (by assumption) ?_
      rotate_left
      · intro w hSw
        (try dsimp only at hSw)
        go_simp
        (try with_reducible rfl)
      (try simp only [Act.put])
      (try go_frame)
      refine wpAnyH_ready (rs := [23]) (by kernel_rfl) (by simp) ?_
      refine AllReadyH.cons (o := _) rfl (fun K hK => ?_) AllReadyH.nil
      go_simp
      refine (reckons_any a.op d.op _ q HQ).mono ?_
      rintro e w1 ⟨rfl, rfl⟩
      refine hK.out _ _ (by assumption) (fun hHeld => ?_)
      clear hK K
      (try simp only [Act.put])
      (try go_frame)
      refine wpAnyH_take (i := 24) (oi := _) (v := ?_) rfl (by kernel_rfl) (by kernel_rfl) (by kernel_rfl) (fun _ _ _ h => h) (Or.inl ⟨by kernel_rfl, ?_⟩) (by assumption) ?_
      rotate_left
      · intro w hSw
        (try dsimp only at hSw)
        go_simp
        (try with_reducible rfl)
      (try simp only [Act.put])
      (try go_frame)
      refine wpAnyH_ready (rs := [25]) (by kernel_rfl) (by simp) ?_
      refine AllReadyH.cons (o := _) rfl (fun K hK => ?_) AllReadyH.nil
      go_simp
      refine hK.out _ _ (by assumption) (fun hHeld => ?_)
      clear hK K
      refine wpAnyH_done (by kernel_rfl) ?_ _
      clear hHeld
      cases q with
      | false =>
        have HR : Hid (rule1 (a :: c :: d :: r) = (0, [])) := by unfold Hid; rw [HE.out, if_neg (fun h => by have := h.2.1; rw [← HQ.out] at this; cases this)]
        clear HE HQ e1
        go_wp2
        exact bodyPost_ret (v := .agg #[.int .i64 0, .slice none 0 0]) (by simp [results, Try.results49, go_sem]) rfl ⟨_, _, _, by rw [HR.out]; rfl, by rw [HR.out]; exact .none _ _, Below.drew (one_below w chO)⟩
      | true =>
        have hbn : ¬ w.heap.size = b := by omega
        have HKC : Hid (∀ W : World, Below (w.alloc chO).heap.size (w.alloc chO) W → W.cell? ⟨b, off, none⟩ = some (.int .i64 a.op) ∧ W.cell? ⟨b, off + 1, none⟩ = some (.int .i64 a.a) ∧ W.cell? ⟨b, off + 2, none⟩ = some (.int .i64 a.n) ∧ W.cell? ⟨b, off + 3, none⟩ = some (.int .i64 c.op) ∧ W.cell? ⟨b, off + 3 + 1, none⟩ = some (.int .i64 c.a) ∧ W.cell? ⟨b, off + 3 + 2, none⟩ = some (.int .i64 c.n)) := fun W h => ⟨(h.cell (p := ⟨b, off, none⟩) (by simp; omega)).trans (alloc_cell a0), (h.cell (p := ⟨b, off + 1, none⟩) (by simp; omega)).trans (alloc_cell a1), (h.cell (p := ⟨b, off + 2, none⟩) (by simp; omega)).trans (alloc_cell a2), (h.cell (p := ⟨b, off + 3, none⟩) (by simp; omega)).trans (alloc_cell c0), (h.cell (p := ⟨b, off + 3 + 1, none⟩) (by simp; omega)).trans (alloc_cell c1), (h.cell (p := ⟨b, off + 3 + 2, none⟩) (by simp; omega)).trans (alloc_cell c2)⟩
        by_cases hz : word c = 0 ∧ (d.op = 11 ∨ d.op = 12)
        · have HR : Hid (rule1 (a :: c :: d :: r) = (0, [])) := by unfold Hid; rw [HE.out, if_neg (fun h => h.2.2 hz)]
          have HZ := hide hz
          clear HE HQ e1 hz H1
          go_wp2
          go_region_held3 (fun w' => w'.cell? ⟨b, off, none⟩ = some (.int .i64 a.op) ∧ w'.cell? ⟨b, off + 1, none⟩ = some (.int .i64 a.a) ∧ w'.cell? ⟨b, off + 2, none⟩ = some (.int .i64 a.n) ∧ w'.cell? ⟨b, off + 3, none⟩ = some (.int .i64 c.op) ∧ w'.cell? ⟨b, off + 3 + 1, none⟩ = some (.int .i64 c.a) ∧ w'.cell? ⟨b, off + 3 + 2, none⟩ = some (.int .i64 c.n)) (go_keep) (first | (go_at_call 72; refine (Vw.reckoned_zero d.op (word a) (word c) _ HZ.out).mono ?_; rintro e w4 ⟨rfl, rfl⟩) | (go_at_call 73; have hx1 := HX1.out; refine (word_lo _ _ _ _).mono ?_; rintro e w3 ⟨rfl, hb3⟩; have HX2 : Hid (Below (w.alloc chO).heap.size (w.alloc chO) w3) := hx1.trans (hb3.mono hx1.size); clear hb3 hx1; have k0 := (HKC.out _ HX2.out).1; have k1 := (HKC.out _ HX2.out).2.1; have k2 := (HKC.out _ HX2.out).2.2.1; have k3 := (HKC.out _ HX2.out).2.2.2.1; have k4 := (HKC.out _ HX2.out).2.2.2.2.1; have k5 := (HKC.out _ HX2.out).2.2.2.2.2) | (go_at_call 73; refine (word_lo _ _ _ _).mono ?_; rintro e w2 ⟨rfl, hb2⟩; have HX1 : Hid (Below (w.alloc chO).heap.size (w.alloc chO) w2) := ⟨hb2.os, hb2.tape, hb2.output, hb2.size, hb2.block⟩; clear hb2; have k0 := (HKC.out _ HX1.out).1; have k1 := (HKC.out _ HX1.out).2.1; have k2 := (HKC.out _ HX1.out).2.2.1; have k3 := (HKC.out _ HX1.out).2.2.2.1; have k4 := (HKC.out _ HX1.out).2.2.2.2.1; have k5 := (HKC.out _ HX1.out).2.2.2.2.2))
          obtain ⟨m0, m1, z0, z1⟩ := ch_cells ((HX2.out.block w.heap.size (by simp)).trans (heap_alloc_new w _))
          have HB4 : Hid (Below w.heap.size w w4) := (one_below w chO).trans (HX2.out.mono (by simp))
          have hz4 : w.heap.size < w4.heap.size := Nat.lt_of_lt_of_le (by simp) HX2.out.size
          go_wp2
          exact bodyPost_ret (v := .agg #[.int .i64 0, .slice none 0 0]) (by simp [results, Try.results49, go_sem, m0, m1]) rfl ⟨_, _, _, by rw [HR.out]; rfl, by rw [HR.out]; exact .none _ _, set2_below HB4.out _ _⟩
        · obtain ⟨v, hv⟩ : ∃ v, v = two d.op (word a) (word c) := ⟨_, rfl⟩
          have HV := hide hv
          have HZ := hide hz
          have HR0 : Hid (rule1 (a :: c :: d :: r) = (3, [comes a c d])) := by unfold Hid; rw [HE.out, if_pos ⟨H1.out, HQ.out.symm, hz⟩]
          clear HE HQ e1 hz H1 hv
          go_wp2
          go_region_held3 (fun w' => w'.cell? ⟨b, off, none⟩ = some (.int .i64 a.op) ∧ w'.cell? ⟨b, off + 1, none⟩ = some (.int .i64 a.a) ∧ w'.cell? ⟨b, off + 2, none⟩ = some (.int .i64 a.n) ∧ w'.cell? ⟨b, off + 3, none⟩ = some (.int .i64 c.op) ∧ w'.cell? ⟨b, off + 3 + 1, none⟩ = some (.int .i64 c.a) ∧ w'.cell? ⟨b, off + 3 + 2, none⟩ = some (.int .i64 c.n)) (go_keep) (first | (go_at_call 72; refine (Vw.reckoned_any d.op (word a) (word c) _ HZ.out v HV).mono ?_; rintro e w4 ⟨rfl, rfl⟩) | (go_at_call 73; have hx1 := HX1.out; refine (word_lo _ _ _ _).mono ?_; rintro e w3 ⟨rfl, hb3⟩; have HX2 : Hid (Below (w.alloc chO).heap.size (w.alloc chO) w3) := hx1.trans (hb3.mono hx1.size); clear hb3 hx1; have k0 := (HKC.out _ HX2.out).1; have k1 := (HKC.out _ HX2.out).2.1; have k2 := (HKC.out _ HX2.out).2.2.1; have k3 := (HKC.out _ HX2.out).2.2.2.1; have k4 := (HKC.out _ HX2.out).2.2.2.2.1; have k5 := (HKC.out _ HX2.out).2.2.2.2.2) | (go_at_call 73; refine (word_lo _ _ _ _).mono ?_; rintro e w2 ⟨rfl, hb2⟩; have HX1 : Hid (Below (w.alloc chO).heap.size (w.alloc chO) w2) := ⟨hb2.os, hb2.tape, hb2.output, hb2.size, hb2.block⟩; clear hb2; have k0 := (HKC.out _ HX1.out).1; have k1 := (HKC.out _ HX1.out).2.1; have k2 := (HKC.out _ HX1.out).2.2.1; have k3 := (HKC.out _ HX1.out).2.2.2.1; have k4 := (HKC.out _ HX1.out).2.2.2.2.1; have k5 := (HKC.out _ HX1.out).2.2.2.2.2))
          have HB4 : Hid (Below w.heap.size w w4) := (one_below w chO).trans (HX2.out.mono (by simp))
          have hz4 : w.heap.size < w4.heap.size := Nat.lt_of_lt_of_le (by simp) HX2.out.size
          by_cases h12 : d.op ≤ 12
          · have HR : Hid (rule1 (a :: c :: d :: r) = (3, [⟨1, 0, v⟩])) := by unfold Hid; rw [HR0.out, comes, if_pos h12, HV.out]
            obtain ⟨W5, hW5⟩ : ∃ W5, W5 = w4.alloc (inO ⟨1, 0, v⟩) := ⟨_, rfl⟩
            have HW5 := hide hW5.symm
            have HB5 : Hid (Below w.heap.size w W5) := by rw [hW5]; exact HB4.out.alloc HB4.out.size _
            have hb5 : W5.heap[w.heap.size]? = w4.heap[w.heap.size]? := by rw [hW5]; exact Below.heap_alloc _ _ _ hz4
            obtain ⟨m0, m1, z0, z1⟩ := ch_cells (hb5.trans ((HX2.out.block w.heap.size (by simp)).trans (heap_alloc_new w _)))
            have HP5 : Hid (∀ x y, PutIs w ((W5.setCell ⟨w.heap.size, 0, none⟩ x).setCell ⟨w.heap.size, 1, none⟩ y) (.slice (some ⟨w4.heap.size, 0, none⟩) 1 1) (rule1 (a :: c :: d :: r)).2) := fun x y => by
              rw [HR.out]
              refine .one (Nat.le_of_lt hz4) ?_
              rw [Below.heap_setCell _ ⟨w.heap.size, 1, none⟩ _ _ (by show w4.heap.size ≠ w.heap.size; omega), Below.heap_setCell _ ⟨w.heap.size, 0, none⟩ _ _ (by show w4.heap.size ≠ w.heap.size; omega), hW5]
              exact heap_alloc_new _ _
            clear hW5 hb5
            go_wp2_with fail
            refine (number_any _ _).mono ?_
            rintro e w5 ⟨rfl, rfl⟩
            rw [HW5.out]
            go_wp2
            exact bodyPost_ret (v := .agg #[.int .i64 3, .slice (some ⟨w4.heap.size, 0, none⟩) 1 1]) (by simp [results, Try.results49, go_sem, m0, m1]) rfl ⟨_, _, _, by rw [HR.out]; rfl, HP5.out _ _, set2_below HB5.out _ _⟩
          · have HR : Hid (rule1 (a :: c :: d :: r) = (3, [⟨2, v, 0⟩])) := by unfold Hid; rw [HR0.out, comes, if_neg h12, HV.out]
            obtain ⟨W5, hW5⟩ : ∃ W5, W5 = w4.alloc (inO ⟨2, v, 0⟩) := ⟨_, rfl⟩
            have HW5 := hide hW5.symm
            have HB5 : Hid (Below w.heap.size w W5) := by rw [hW5]; exact HB4.out.alloc HB4.out.size _
            have hb5 : W5.heap[w.heap.size]? = w4.heap[w.heap.size]? := by rw [hW5]; exact Below.heap_alloc _ _ _ hz4
            obtain ⟨m0, m1, z0, z1⟩ := ch_cells (hb5.trans ((HX2.out.block w.heap.size (by simp)).trans (heap_alloc_new w _)))
            have HP5 : Hid (∀ x y, PutIs w ((W5.setCell ⟨w.heap.size, 0, none⟩ x).setCell ⟨w.heap.size, 1, none⟩ y) (.slice (some ⟨w4.heap.size, 0, none⟩) 1 1) (rule1 (a :: c :: d :: r)).2) := fun x y => by
              rw [HR.out]
              refine .one (Nat.le_of_lt hz4) ?_
              rw [Below.heap_setCell _ ⟨w.heap.size, 1, none⟩ _ _ (by show w4.heap.size ≠ w.heap.size; omega), Below.heap_setCell _ ⟨w.heap.size, 0, none⟩ _ _ (by show w4.heap.size ≠ w.heap.size; omega), hW5]
              exact heap_alloc_new _ _
            clear hW5 hb5
            go_wp2_with fail
            refine (truth_put _ _).mono ?_
            rintro e w5 ⟨rfl, rfl⟩
            rw [HW5.out]
            go_wp2
            exact bodyPost_ret (v := .agg #[.int .i64 3, .slice (some ⟨w4.heap.size, 0, none⟩) 1 1]) (by simp [results, Try.results49, go_sem, m0, m1]) rfl ⟨_, _, _, by rw [HR.out]; rfl, HP5.out _ _, set2_below HB5.out _ _⟩
    · have e1 : (a.op != c.op) = true := by simpa using h1
      have HR : Hid (rule1 (a :: c :: d :: r) = (0, [])) := by unfold Hid; rw [HE.out, if_neg (fun h => h1 h.1)]
      clear HE h1
      go_enter Try.func49, Try.ntmps49
      go_upto_region 1 with fail
      go_quiet (fail)
      go_wp2
      exact bodyPost_ret (v := .agg #[.int .i64 0, .slice none 0 0]) (by simp [results, Try.results49, go_sem]) rfl ⟨_, _, _, by rw [HR.out]; rfl, by rw [HR.out]; exact .none _ _, HBV.out _ _ _⟩
end Go.Proofs.Ytlbihbfgglnfnaa.Ow

/- The walks of opt.pair and opt.rules: all rules in memory. -/
namespace Go.Proofs.Ytlbihbfgglnfnaa.Ow
open Go.RowKit Vf Vm Ot

theorem PairIn.keep {w w' : World} {S F U G N : Nat} {second : Int} {first : List Int} (h : PairIn w S F U G N second first) (hb : Below w.heap.size w w') : PairIn w' S F U G N second first :=
  ⟨(hb.block _ (lt_of_block h.s)).trans h.s, (hb.block _ (lt_of_block h.f)).trans h.f, (hb.block _ (lt_of_block h.u)).trans h.u, (hb.block _ (lt_of_block h.g)).trans h.g⟩
set_option maxHeartbeats 1000000 in
theorem pair_any (second : Int) (N G : Nat) (first : List Int) (w : World) (hg : Hid (w.heap[G]? = some (.cells (first.map (Value.int .i64)).toArray 3 (0, 0)))) :
    Calls Try.prog 50 #[.int .i64 second, .func (.func N) #[] #[], .slice (some ⟨G, 0, none⟩) first.length first.length] w fun e w' => ∃ S F U, e = .returned (.func (.func 74) #[] #[.pointer (some ⟨S, 0, none⟩), .pointer (some ⟨F, 0, none⟩), .pointer (some ⟨U, 0, none⟩)]) ∧ PairIn w' S F U G N second first ∧ w.heap.size ≤ S ∧ w.heap.size ≤ F ∧ w.heap.size ≤ U ∧ Below w.heap.size w w' := by
  have HP : Hid (PairIn (((w.alloc (.cells #[.int .i64 second] 3)).alloc (.cells #[.func (.func N) #[] #[]] 97)).alloc (.cells #[.slice (some ⟨G, 0, none⟩) first.length first.length] 35)) w.heap.size (w.heap.size + 1 + 1) (w.heap.size + 1) G N second first) := by
    refine ⟨?_, new2 _ _ _ _, ?_, ?_⟩
    · rw [Below.heap_alloc _ _ _ (by simp; omega), Below.heap_alloc _ _ _ (by simp)]
      exact heap_alloc_new _ _
    · rw [Below.heap_alloc _ _ _ (by simp)]
      have := heap_alloc_new (w.alloc (.cells #[.int .i64 second] 3)) (.cells #[.func (.func N) #[] #[]] 97)
      rw [show (w.alloc (.cells #[.int .i64 second] 3)).heap.size = w.heap.size + 1 by simp] at this
      exact this
    · rw [(three_belowO w _ _ _).block _ (lt_of_block hg.out)]
      exact hg.out
  have HB := hide (three_belowO w (.cells #[.int .i64 second] 3) (.cells #[.func (.func N) #[] #[]] 97) (.cells #[.slice (some ⟨G, 0, none⟩) first.length first.length] 35))
  go_enter Try.func50, Try.ntmps50
  go_wp2
  go_ret
  exact ⟨_, _, _, rfl, HP.out, Nat.le_refl _, by omega, by omega, HB.out⟩
/-- The rules, by their numbers. -/
def rul (i : Nat) : Nat → List Ins → Ch := match i with
  | 0 => fun _ => rule1
  | 1 => fun _ => pair 5 put2 [1, 2, 3]
  | 2 => fun _ => pair 6 put3 [1]
  | 3 => fun _ => pair 7 put4 [2]
  | 4 => fun _ => pair 22 put5 [2]
  | _ => next
theorem rul_at (k : Nat) (l : List Ins) {i : Nat} (h : i < 6) : (answers k l)[i]? = some (rul i k l) := by
  rcases (by omega : i = 0 ∨ i = 1 ∨ i = 2 ∨ i = 3 ∨ i = 4 ∨ i = 5) with rfl | rfl | rfl | rfl | rfl | rfl <;> rfl
/-- All rules in memory. -/
structure RlsIn (lo hi : Nat) (w0 : World) (R : Nat) (fs : List (Nat × Array Value)) : Prop where
  len : fs.length = 6
  blk : w0.heap[R]? = some (.cells (fs.map fun p => Value.func (.func p.1) #[] p.2).toArray 95 (0, 0))
  at' : lo ≤ R ∧ R < hi
  rule : ∀ (i N : Nat) (caps : Array Value), fs[i]? = some (N, caps) → RuleC lo hi w0 N caps (rul i)

set_option maxHeartbeats 2000000 in
set_option maxRecDepth 100000 in
theorem rules_any (w : World) :
    Calls Try.prog 34 #[] w fun e w' => ∃ R fs, e = .returned (.slice (some ⟨R, 0, none⟩) 6 6) ∧ RlsIn w.heap.size w'.heap.size w' R fs ∧ Below w.heap.size w w' := by
  go_enter Try.func34, Try.ntmps34
  have hg1 : (w.alloc (.cells #[.int .i64 1, .int .i64 2, .int .i64 3] 3)).heap[w.heap.size]? = some (.cells (([1, 2, 3] : List Int).map (Value.int .i64)).toArray 3 (0, 0)) := heap_alloc_new _ _
  go_wp2_with fail
  refine (pair_any 5 51 w.heap.size [1, 2, 3] _ (hide hg1)).mono ?_
  rintro e w1 ⟨S1, F1, U1, rfl, hp1, hs1, hf1, hu1, hb1⟩
  have HP1 := hide hp1
  have HB1 : Hid (Below w.heap.size w w1) := below_onO (one_below _ _) hb1
  have HS1 : Hid (w.heap.size ≤ S1 ∧ w.heap.size ≤ F1 ∧ w.heap.size ≤ U1) := by
    have e : (w.alloc (.cells #[.int .i64 1, .int .i64 2, .int .i64 3] 3)).heap.size = w.heap.size + 1 := by simp
    rw [e] at hs1 hf1 hu1
    exact ⟨by omega, by omega, by omega⟩
  clear hp1 hs1 hf1 hu1 hb1 hg1
  have hg2 : (w1.alloc (.cells #[.int .i64 1] 3)).heap[w1.heap.size]? = some (.cells (([1] : List Int).map (Value.int .i64)).toArray 3 (0, 0)) := heap_alloc_new _ _
  go_wp2_with fail
  refine (pair_any 6 52 w1.heap.size [1] _ (hide hg2)).mono ?_
  rintro e w2 ⟨S2, F2, U2, rfl, hp2, hs2, hf2, hu2, hb2⟩
  have HP2 := hide hp2
  have HB2 : Hid (Below w1.heap.size w1 w2) := below_onO (one_below _ _) hb2
  have HS2 : Hid (w1.heap.size ≤ S2 ∧ w1.heap.size ≤ F2 ∧ w1.heap.size ≤ U2) := by
    have e : (w1.alloc (.cells #[.int .i64 1] 3)).heap.size = w1.heap.size + 1 := by simp
    rw [e] at hs2 hf2 hu2
    exact ⟨by omega, by omega, by omega⟩
  clear hp2 hs2 hf2 hu2 hb2 hg2
  have hg3 : (w2.alloc (.cells #[.int .i64 2] 3)).heap[w2.heap.size]? = some (.cells (([2] : List Int).map (Value.int .i64)).toArray 3 (0, 0)) := heap_alloc_new _ _
  go_wp2_with fail
  refine (pair_any 7 54 w2.heap.size [2] _ (hide hg3)).mono ?_
  rintro e w3 ⟨S3, F3, U3, rfl, hp3, hs3, hf3, hu3, hb3⟩
  have HP3 := hide hp3
  have HB3 : Hid (Below w2.heap.size w2 w3) := below_onO (one_below _ _) hb3
  have HS3 : Hid (w2.heap.size ≤ S3 ∧ w2.heap.size ≤ F3 ∧ w2.heap.size ≤ U3) := by
    have e : (w2.alloc (.cells #[.int .i64 2] 3)).heap.size = w2.heap.size + 1 := by simp
    rw [e] at hs3 hf3 hu3
    exact ⟨by omega, by omega, by omega⟩
  clear hp3 hs3 hf3 hu3 hb3 hg3
  have hg4 : (w3.alloc (.cells #[.int .i64 2] 3)).heap[w3.heap.size]? = some (.cells (([2] : List Int).map (Value.int .i64)).toArray 3 (0, 0)) := heap_alloc_new _ _
  go_wp2_with fail
  refine (pair_any 22 56 w3.heap.size [2] _ (hide hg4)).mono ?_
  rintro e w4 ⟨S4, F4, U4, rfl, hp4, hs4, hf4, hu4, hb4⟩
  have HP4 := hide hp4
  have HB4 : Hid (Below w3.heap.size w3 w4) := below_onO (one_below _ _) hb4
  have HS4 : Hid (w3.heap.size ≤ S4 ∧ w3.heap.size ≤ F4 ∧ w3.heap.size ≤ U4) := by
    have e : (w3.alloc (.cells #[.int .i64 2] 3)).heap.size = w3.heap.size + 1 := by simp
    rw [e] at hs4 hf4 hu4
    exact ⟨by omega, by omega, by omega⟩
  clear hp4 hs4 hf4 hu4 hb4 hg4
  have L1 := HB1.out.size
  have L2 := HB2.out.size
  have L3 := HB3.out.size
  have L4 := HB4.out.size
  obtain ⟨fs, hfs⟩ : ∃ fs : List (Nat × Array Value), fs = [(49, #[]), (74, #[.pointer (some ⟨S1, 0, none⟩), .pointer (some ⟨F1, 0, none⟩), .pointer (some ⟨U1, 0, none⟩)]), (74, #[.pointer (some ⟨S2, 0, none⟩), .pointer (some ⟨F2, 0, none⟩), .pointer (some ⟨U2, 0, none⟩)]), (74, #[.pointer (some ⟨S3, 0, none⟩), .pointer (some ⟨F3, 0, none⟩), .pointer (some ⟨U3, 0, none⟩)]), (74, #[.pointer (some ⟨S4, 0, none⟩), .pointer (some ⟨F4, 0, none⟩), .pointer (some ⟨U4, 0, none⟩)]), (57, #[])] := ⟨_, rfl⟩
  obtain ⟨W, hW⟩ : ∃ W, W = w4.alloc (.cells (fs.map fun p => Value.func (.func p.1) #[] p.2).toArray 95) := ⟨_, rfl⟩
  have hbW : Below w4.heap.size w4 W := by rw [hW]; exact one_below _ _
  have hzW : W.heap.size = w4.heap.size + 1 := by rw [hW]; simp
  have hRW : W.heap[w4.heap.size]? = some (.cells (fs.map fun p => Value.func (.func p.1) #[] p.2).toArray 95 (0, 0)) := by rw [hW]; exact heap_alloc_new _ _
  have P4 := HP4.out.keep hbW
  have P3 := (HP3.out.keep HB4.out).keep hbW
  have P2 := ((HP2.out.keep HB3.out).keep HB4.out).keep hbW
  have P1 := (((HP1.out.keep HB2.out).keep HB3.out).keep HB4.out).keep hbW
  have HBW : Hid (Below w.heap.size w W) := below_onO (below_onO (below_onO (below_onO HB1.out HB2.out) HB3.out) HB4.out) hbW
  have key : ∀ {S F U G N : Nat} {second : Int} {first : List Int} {put : Ins → Ins → List Ins} (V : World), PairIn W S F U G N second first → V.heap.size ≤ S ∧ V.heap.size ≤ F ∧ V.heap.size ≤ U → G = V.heap.size → w.heap.size ≤ V.heap.size → first.length ≤ 3 → PutC N put → RuleC w.heap.size W.heap.size W 74 #[.pointer (some ⟨S, 0, none⟩), .pointer (some ⟨F, 0, none⟩), .pointer (some ⟨U, 0, none⟩)] (fun _ => pair second put first) := fun V hP hs hG hV hf hN => by
    have a1 := lt_of_block hP.s
    have a2 := lt_of_block hP.f
    have a3 := lt_of_block hP.u
    have a4 := lt_of_block hP.g
    exact pair1_any _ _ W _ _ _ _ _ _ _ _ hf hP ⟨by omega, a1⟩ ⟨by omega, a2⟩ ⟨by omega, a3⟩ ⟨by omega, a4⟩ hN
  have R1 := key w P1 HS1.out rfl (Nat.le_refl _) (by decide) put2_any
  have R2 := key w1 P2 HS2.out rfl L1 (by decide) put3_any
  have R3 := key w2 P3 HS3.out rfl (Nat.le_trans L1 L2) (by decide) put4_any
  have R4 := key w3 P4 HS4.out rfl (Nat.le_trans (Nat.le_trans L1 L2) L3) (by decide) put5_any
  have HR : Hid (RlsIn w.heap.size W.heap.size W w4.heap.size fs) := by
    refine ⟨by rw [hfs]; rfl, hRW, ⟨by omega, by omega⟩, fun i N caps h => ?_⟩
    rw [hfs] at h
    rcases (by have := (List.getElem?_eq_some_iff.1 h).1; simp at this; omega : i = 0 ∨ i = 1 ∨ i = 2 ∨ i = 3 ∨ i = 4 ∨ i = 5) with rfl | rfl | rfl | rfl | rfl | rfl
    · cases h; exact reckon_any _ _ _
    · cases h; exact R1
    · cases h; exact R2
    · cases h; exact R3
    · cases h; exact R4
    · cases h; exact next_any _ _ _
  have HE : Hid (W = w4.alloc (.cells #[.func (.func 49) #[] #[], .func (.func 74) #[] #[.pointer (some ⟨S1, 0, none⟩), .pointer (some ⟨F1, 0, none⟩), .pointer (some ⟨U1, 0, none⟩)], .func (.func 74) #[] #[.pointer (some ⟨S2, 0, none⟩), .pointer (some ⟨F2, 0, none⟩), .pointer (some ⟨U2, 0, none⟩)], .func (.func 74) #[] #[.pointer (some ⟨S3, 0, none⟩), .pointer (some ⟨F3, 0, none⟩), .pointer (some ⟨U3, 0, none⟩)], .func (.func 74) #[] #[.pointer (some ⟨S4, 0, none⟩), .pointer (some ⟨F4, 0, none⟩), .pointer (some ⟨U4, 0, none⟩)], .func (.func 57) #[] #[]] 95)) := by
    unfold Hid
    rw [hW, hfs]
    rfl
  clear R1 R2 R3 R4 key P1 P2 P3 P4 hRW hbW hzW hW hfs HP1 HP2 HP3 HP4 HB1 HB2 HB3 HB4 HS1 HS2 HS3 HS4
  go_wp2
  go_ret
  exact ⟨w4.heap.size, fs, rfl, by rw [← HE.out]; exact HR.out, by rw [← HE.out]; exact HBW.out⟩
end Go.Proofs.Ytlbihbfgglnfnaa.Ow

