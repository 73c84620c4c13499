/- What an instruction has not means nothing: a bare module is as right as it was. -/
import Derived.Test.YtbdcmkmeljddmaaGreatDoorM2
import Derived.Test.YtbdcmkmeljddmaaGreatDoorM35
import Derived.Test.YtbdcmkmeljddmaaGreatDoorM13
import Derived.Test.YtbdcmkmeljddmaaGreatDoorM16
namespace Go.Proofs.YtbdcmkmeljddmaaGreatDoor.As
open Vf

theorem ite2 {α : Type} {c : Prop} [Decidable c] {a b a' b' : α} (h1 : c → a = b) (h2 : ¬ c → a' = b') : (if c then a else a') = (if c then b else b') := by
  by_cases h : c
  · rw [if_pos h, if_pos h, h1 h]
  · rw [if_neg h, if_neg h, h2 h]
theorem bare_op (c : Ins) : (bareI c).op = c.op := by
  unfold bareI
  split
  · split
    · rfl
    · split <;> rfl
  · rfl
def hasA (op : Int) : Prop := op = 2 ∨ op = 3 ∨ op = 4 ∨ op = 21 ∨ op = 22 ∨ op = 23 ∨ op = 26 ∨ op = 27 ∨ op = 29
theorem hasA_word {op : Int} (h : hasA op) : ∃ w, wordOf op = some (w, 1) := by
  rcases h with rfl | rfl | rfl | rfl | rfl | rfl | rfl | rfl | rfl <;> exact ⟨_, rfl⟩
theorem bare_a {c : Ins} (h : hasA c.op) : (bareI c).a = c.a := by
  obtain ⟨w, hw⟩ := hasA_word h
  unfold bareI
  rw [hw]
  rfl
theorem len_bare (u : Un) : (bareU u).code.length = u.code.length := by simp [bareU]
theorem is_bare (m : Md) (k n : Int) : is (bare m) k n = is m k n := by
  unfold is bare
  simp only [List.getElem?_map]
  cases m.units[n.toNat]? <;> rfl
theorem unit_bare (m : Md) (n : Int) : unit (bare m) n = bareU (unit m n) := by
  unfold unit bare
  simp only [List.getElem?_map]
  cases m.units[n.toNat]? <;> rfl
theorem params_bare (m : Md) (n : Int) : params (bare m) n = params m n := by
  unfold params
  rw [unit_bare]
  rfl
theorem ranged_bare (m : Md) (u : Un) (c : Ins) : ranged (bare m) (bareU u) (bareI c) = ranged m u c := by
  unfold ranged
  rw [bare_op, len_bare, is_bare, is_bare]
  refine ite2 (fun h => by rw [bare_a (by simp [hasA, h])]) fun _ => ite2 (fun h => ?_) fun _ => ite2 (fun h => ?_) fun _ => ite2 (fun h => by rw [bare_a (by simp [hasA, h])]) fun _ => ite2 (fun h => by rw [bare_a (by simp [hasA, h])]) fun _ => ite2 (fun h => ?_) fun _ => rfl
  · rw [bare_a (by rcases h with h | h <;> simp [hasA, h])]; rfl
  · rw [bare_a (by rcases h with h | h <;> simp [hasA, h])]
  · rw [bare_a (by rcases h with h | h <;> simp [hasA, h])]; rfl
theorem form_bare (m : Md) (u : Un) (c : Ins) : formE (bare m) (bareU u) (bareI c) = formE m u c := by
  unfold formE
  rw [bare_op, ranged_bare]
theorem first_map {α β : Type} (f : β → Int) (g : α → β) : ∀ (l : List α) (k : Nat), firstE f (l.map g) k = firstE (fun x => f (g x)) l k
  | [], _ => rfl
  | x :: l, k => by
    rw [List.map_cons, firstE, firstE, first_map f g l (k + 1)]
theorem head_bare (m : Md) (u : Un) : headE (bare m) (bareU u) = headE m u := by
  unfold headE
  have h1 : kindly (bareU u) = kindly u := rfl
  have h2 : sized (bareU u) = sized u := by unfold sized; rw [len_bare]; rfl
  have h3 : typed (bare m) (bareU u) = typed m u := by
    unfold typed
    rw [show (fun t => plain t || is (bare m) 3 (t - 10)) = (fun t => plain t || is m 3 (t - 10)) from funext fun t => by rw [is_bare]]
    rfl
  rw [h1, h2, h3]
theorem shape_bare (m : Md) (u : Un) : shapeF (bare m) (bareU u) = shapeF m u := by
  unfold shapeF
  rw [head_bare]
  refine ite2 (fun _ => ?_) fun _ => rfl
  show firstE (formE (bare m) (bareU u)) (u.code.map bareI) 0 = _
  rw [first_map]
  congr 1
  exact funext fun c => form_bare m u c
theorem each_map {f g : Un → Int × Nat} (h : ∀ u, f (bareU u) = g u) : ∀ (l : List Un) (k : Nat), eachW f (l.map bareU) k = eachW g l k
  | [], _ => rfl
  | u :: l, k => by
    rw [List.map_cons, eachW, eachW, h u, each_map h l (k + 1)]
theorem speak_bare (m : Md) (u : Un) (c : Ins) (st : List Int) : speak (bare m) (bareU u) (bareI c) st = speak m u c st := by
  have hr : resume (bare m) st = resume m st := by unfold resume; simp only [unit_bare]; rfl
  unfold speak
  rw [bare_op, hr]
  refine ite2 (fun h => by rw [bare_a (by simp [hasA, h]), unit_bare, params_bare]; rfl) fun _ => ite2 (fun h => by rw [bare_a (by simp [hasA, h]), params_bare]) fun _ => ite2 (fun h => by rw [bare_a (by simp [hasA, h])]; rfl) fun _ => ite2 (fun h => by rw [bare_a (by simp [hasA, h])]; rfl) fun _ => rfl
theorem reckS_bare (m : Md) (u : Un) (c : Ins) (k : Kn) : reckS (bare m) (bareU u) (bareI c) k = reckS m u c k := by
  unfold reckS
  rw [bare_op, speak_bare]
  refine ite2 (fun _ => rfl) fun _ => ite2 (fun _ => rfl) fun _ => ite2 (fun h => by rw [bare_a (by simp [hasA, h])]; rfl) fun _ => ite2 (fun h => by rw [bare_a (by simp [hasA, h])]; rfl) fun _ => rfl
theorem reck_bare (m : Md) (u : Un) (c : Ins) (k : Kn) : reck (bare m) (bareU u) (bareI c) k = reck m u c k := by
  have h : ∀ f, reckF (bareI c) f = reckF c f := fun f => by
    unfold reckF
    rw [bare_op]
    exact ite2 (fun h => by rw [bare_a (by simp [hasA, h])]) (fun _ => rfl)
  unfold reck
  rw [reckS_bare, h]
theorem goes_bare (c : Ins) (n : Nat) : goes (bareI c) n = goes c n := by
  unfold goes
  rw [bare_op]
  exact ite2 (fun _ => rfl) fun _ => ite2 (fun h => by rw [bare_a (by simp [hasA, h])]) fun _ => ite2 (fun h => by rw [bare_a (by simp [hasA, h])]) fun _ => rfl
theorem look_bare (m : Md) (u : Un) (n : Nat) (s : S) : Vf.look (bare m) (bareU u) n s = Vf.look m u n s := by
  have hc : (bareU u).code[n]? = (u.code[n]?).map bareI := by simp [bareU]
  unfold Vf.look
  rw [hc, len_bare]
  cases s.come n with
  | none => rfl
  | some k =>
    cases u.code[n]? with
    | none => rfl
    | some c =>
      simp only [Option.map_some]
      rw [reck_bare, goes_bare]
theorem flow_bare (m : Md) (u : Un) : ∀ (f : Nat) (s : S), flow (bare m) (bareU u) f s = flow m u f s
  | 0, _ => rfl
  | f + 1, s => by
    unfold flow
    cases s.row with
    | nil => rfl
    | cons n row =>
      simp only
      rw [look_bare]
      cases Vf.look m u n ⟨s.come, row⟩ with
      | error e => rfl
      | ok s' => exact flow_bare m u f s'
theorem flowF_bare (m : Md) (u : Un) : flowF (bare m) (bareU u) = flowF m u := by
  unfold flowF
  rw [flow_bare, len_bare]
  rfl
theorem gstep_bare (rec' : Int → LL → LL) (c : Ins) (l : LL) : gstep rec' (bareI c) l = gstep rec' c l := by
  unfold gstep
  rw [bare_op]
  refine ite2 (fun h => ?_) fun _ => ite2 (fun h => ?_) fun _ => rfl
  · rw [bare_a (by rcases h with h | h <;> simp [hasA, h])]
  · rw [bare_a (by rcases h with h | h <;> simp [hasA, h])]
theorem gat_bare (m : Md) : ∀ (f : Nat) (n : Int) (l : LL), gat (bare m) f n l = gat m f n l
  | 0, _, _ => rfl
  | f + 1, n, l => by
    unfold gat
    rw [unit_bare, show gat (bare m) f = gat m f from funext fun n => funext fun l => gat_bare m f n l]
    unfold gatC
    show List.foldl _ l ((unit m n).code.map bareI) = _
    rw [List.foldl_map]
    congr 1
    exact funext fun l => funext fun c => gstep_bare _ c l
theorem tc_bare (m : Md) (q : Go.Proofs.YtbdcmkmeljddmaaGreatDoor.Lk) (k : Nat) : tc (bare m) q k = tc m q k := by
  unfold tc comes
  simp only [is_bare, gat_bare]
theorem owners_bare (m : Md) : ownersW (bare m) = ownersW m := by
  unfold ownersW
  rw [show ownersE (bare m) = ownersE m from funext fun n => by unfold ownersE; rw [tc_bare, tc_bare]; simp [bare]]
  rfl
theorem sizes_bare (m : Md) : sizesE (bare m) = sizesE m := by
  unfold sizesE
  rw [show (bare m).units.length = m.units.length from List.length_map ..]
  rfl
theorem tasks_bare (m : Md) : tasksE (bare m) = tasksE m := by
  unfold tasksE
  rw [show (bare m).units.any (fun u => u.kind == 4) = m.units.any (fun u => u.kind == 4) from List.any_map ..]
theorem looks0 (m : Md) : looks m 0 = (sizesE m, 0, 0) := rfl
theorem looks1 (m : Md) : looks m 1 = ((boxesW m).1, 0, ((boxesW m).2 : Int)) := rfl
theorem looks2 (m : Md) : looks m 2 = eachW (shapeF m) m.units 0 := rfl
theorem looks3 (m : Md) : looks m 3 = (tasksE m, 0, 0) := rfl
theorem looks4 (m : Md) : looks m 4 = eachW (flowF m) m.units 0 := rfl
theorem looks5 (m : Md) (k : Nat) : looks m (k + 5) = ((ownersW m).1, 0, ((ownersW m).2 : Int)) := rfl
theorem units_bare (m : Md) : (bare m).units = m.units.map bareU := rfl
theorem boxes_bare (m : Md) : boxesW (bare m) = boxesW m := rfl
theorem shapes_bare (m : Md) : eachW (shapeF (bare m)) (m.units.map bareU) 0 = eachW (shapeF m) m.units 0 := each_map (shape_bare m) m.units 0
theorem flows_bare (m : Md) : eachW (flowF (bare m)) (m.units.map bareU) 0 = eachW (flowF m) m.units 0 := each_map (flowF_bare m) m.units 0
theorem looks_bare (m : Md) : ∀ k : Nat, looks (bare m) k = looks m k
  | 0 => by rw [looks0, looks0, sizes_bare]
  | 1 => by rw [looks1, looks1, boxes_bare]
  | 2 => by rw [looks2, looks2, units_bare, shapes_bare]
  | 3 => by rw [looks3, looks3, tasks_bare]
  | 4 => by rw [looks4, looks4, units_bare, flows_bare]
  | k + 5 => by rw [looks5, looks5, owners_bare]
/-- A BARE MODULE IS AS RIGHT AS IT WAS. -/
theorem verify_bare (m : Md) : verify (bare m) = verify m := by
  have h : ∀ n k, from' (bare m) n k = from' m n k := fun n => by
    induction n with
    | zero => intro k; rfl
    | succ n ih => intro k; unfold from'; rw [looks_bare, ih]
  exact h 6 0
end Go.Proofs.YtbdcmkmeljddmaaGreatDoor.As

/- The walk of AsmRight. -/
namespace Go.Proofs.YtbdcmkmeljddmaaGreatDoor.Aw
open Go.RowKit As

theorem grown_below {w w' : World} (h : w.grownBy w' Option.none) : Below w.heap.size w w' := ⟨h.os, h.tape, h.output, h.size, fun k hk => h.block k hk (by simp)⟩
theorem fault_cell {w : World} {k : Nat} {x y : Value} (h : w.heap[k]? = some (.cells #[x, y] 33 (0, 0))) : w.cell? ⟨k, 0, none⟩ = some x := by
  simp [World.cell?, h]

set_option maxHeartbeats 4000000 in
set_option maxRecDepth 100000 in
theorem right_any (B : Nat) (m : Vf.Md) (ab au : Option Addr) (cb cu : Nat) (w : World) (hB : Hid (B ≤ w.heap.size)) (hg : Hid (GV B w)) (hin : Hid (ModIn B w m ab au)) :
    Calls Tryz.prog 3 #[mdV m ab au cb cu] w fun e w' => e = .returned (.bool true) ∧ Below w.heap.size w w' := by
  obtain ⟨V, hV⟩ : ∃ V, V = w.alloc (mdO m ab au cb cu) := ⟨_, rfl⟩
  have HBV : Hid (Below w.heap.size w V) := by rw [hV]; exact (Below.refl _ _).alloc (Nat.le_refl _) _
  have HMD : Hid (V.heap[w.heap.size]? = some (mdO m ab au cb cu)) := by rw [hV]; exact heap_alloc_new _ _
  have HV : Hid (w.alloc (mdO m ab au cb cu) = V) := hV.symm
  clear hV
  obtain ⟨N, hN⟩ : ∃ N, N = w.heap.size := ⟨_, rfl⟩
  have HLOW : Hid (∀ (W : World), Below w.heap.size w W → B ≤ W.heap.size ∧ GV B W ∧ ModIn B W m ab au) := fun W h => ⟨Nat.le_trans hB.out h.size, hg.out.below h hB.out, hin.out.low (fun k hk => h.block k (by have := hB.out; omega))⟩
  go_enter Tryz.func3, Tryz.ntmps3
  go_wp2_with fail
  rw [HV.out]
  rw [← hN] at HMD ⊢
  clear hN
  refine (alive_any B V (hide (HLOW.out _ HBV.out).1) (hide (HLOW.out _ HBV.out).2.1)).mono ?_
  rintro e w1 ⟨rfl, hb1⟩
  have HMD1 := hide ((hb1.block _ (lt_of_block HMD.out)).trans HMD.out)
  have HB1 := hide (below_on HBV.out hb1)
  obtain ⟨m0, m1⟩ := md_cells HMD1.out
  clear hb1 HMD HV HBV
  obtain ⟨r, hr⟩ : ∃ r, r = printP m := ⟨_, rfl⟩
  have HR := hide hr
  clear hr
  go_wp2_with fail
  refine (print_any B m ab au cb cu w1 (hide (HLOW.out _ HB1.out).1) (hide (HLOW.out _ HB1.out).2.1) (hide (HLOW.out _ HB1.out).2.2) r HR).mono ?_
  rintro e w2 ⟨rfl, hb2⟩
  have HMD2 := hide ((hb2.block _ (lt_of_block HMD1.out)).trans HMD1.out)
  have HB2 := hide (below_on HB1.out hb2)
  clear hb2 HMD1 HB1 m0 m1
  by_cases h0 : r.1.1 = 0
  · have hz : r.1 = (0, 0, 0) := by rw [HR.out] at h0 ⊢; exact printP_num h0
    obtain ⟨r1, t⟩ := r
    obtain rfl : r1 = (0, 0, 0) := hz
    have HT : Hid (readA t = ((0, 0), bare m)) := turns (num_mod hin.out) (printP_ok HR.out.symm)
    clear h0 HR
    obtain ⟨W2, hW2⟩ : ∃ W2, W2 = w2.alloc (.cells #[.int .i64 0, .int .i64 0, .int .i64 0] 29) := ⟨_, rfl⟩
    have hbW2 : Below w2.heap.size w2 W2 := by rw [hW2]; exact (Below.refl _ _).alloc (Nat.le_refl _) _
    have HMD3 := hide ((hbW2.block _ (lt_of_block HMD2.out)).trans HMD2.out)
    have HB3 := hide (below_on HB2.out hbW2)
    have HW2 : Hid (w2.alloc (.cells #[.int .i64 0, .int .i64 0, .int .i64 0] 29) = W2) := hW2.symm
    clear hW2 hbW2 HMD2 HB2
    have hrd := read_any B t W2 (hide (HLOW.out _ HB3.out).1) (hide (HLOW.out _ HB3.out).2.1)
    unfold ReadV at hrd
    rw [HT.out] at hrd
    have HRD := hide hrd
    clear hrd HT
    go_wp2_with fail
    rw [HW2.out]
    refine HRD.out.mono ?_
    rintro e w3 ⟨nb, cnb, nu, cnu, rfl, hM, hb3⟩
    have HMD4 := hide ((hb3.block _ (lt_of_block HMD3.out)).trans HMD3.out)
    have HB4 := hide (below_on HB3.out hb3)
    have HM := hide hM
    clear hb3 HMD3 HB3 HRD HW2 hM
    obtain ⟨W4, hW4⟩ : ∃ W4, W4 = (w3.alloc (mdO (bare m) nb nu cnb cnu)).alloc (.cells #[.int .i64 0, .int .i64 0] 33) := ⟨_, rfl⟩
    have hbW4 : Below w3.heap.size w3 W4 := by rw [hW4]; exact two_below _ _ _
    have hM5 : W4.heap[w3.heap.size]? = some (mdO (bare m) nb nu cnb cnu) := by rw [hW4]; exact two_old _ _ _
    have hF5 : W4.heap[w3.heap.size + 1]? = some (.cells #[.int .i64 0, .int .i64 0] 33 (0, 0)) := by rw [hW4]; exact two_new _ _ _
    have hMD5 := (hbW4.block _ (lt_of_block HMD4.out)).trans HMD4.out
    have HB5 := hide (below_on HB4.out hbW4)
    have HMN : Hid (ModIn w3.heap.size W4 (bare m) nb nu) := HM.out.low hbW4.block
    have HS4 : Hid (w3.heap.size ≤ W4.heap.size) := hbW4.size
    obtain ⟨a0, a1⟩ := md_cells hMD5
    obtain ⟨b0, b1⟩ := md_cells hM5
    have f0 := fault_cell hF5
    have hNl := lt_of_block hMD5
    have hMl := lt_of_block hM5
    have hFl := lt_of_block hF5
    obtain ⟨v, hv⟩ : ∃ v, v = Vf.verify m := ⟨_, rfl⟩
    have HV1 : Hid (v = Vf.verify (bare m)) := by unfold Hid; rw [verify_bare]; exact hv
    have HV2 := hide hv
    have heq : ∀ W : World, (Op.equalIn 10000 29 (whV v.1 v.2.1 v.2.2) (whV v.1 v.2.1 v.2.2)).run Tryz.prog W = .ok true W := fun W => by
      have := eq_where v.1 v.2.1 v.2.2 v.1 v.2.1 v.2.2 W
      simpa using this
    clear hv hbW4 hM5 hF5 hMD5 HB4 HMD4 HM
    go_wp2
    rw [← hW4]
    clear hW4
    generalize w3.heap.size = M at *
    go_region_held3 (fun w' => w'.cell? ⟨N, 0, none⟩ = some (.slice ab m.boxes.length cb) ∧ w'.cell? ⟨N, 1, none⟩ = some (.slice au m.units.length cu) ∧ w'.cell? ⟨M, 0, none⟩ = some (.slice nb (bare m).boxes.length cnb) ∧ w'.cell? ⟨M, 1, none⟩ = some (.slice nu (bare m).units.length cnu) ∧ w'.cell? ⟨M + 1, 0, none⟩ = some (.int .i64 0)) (go_keep) (first | (go_at_call 7; have hx1 := HX1.out; refine (verify_any m ab au cb cu B _ (hide (HLOW.out _ (below_on HB5.out hx1)).2.2) (HLOW.out _ (below_on HB5.out hx1)).1 v HV2).mono ?_; rintro e w6 ⟨rfl, hg6⟩; have HX2 : Hid (Below W4.heap.size W4 w6) := below_on hx1 (grown_below hg6); clear hg6 hx1; have k0 := (HX2.out.cell (p := ⟨N, 0, none⟩) hNl).trans a0; have k1 := (HX2.out.cell (p := ⟨N, 1, none⟩) hNl).trans a1; have k2 := (HX2.out.cell (p := ⟨M, 0, none⟩) hMl).trans b0; have k3 := (HX2.out.cell (p := ⟨M, 1, none⟩) hMl).trans b1; have k4 := (HX2.out.cell (p := ⟨M + 1, 0, none⟩) hFl).trans f0) | (go_at_call 7; refine (verify_any (bare m) nb nu cnb cnu M (World.drew W4) (hide (HMN.out.low (w' := World.drew W4) (fun _ _ => rfl))) HS4.out v HV1).mono ?_; rintro e w5 ⟨rfl, hg5⟩; have HX1 : Hid (Below W4.heap.size W4 w5) := below_on (w1 := World.drew W4) ⟨rfl, rfl, rfl, Nat.le_refl _, fun _ _ => rfl⟩ (grown_below hg5); clear hg5; have k0 := (HX1.out.cell (p := ⟨N, 0, none⟩) hNl).trans a0; have k1 := (HX1.out.cell (p := ⟨N, 1, none⟩) hNl).trans a1; have k2 := (HX1.out.cell (p := ⟨M, 0, none⟩) hMl).trans b0; have k3 := (HX1.out.cell (p := ⟨M, 1, none⟩) hMl).trans b1; have k4 := (HX1.out.cell (p := ⟨M + 1, 0, none⟩) hFl).trans f0))
    go_wp2
    go_ret
    exact ⟨rfl, below_on HB5.out HX2.out⟩
  · have hne : ((r.1.1 : Int) == 0) = false := by simp; omega
    have HE : Hid (Below w.heap.size w (w2.alloc (.cells #[.int .i64 r.1.1, .int .i64 r.1.2.1, .int .i64 r.1.2.2] 29))) := HB2.out.alloc HB2.out.size _
    clear h0
    go_wp2
    go_ret
    exact ⟨rfl, HE.out⟩

end Go.Proofs.YtbdcmkmeljddmaaGreatDoor.Aw

