/- The walk of tasks. -/
import Derived.Test.YtekjhefmhhcboaaGreatM25
import Derived.Test.YtekjhefmhhcboaaGreatM49
namespace Go.Proofs.YtekjhefmhhcboaaGreat.Vw
open Go.RowKit Vf Vm

theorem Tryz.info3 : (Tryz.prog.info? 3).map (fun i => (i.zero, i.size, i.bytes)) = some (some (.int .i64 0), 1, 8) := by kernel_rfl
/-- Which of the first k units are tasks. -/
def tasksTo (us : List Un) (k : Nat) : List Nat := (List.range k).filter fun i => decide (∃ u, us[i]? = some u ∧ u.kind = 4)
theorem tasksTo_succ {us : List Un} {k : Nat} {u : Un} (h : us[k]? = some u) : tasksTo us (k + 1) = if u.kind = 4 then tasksTo us k ++ [k] else tasksTo us k := by
  unfold tasksTo
  rw [List.range_succ, List.filter_append]
  by_cases e : u.kind = 4
  · simp [h, e]
  · simp [h, e]
theorem tasksTo_len (us : List Un) (k : Nat) : (tasksTo us k).length ≤ k := by
  have := List.length_filter_le (fun i => decide (∃ u, us[i]? = some u ∧ u.kind = 4)) (List.range k)
  simpa [tasksTo] using this
abbrev nats (l : List Nat) : List Value := l.map fun n : Nat => .int .i64 (n : Int)
/-- What holds at the head of tasks' loop. -/
def TsAt (us : List Un) (w : World) (k : Nat) (vl : Value) (wr : World) : Prop := k ≤ us.length ∧ Below w.heap.size w wr ∧ wr.ownsRow w.heap.size 3 1 vl (tasksTo us k).length (nats (tasksTo us k))

set_option maxRecDepth 100000 in
set_option maxHeartbeats 1000000 in
theorem tasks_any (c : Cx) (ab : Option Addr) (cb : Nat) (w : World) (hcx : Hid (CxIn c w)) (hB : c.B ≤ w.heap.size) :
    Calls Tryz.prog 37 #[.agg #[.slice ab c.m.boxes.length cb, .slice c.au c.m.units.length c.cu]] w fun e w' => ∃ vl, e = .returned vl ∧ TsAt c.m.units w c.m.units.length vl w' := by
  obtain ⟨i0, hi, hz0, hz1, hz2⟩ := info_parts Tryz.info3
  have hfew := hcx.out.few
  have HST : Hid (TsAt c.m.units w 0 (.slice none 0 0) (w.alloc (.cells #[.slice ab c.m.boxes.length cb, .slice c.au c.m.units.length c.cu] 25))) := ⟨Nat.zero_le _, (Below.refl _ w).alloc (Nat.le_refl _) _, ⟨rfl, .inl ⟨rfl, rfl⟩⟩⟩
  go_enter Tryz.func37, Tryz.ntmps37
  go_wp2
  go_loopw [3, 9] (fun vl v wr => ∃ k : Nat, v = .int .i64 k ∧ TsAt c.m.units w k vl wr) (fun _ v _ => c.m.units.length - (intOf v).toNat)
  case atStart => exact ⟨0, rfl, HST.out⟩
  case round =>
    obtain ⟨k, rfl, hk, hb, hown⟩ := hrel
    have HB := Sb.hide hb
    have HO := Sb.hide hown
    have hbz := hb.size
    clear hb hown HST
    by_cases hlt : k < c.m.units.length
    · obtain ⟨u, hu⟩ : ∃ u, c.m.units[k]? = some u := ⟨_, List.getElem?_eq_getElem hlt⟩
      obtain ⟨ub, uoff, al, cl, hau, hub, _, x0, x1, x2, x3, x4, x5⟩ := hcx.out.units k u hu
      have cb' : ∀ j, wr.cell? ⟨ub, j, none⟩ = w.cell? ⟨ub, j, none⟩ := fun j => cell_eq (HB.out.block ub (by omega)) _
      rw [← cb'] at x0 x1 x2 x3 x4 x5
      have HS := Sb.hide (tasksTo_succ hu)
      have htl := tasksTo_len c.m.units k
      obtain ⟨ml, hml⟩ : ∃ m, m = c.m.units.length := ⟨_, rfl⟩
      rw [hau, ← hml]
      rw [← hml] at hlt hfew
      have HML := Sb.hide hml
      have n0 : (0 : Int) ≤ (k : Int) := by omega
      have n1 : (k : Int) < (ml : Int) := by omega
      have hubz : ub < wr.heap.size := by omega
      have hne : ¬ wr.heap.size = ub := by omega
      have hne2 : ¬ ub = wr.heap.size := by omega
      clear hml hau cb' hu
      by_cases h4 : u.kind = 4
      · have e4 : (u.kind == 4) = true := by simpa using h4
        have HS2 : Hid (tasksTo c.m.units (k + 1) = tasksTo c.m.units k ++ [k]) := by unfold Hid; rw [HS.out, if_pos h4]
        have HRW : Hid (((wr.alloc (unO c k u al cl)).alloc (.cells #[.int .i64 (k : Int)] 3)).ownsRow w.heap.size 3 1 u3 (tasksTo c.m.units k).length (nats (tasksTo c.m.units k))) := (HO.out.alloc _).alloc _
        clear h4
        go_wp2_with (at_builtin; refine wpList_append_where rfl (.tmp 17) (.tmp 19) 57 rfl w.heap.size 3 i0 (.int .i64 0) 1 8 Tryz.underlying57 hi hz0 hz1 hz2 rfl (by decide) u3 (tasksTo c.m.units k).length (nats (tasksTo c.m.units k)) rfl HRW.out ⟨(wr.alloc (unO c k u al cl)).heap.size, 0, none⟩ 1 1 [.int .i64 (k : Int)] (by rw [show (wr.alloc (unO c k u al cl)).heap.size = wr.heap.size + 1 by simp]; rfl) rfl (news1 (wr.alloc (unO c k u al cl)) _ _) (ones1 rfl) (by decide) (by unfold maxLen; omega) (by omega) (by simp; omega) ?_)
        intro R4 cap4 w4 hown4 hg4 hR4
        have HREL : Hid (TsAt c.m.units w (k + 1) (.slice (some ⟨R4, 0, none⟩) ((tasksTo c.m.units k).length + 1) cap4) w4) := by
          refine ⟨by have := HML.out; omega, ((HB.out.alloc hbz _).alloc (by simp; omega) _).grown hg4 (by simp; omega) (fun b hb => (HO.out.lt b hb).1), ?_⟩
          rw [HS2.out, List.length_append, show nats (tasksTo c.m.units k ++ [k]) = nats (tasksTo c.m.units k) ++ [.int .i64 (k : Int)] by simp]
          exact hown4
        clear hown4 hg4 hR4
        go_wp2
        go_roundw
        case rel => exact ⟨k + 1, by go_num, HREL.out⟩
        case measure => simp [intOf]; omega
      · have e4 : (u.kind == 4) = false := by simpa using h4
        have HS2 : Hid (tasksTo c.m.units (k + 1) = tasksTo c.m.units k) := by unfold Hid; rw [HS.out, if_neg h4]
        clear h4
        go_wp2
        go_roundw
        case rel => exact ⟨k + 1, by go_num, by have := HML.out; omega, HB.out.alloc hbz _, by rw [HS2.out]; exact HO.out.alloc _⟩
        case measure => simp [intOf]; omega
    · have n1 : ¬ (k : Int) < (c.m.units.length : Int) := by omega
      have ek : k = c.m.units.length := by omega
      subst ek
      go_wp2
      go_ret
      exact ⟨_, rfl, hk, HB.out, HO.out⟩
end Go.Proofs.YtekjhefmhhcboaaGreat.Vw

/- The walk of NewTasks. -/
namespace Go.Proofs.YtekjhefmhhcboaaGreat.Vw
open Go.RowKit Vf Vm

theorem Tryz.info83 : (Tryz.prog.info? 83).map (fun i => (i.zero, i.size, i.bytes)) = some (some (.pointer none), 1, 8) := by kernel_rfl
theorem ptrs_succ (Q : Nat → Nat) (n : Nat) : ptrs Q (n + 1) = ptrs Q n ++ [.pointer (some ⟨Q n, 0, none⟩)] := by simp [ptrs, List.range_succ]
theorem ptrs_eq {Q Q' : Nat → Nat} {n : Nat} (h : ∀ i, i < n → Q i = Q' i) : ptrs Q n = ptrs Q' n := List.map_congr_left (fun i hi => by rw [h i (by simpa using hi)])
/-- What holds at the head of NewTasks' loop. -/
structure NvAt (c : Cx) (vb ev : Value) (L0 : Lab) (w : World) (us : List Nat) (k : Nat) (vl : Value) (T : Nat → Nat) (L : Lab) (wr : World) : Prop where
  le : k ≤ us.length
  below : Below w.heap.size w wr
  ext : Ext L0 L w
  ok : LOk c.B L wr
  idx : ∀ b, (L b).cls = 1 → (L b).idx < k
  row : wr.ownsRow w.heap.size 83 1 vl k (ptrs T k)
  lab : ∀ b, vl.ownBlock = some b → (L b).cls = 0
  tasks : ∀ (o n : Nat), o < k → us[o]? = some n → ∃ P vR vO, TkIn c vb ev L o (T o) P wr (newTk (unit c.m n) n) vR vO

set_option maxRecDepth 100000 in
set_option maxHeartbeats 2000000 in
/-- WHAT NewTasks ANSWERS. -/
theorem newTasks_any (c : Cx) (K : KM) (hK : Hid (Known c.m K)) (L : Lab) (w : World) (hL : Hid (LOk c.B L w)) (hcx : Hid (CxIn c w)) (hfr : Hid (∀ b, (L b).cls ≠ 1)) (ab : Option Addr) (cb : Nat) (sa : Option Addr) (sn sc : Nat) :
    Calls Tryz.prog 25 #[.agg #[.slice ab c.m.boxes.length cb, .slice c.au c.m.units.length c.cu], .slice sa sn sc] w fun e w' => ∃ vl T L', e = .returned vl ∧ NvAt c (.slice sa sn sc) (.func (.func 55) #[] #[]) L w (tasksTo c.m.units c.m.units.length) (tasksTo c.m.units c.m.units.length).length vl T L' w' := by
  obtain ⟨i0, hi, hz0, hz1, hz2⟩ := info_parts Tryz.info83
  have hBz := hL.out.size
  have HB0 : Hid (Below w.heap.size w (w.alloc (.cells #[.slice ab c.m.boxes.length cb, .slice c.au c.m.units.length c.cu] 25))) := (Below.refl _ w).alloc (Nat.le_refl _) _
  have HM0 : Hid ((w.alloc (.cells #[.slice ab c.m.boxes.length cb, .slice c.au c.m.units.length c.cu] 25)).heap[w.heap.size]? = some (.cells #[.slice ab c.m.boxes.length cb, .slice c.au c.m.units.length c.cu] 25)) := heap_alloc_new w _
  have c0 : (w.alloc (.cells #[.slice ab c.m.boxes.length cb, .slice c.au c.m.units.length c.cu] 25)).cell? ⟨w.heap.size, 0, none⟩ = some (.slice ab c.m.boxes.length cb) ∧ (w.alloc (.cells #[.slice ab c.m.boxes.length cb, .slice c.au c.m.units.length c.cu] 25)).cell? ⟨w.heap.size, 1, none⟩ = some (.slice c.au c.m.units.length c.cu) := by
    simp [World.cell?_alloc_mark]
  have hNN := tasksTo_len c.m.units c.m.units.length
  have hul := hK.out.rt.units
  go_enter Tryz.func25, Tryz.ntmps25
  go_wp2_with fail
  generalize w.alloc (.cells #[.slice ab c.m.boxes.length cb, .slice c.au c.m.units.length c.cu] 25) = W0 at *
  refine (tasks_any c ab cb _ (Sb.hide (hcx.out.low (fun b hb => HB0.out.block b (by omega)))) (by have := HB0.out.size; omega)).mono ?_
  rintro e w1 ⟨vu, rfl, hT⟩
  obtain ⟨_, hb1, ho1⟩ := hT
  obtain ⟨ua, uc, rfl⟩ := own_slice ho1
  have HB1 := Sb.hide (HB0.out.trans (hb1.mono HB0.out.size))
  have HM1 := Sb.hide ((hb1.block _ (lt_of_block HM0.out)).trans HM0.out)
  have HU1 := Sb.hide ho1
  obtain ⟨us, hus⟩ : ∃ us, us = tasksTo c.m.units c.m.units.length := ⟨_, rfl⟩
  have HUS := Sb.hide hus
  rw [← hus] at hNN HU1 ⊢
  have hun : us.length ≤ 30 := by omega
  have HST : Hid (NvAt c (.slice sa sn sc) (.func (.func 55) #[] #[]) L w us 0 (.slice none 0 0) (fun _ => 0) L w1) := ⟨Nat.zero_le _, HB1.out, .refl _ _, hL.out.on HB1.out.size, fun b hb => absurd hb (hfr.out b), ⟨rfl, .inl ⟨rfl, rfl⟩⟩, (fun b hb => by cases hb), fun o n ho => by omega⟩
  have HUT : Hid (∀ (o n : Nat), us[o]? = some n → ∃ u, c.m.units[n]? = some u ∧ u.kind = 4) := fun o n hon => by
    have := List.mem_of_getElem? hon
    rw [HUS.out] at this
    unfold tasksTo at this
    rw [List.mem_filter] at this
    simpa using this.2
  obtain ⟨N, hN⟩ : ∃ N, N = us.length := ⟨_, rfl⟩
  have HN := Sb.hide hN
  rw [← hN] at hun HU1 ⊢
  clear hb1 ho1 hus hN c0 hNN
  go_wp2
  go_loopw [5, 11] (fun vl v wr => ∃ k : Nat, v = .int .i64 k ∧ ∃ T L', NvAt c (.slice sa sn sc) (.func (.func 55) #[] #[]) L w us k vl T L' wr ∧ Below w1.heap.size w1 wr ∧ ∀ b, vl.ownBlock = some b → w1.heap.size ≤ b) (fun _ v _ => N - (intOf v).toNat)
  case atStart => exact ⟨0, rfl, _, _, HST.out, .refl _ _, fun b hb => by cases hb⟩
  case round =>
    obtain ⟨k, rfl, T, L1, hA, hb, ho⟩ := hrel
    have HO := Sb.hide ho
    have HA := Sb.hide hA
    have HB := Sb.hide hb
    have hk := hA.le
    have hbz := hA.below.size
    clear hA hb ho HST
    by_cases hlt : k < N
    · obtain ⟨n, hn⟩ : ∃ n, us[k]? = some n := ⟨_, List.getElem?_eq_getElem (by rw [← HN.out]; exact hlt)⟩
      obtain ⟨u, hu, h4⟩ := HUT.out k n hn
      obtain ⟨g, hua, huc⟩ := own_cell HU1.out (k := k) (u := .int .i64 (n : Int)) (by rw [List.getElem?_map, hn]; rfl)
      have hgz := World.block_lt_of_cell? w1 _ huc
      have t5 : wr.cell? ⟨g, k, none⟩ = some (.int .i64 (n : Int)) := (cell_eq (HB.out.block g hgz) _).trans huc
      have hm1 := (HB.out.block _ (lt_of_block HM1.out)).trans HM1.out
      have c0 : wr.cell? ⟨w.heap.size, 0, none⟩ = some (.slice ab c.m.boxes.length cb) ∧ wr.cell? ⟨w.heap.size, 1, none⟩ = some (.slice c.au c.m.units.length c.cu) := by simp [World.cell?, hm1]
      subst hua
      have hsz := sized_true (headE_zero (hK.out.rt.heads _ u hu).1).2.1
      have hp0 : u.params = 0 := by
        have := (headE_zero (hK.out.rt.heads _ u hu).1).2.1
        unfold sized at this
        simp [h4] at this
        omega
      have hl200 : u.locals.length ≤ 200 := hsz.1
      have HU := Sb.hide hu
      have HNN := Sb.hide hn
      have HFR : Hid (∀ b, ¬ ((L1 b).cls = 1 ∧ (L1 b).idx = k)) := fun b hx => by have := HA.out.idx b hx.1; omega
      have n0 : (0 : Int) ≤ (k : Int) := by omega
      have n1 : (k : Int) < (N : Int) := by omega
      clear hn hu h4 huc hm1 hsz
      go_wp2_with fail
      refine (newTask_any c L1 k wr (Sb.hide HA.out.ok) (Sb.hide (hcx.out.low (fun b hb => HA.out.below.block b (by omega)))) HFR ab cb sa sn sc n u HU hp0 hl200).mono ?_
      rintro e w2 ⟨T2, L2, P2, vR2, vO2, rfl, hT2, hL2, hE2, hb2⟩
      have hz2' := hb2.size
      have HB2 := Sb.hide hb2
      have HT2 := Sb.hide hT2
      have HL2 := Sb.hide hL2
      have HE2 := Sb.hide hE2
      have HRW : Hid ((w2.alloc (.cells #[.pointer (some ⟨T2, 0, none⟩)] 83)).ownsRow w.heap.size 83 1 u5 k (ptrs T k)) := World.ownsRow.alloc (own_keep HA.out.row (fun b hb => hb2.block b (HA.out.row.lt b hb).2)) _
      clear hb2 hT2 hL2 hE2 c0
      go_wp2_with (at_builtin; refine wpList_append_where rfl (.tmp 15) (.tmp 20) 72 rfl w.heap.size 83 i0 (.pointer none) 1 8 Tryz.underlying72 hi hz0 hz1 hz2 rfl (by decide) u5 k (ptrs T k) rfl HRW.out ⟨w2.heap.size, 0, none⟩ 1 1 [.pointer (some ⟨T2, 0, none⟩)] rfl rfl (news1 w2 _ _) (ones1 rfl) (by decide) (by unfold maxLen; omega) (by omega) (by simp; omega) ?_)
      intro R4 cap4 w4 hown4 hg4 hR4
      have hzg := hg4.size
      simp at hzg
      have blk4 : ∀ b, b < w2.heap.size → ¬ u5.ownBlock = some b → w4.heap[b]? = w2.heap[b]? := fun b hb hn => (hg4.block b (by simp; omega) (fun e => hn e.symm)).trans (Below.heap_alloc _ _ _ hb)
      have lv : ∀ b, u5.ownBlock = some b → (L2 b).cls = 0 := fun b hb => by rw [HE2.out.1 b (HA.out.row.lt b hb).2]; exact HA.out.lab b hb
      have HREL : Hid (NvAt c (.slice sa sn sc) (.func (.func 55) #[] #[]) L w us (k + 1) (.slice (some ⟨R4, 0, none⟩) (k + 1) cap4) (fun i => if i = k then T2 else T i) L2 w4) := by
        refine ⟨by have := HN.out; omega, ?_, HA.out.ext.trans HE2.out.1 HA.out.below.size, HL2.out.on (by omega), fun b hb => ?_, ?_, fun b hb => ?_, fun o n' ho hn' => ?_⟩
        · exact ((HA.out.below.trans (HB2.out.mono HA.out.below.size)).alloc (by omega) _).grown hg4 (by simp; omega) (fun b hb => (HA.out.row.lt b hb).1)
        · rcases HE2.out.2 b with e | e
          · rw [e] at hb ⊢; have := HA.out.idx b hb; omega
          · unfold Vw.WB EB at e; omega
        · rw [ptrs_succ, ptrs_eq (Q' := T) (fun i hi => if_neg (by omega)), if_pos rfl]
          exact hown4
        · simp [Value.ownBlock] at hb
          subst hb
          rcases hR4 with e | e
          · exact lv _ e
          · exact HL2.out.new _ (by have : R4 = w2.heap.size + 1 := (by simpa using e); omega)
        · by_cases e : o = k
          · subst e
            rw [HNN.out] at hn'
            cases hn'
            refine ⟨P2, vR2, vO2, ?_⟩
            simp only [if_true]
            rw [unit_of HU.out]
            exact tk_below HT2.out (fun b hb h1 _ => blk4 b hb (fun e2 => by have := lv b e2; omega)) (.refl _ _) HT2.out.labs
          · obtain ⟨P', vR', vO', hT⟩ := HA.out.tasks o n' (by omega) hn'
            refine ⟨P', vR', vO', ?_⟩
            simp only [if_neg e]
            refine tk_below hT (fun b hb h1 _ => ?_) HE2.out.1 (fun b h1 h2 => ?_)
            · exact (blk4 b (by omega) (fun e2 => by have := HA.out.lab b e2; omega)).trans (HB2.out.block b hb)
            · rcases HE2.out.2 b with e2 | e2
              · rw [e2] at h1 h2 ⊢; exact hT.labs b h1 h2
              · unfold Vw.WB EB at e2; omega
      have HBW : Hid (Below w1.heap.size w1 w4) := ((HB.out.trans (HB2.out.mono HB.out.size)).alloc (by have := HB.out.size; omega) _).grown hg4 (by have := HB.out.size; simp; omega) (fun b hb => HO.out b hb)
      have HO4 : Hid (∀ b, (Value.slice (some ⟨R4, 0, none⟩) (k + 1) cap4).ownBlock = some b → w1.heap.size ≤ b) := fun b hb => by
        simp [Value.ownBlock] at hb
        subst hb
        rcases hR4 with e | e
        · exact HO.out _ e
        · have : R4 = w2.heap.size + 1 := by simpa using e
          have := HB.out.size
          omega
      clear hown4 hg4 hR4 blk4 lv
      go_wp2
      go_roundw
      case rel => exact ⟨k + 1, by go_num, _, L2, HREL.out, HBW.out, HO4.out⟩
      case measure => simp [intOf]; omega
    · have ek : k = N := by have := HN.out; omega
      go_wp2
      go_ret
      have h := HA.out
      rw [ek, HN.out, HUS.out] at h
      exact ⟨_, T, L1, rfl, h⟩
end Go.Proofs.YtekjhefmhhcboaaGreat.Vw

