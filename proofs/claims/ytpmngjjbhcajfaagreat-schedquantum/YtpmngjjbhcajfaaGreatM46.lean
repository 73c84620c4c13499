/- The walk of NewTasks. -/
import Derived.Test.YtpmngjjbhcajfaaGreatM45
import Derived.Test.YtpmngjjbhcajfaaGreatM38
namespace Go.Proofs.YtpmngjjbhcajfaaGreat.Vw
open Go.RowKit Vf Vm

theorem Tryz.info83 : (Tryz.prog.info? 83).map (fun i => (i.zero, i.size, i.bytes)) = some (some (.pointer none), 1, 8) := by kernel_rfl
theorem ptrs_succ (Q : Nat → Nat) (n : Nat) : ptrs Q (n + 1) = ptrs Q n ++ [.pointer (some ⟨Q n, 0, none⟩)] := by simp [ptrs, List.range_succ]
theorem ptrs_eq {Q Q' : Nat → Nat} {n : Nat} (h : ∀ i, i < n → Q i = Q' i) : ptrs Q n = ptrs Q' n := List.map_congr_left (fun i hi => by rw [h i (by simpa using hi)])
/-- What holds at the head of NewTasks' loop. -/
structure NvAt (c : Cx) (vb ev : Value) (L0 : Lab) (w : World) (us : List Nat) (k : Nat) (vl : Value) (T : Nat → Nat) (L : Lab) (wr : World) : Prop where
  le : k ≤ us.length
  below : Below w.heap.size w wr
  ext : Ext L0 L w
  ok : LOk c.B L wr
  idx : ∀ b, (L b).cls = 1 → (L b).idx < k
  row : wr.ownsRow w.heap.size 83 1 vl k (ptrs T k)
  lab : ∀ b, vl.ownBlock = some b → (L b).cls = 0
  tasks : ∀ (o n : Nat), o < k → us[o]? = some n → ∃ P vR vO, TkIn c vb ev L o (T o) P wr (newTk (unit c.m n) n) vR vO

set_option maxRecDepth 100000 in
set_option maxHeartbeats 2000000 in
/-- WHAT NewTasks ANSWERS. -/
theorem newTasks_any (c : Cx) (K : KM) (hK : Hid (Known c.m K)) (L : Lab) (w : World) (hL : Hid (LOk c.B L w)) (hcx : Hid (CxIn c w)) (hfr : Hid (∀ b, (L b).cls ≠ 1)) (ab : Option Addr) (cb : Nat) (sa : Option Addr) (sn sc : Nat) :
    Calls Tryz.prog 25 #[.agg #[.slice ab c.m.boxes.length cb, .slice c.au c.m.units.length c.cu], .slice sa sn sc] w fun e w' => ∃ vl T L', e = .returned vl ∧ NvAt c (.slice sa sn sc) (.func (.func 54) #[] #[]) L w (tasksTo c.m.units c.m.units.length) (tasksTo c.m.units c.m.units.length).length vl T L' w' := by
  obtain ⟨i0, hi, hz0, hz1, hz2⟩ := info_parts Tryz.info83
  have hBz := hL.out.size
  have HB0 : Hid (Below w.heap.size w (w.alloc (.cells #[.slice ab c.m.boxes.length cb, .slice c.au c.m.units.length c.cu] 25))) := (Below.refl _ w).alloc (Nat.le_refl _) _
  have HM0 : Hid ((w.alloc (.cells #[.slice ab c.m.boxes.length cb, .slice c.au c.m.units.length c.cu] 25)).heap[w.heap.size]? = some (.cells #[.slice ab c.m.boxes.length cb, .slice c.au c.m.units.length c.cu] 25)) := heap_alloc_new w _
  have c0 : (w.alloc (.cells #[.slice ab c.m.boxes.length cb, .slice c.au c.m.units.length c.cu] 25)).cell? ⟨w.heap.size, 0, none⟩ = some (.slice ab c.m.boxes.length cb) ∧ (w.alloc (.cells #[.slice ab c.m.boxes.length cb, .slice c.au c.m.units.length c.cu] 25)).cell? ⟨w.heap.size, 1, none⟩ = some (.slice c.au c.m.units.length c.cu) := by
    simp [World.cell?_alloc_mark]
  have hNN := tasksTo_len c.m.units c.m.units.length
  have hul := hK.out.rt.units
  go_enter Tryz.func25, Tryz.ntmps25
  go_wp2_with fail
  generalize w.alloc (.cells #[.slice ab c.m.boxes.length cb, .slice c.au c.m.units.length c.cu] 25) = W0 at *
  refine (tasks_any c ab cb _ (Sb.hide (hcx.out.low (fun b hb => HB0.out.block b (by omega)))) (by have := HB0.out.size; omega)).mono ?_
  rintro e w1 ⟨vu, rfl, hT⟩
  obtain ⟨_, hb1, ho1⟩ := hT
  obtain ⟨ua, uc, rfl⟩ := own_slice ho1
  have HB1 := Sb.hide (HB0.out.trans (hb1.mono HB0.out.size))
  have HM1 := Sb.hide ((hb1.block _ (lt_of_block HM0.out)).trans HM0.out)
  have HU1 := Sb.hide ho1
  obtain ⟨us, hus⟩ : ∃ us, us = tasksTo c.m.units c.m.units.length := ⟨_, rfl⟩
  have HUS := Sb.hide hus
  rw [← hus] at hNN HU1 ⊢
  have hun : us.length ≤ 30 := by omega
  have HST : Hid (NvAt c (.slice sa sn sc) (.func (.func 54) #[] #[]) L w us 0 (.slice none 0 0) (fun _ => 0) L w1) := ⟨Nat.zero_le _, HB1.out, .refl _ _, hL.out.on HB1.out.size, fun b hb => absurd hb (hfr.out b), ⟨rfl, .inl ⟨rfl, rfl⟩⟩, (fun b hb => by cases hb), fun o n ho => by omega⟩
  have HUT : Hid (∀ (o n : Nat), us[o]? = some n → ∃ u, c.m.units[n]? = some u ∧ u.kind = 4) := fun o n hon => by
    have := List.mem_of_getElem? hon
    rw [HUS.out] at this
    unfold tasksTo at this
    rw [List.mem_filter] at this
    simpa using this.2
  obtain ⟨N, hN⟩ : ∃ N, N = us.length := ⟨_, rfl⟩
  have HN := Sb.hide hN
  rw [← hN] at hun HU1 ⊢
  clear hb1 ho1 hus hN c0 hNN
  go_wp2
  go_loopw [5, 11] (fun vl v wr => ∃ k : Nat, v = .int .i64 k ∧ ∃ T L', NvAt c (.slice sa sn sc) (.func (.func 54) #[] #[]) L w us k vl T L' wr ∧ Below w1.heap.size w1 wr ∧ ∀ b, vl.ownBlock = some b → w1.heap.size ≤ b) (fun _ v _ => N - (intOf v).toNat)
  case atStart => exact ⟨0, rfl, _, _, HST.out, .refl _ _, fun b hb => by cases hb⟩
  case round =>
    obtain ⟨k, rfl, T, L1, hA, hb, ho⟩ := hrel
    have HO := Sb.hide ho
    have HA := Sb.hide hA
    have HB := Sb.hide hb
    have hk := hA.le
    have hbz := hA.below.size
    clear hA hb ho HST
    by_cases hlt : k < N
    · obtain ⟨n, hn⟩ : ∃ n, us[k]? = some n := ⟨_, List.getElem?_eq_getElem (by rw [← HN.out]; exact hlt)⟩
      obtain ⟨u, hu, h4⟩ := HUT.out k n hn
      obtain ⟨g, hua, huc⟩ := own_cell HU1.out (k := k) (u := .int .i64 (n : Int)) (by rw [List.getElem?_map, hn]; rfl)
      have hgz := World.block_lt_of_cell? w1 _ huc
      have t5 : wr.cell? ⟨g, k, none⟩ = some (.int .i64 (n : Int)) := (cell_eq (HB.out.block g hgz) _).trans huc
      have hm1 := (HB.out.block _ (lt_of_block HM1.out)).trans HM1.out
      have c0 : wr.cell? ⟨w.heap.size, 0, none⟩ = some (.slice ab c.m.boxes.length cb) ∧ wr.cell? ⟨w.heap.size, 1, none⟩ = some (.slice c.au c.m.units.length c.cu) := by simp [World.cell?, hm1]
      subst hua
      have hsz := sized_true (headE_zero (hK.out.rt.heads _ u hu).1).2.1
      have hp0 : u.params = 0 := by
        have := (headE_zero (hK.out.rt.heads _ u hu).1).2.1
        unfold sized at this
        simp [h4] at this
        omega
      have hl200 : u.locals.length ≤ 200 := hsz.1
      have HU := Sb.hide hu
      have HNN := Sb.hide hn
      have HFR : Hid (∀ b, ¬ ((L1 b).cls = 1 ∧ (L1 b).idx = k)) := fun b hx => by have := HA.out.idx b hx.1; omega
      have n0 : (0 : Int) ≤ (k : Int) := by omega
      have n1 : (k : Int) < (N : Int) := by omega
      clear hn hu h4 huc hm1 hsz
      go_wp2_with fail
      refine (newTask_any c L1 k wr (Sb.hide HA.out.ok) (Sb.hide (hcx.out.low (fun b hb => HA.out.below.block b (by omega)))) HFR ab cb sa sn sc n u HU hp0 hl200).mono ?_
      rintro e w2 ⟨T2, L2, P2, vR2, vO2, rfl, hT2, hL2, hE2, hb2⟩
      have hz2' := hb2.size
      have HB2 := Sb.hide hb2
      have HT2 := Sb.hide hT2
      have HL2 := Sb.hide hL2
      have HE2 := Sb.hide hE2
      have HRW : Hid ((w2.alloc (.cells #[.pointer (some ⟨T2, 0, none⟩)] 83)).ownsRow w.heap.size 83 1 u5 k (ptrs T k)) := World.ownsRow.alloc (own_keep HA.out.row (fun b hb => hb2.block b (HA.out.row.lt b hb).2)) _
      clear hb2 hT2 hL2 hE2 c0
      go_wp2_with (at_builtin; refine wpList_append_where rfl (.tmp 15) (.tmp 20) 72 rfl w.heap.size 83 i0 (.pointer none) 1 8 Tryz.underlying72 hi hz0 hz1 hz2 rfl (by decide) u5 k (ptrs T k) rfl HRW.out ⟨w2.heap.size, 0, none⟩ 1 1 [.pointer (some ⟨T2, 0, none⟩)] rfl rfl (news1 w2 _ _) (ones1 rfl) (by decide) (by unfold maxLen; omega) (by omega) (by simp; omega) ?_)
      intro R4 cap4 w4 hown4 hg4 hR4
      have hzg := hg4.size
      simp at hzg
      have blk4 : ∀ b, b < w2.heap.size → ¬ u5.ownBlock = some b → w4.heap[b]? = w2.heap[b]? := fun b hb hn => (hg4.block b (by simp; omega) (fun e => hn e.symm)).trans (Below.heap_alloc _ _ _ hb)
      have lv : ∀ b, u5.ownBlock = some b → (L2 b).cls = 0 := fun b hb => by rw [HE2.out.1 b (HA.out.row.lt b hb).2]; exact HA.out.lab b hb
      have HREL : Hid (NvAt c (.slice sa sn sc) (.func (.func 54) #[] #[]) L w us (k + 1) (.slice (some ⟨R4, 0, none⟩) (k + 1) cap4) (fun i => if i = k then T2 else T i) L2 w4) := by
        refine ⟨by have := HN.out; omega, ?_, HA.out.ext.trans HE2.out.1 HA.out.below.size, HL2.out.on (by omega), fun b hb => ?_, ?_, fun b hb => ?_, fun o n' ho hn' => ?_⟩
        · exact ((HA.out.below.trans (HB2.out.mono HA.out.below.size)).alloc (by omega) _).grown hg4 (by simp; omega) (fun b hb => (HA.out.row.lt b hb).1)
        · rcases HE2.out.2 b with e | e
          · rw [e] at hb ⊢; have := HA.out.idx b hb; omega
          · unfold Vw.WB EB at e; omega
        · rw [ptrs_succ, ptrs_eq (Q' := T) (fun i hi => if_neg (by omega)), if_pos rfl]
          exact hown4
        · simp [Value.ownBlock] at hb
          subst hb
          rcases hR4 with e | e
          · exact lv _ e
          · exact HL2.out.new _ (by have : R4 = w2.heap.size + 1 := by simpa using e
                                    omega)
        · by_cases e : o = k
          · subst e
            rw [HNN.out] at hn'
            cases hn'
            refine ⟨P2, vR2, vO2, ?_⟩
            simp only [if_true]
            rw [unit_of HU.out]
            exact tk_below HT2.out (fun b hb h1 _ => blk4 b hb (fun e2 => by have := lv b e2; omega)) (.refl _ _) HT2.out.labs
          · obtain ⟨P', vR', vO', hT⟩ := HA.out.tasks o n' (by omega) hn'
            refine ⟨P', vR', vO', ?_⟩
            simp only [if_neg e]
            refine tk_below hT (fun b hb h1 _ => ?_) HE2.out.1 (fun b h1 h2 => ?_)
            · exact (blk4 b (by omega) (fun e2 => by have := HA.out.lab b e2; omega)).trans (HB2.out.block b hb)
            · rcases HE2.out.2 b with e2 | e2
              · rw [e2] at h1 h2 ⊢; exact hT.labs b h1 h2
              · unfold Vw.WB EB at e2; omega
      have HBW : Hid (Below w1.heap.size w1 w4) := ((HB.out.trans (HB2.out.mono HB.out.size)).alloc (by have := HB.out.size; omega) _).grown hg4 (by have := HB.out.size; simp; omega) (fun b hb => HO.out b hb)
      have HO4 : Hid (∀ b, (Value.slice (some ⟨R4, 0, none⟩) (k + 1) cap4).ownBlock = some b → w1.heap.size ≤ b) := fun b hb => by
        simp [Value.ownBlock] at hb
        subst hb
        rcases hR4 with e | e
        · exact HO.out _ e
        · have : R4 = w2.heap.size + 1 := by simpa using e
          have := HB.out.size
          omega
      clear hown4 hg4 hR4 blk4 lv
      go_wp2
      go_roundw
      case rel => exact ⟨k + 1, by go_num, _, L2, HREL.out, HBW.out, HO4.out⟩
      case measure => simp [intOf]; omega
    · have ek : k = N := by have := HN.out; omega
      go_wp2
      go_ret
      have h := HA.out
      rw [ek, HN.out, HUS.out] at h
      exact ⟨_, T, L1, rfl, h⟩
end Go.Proofs.YtpmngjjbhcajfaaGreat.Vw

/- What newWorld lays down, box by box. -/
namespace Go.Proofs.YtpmngjjbhcajfaaGreat.Vw
open Go.RowKit Vf Vm

theorem Tryz.info77 : (Tryz.prog.info? 77).map (fun i => (i.zero, i.size, i.bytes)) = some (some (.pointer none), 1, 8) := by kernel_rfl
theorem Tryz.info133 : (Tryz.prog.info? 133).map (fun i => (i.zero, i.size, i.bytes)) = some (some .nilIface, 1, 16) := by kernel_rfl
def mifs (Q : Nat → Nat) (n : Nat) : List Value := (List.range n).map fun i => .iface 77 (.pointer (some ⟨Q i, 0, none⟩))
theorem mifs_at (Q : Nat → Nat) {n i : Nat} (h : i < n) : (mifs Q n)[i]? = some (.iface 77 (.pointer (some ⟨Q i, 0, none⟩))) := by simp [mifs, h]
theorem mifs_succ (Q : Nat → Nat) (n : Nat) : mifs Q (n + 1) = mifs Q n ++ [.iface 77 (.pointer (some ⟨Q n, 0, none⟩))] := by simp [mifs, List.range_succ]
theorem mifs_eq {Q Q' : Nat → Nat} {n : Nat} (h : ∀ i, i < n → Q i = Q' i) : mifs Q n = mifs Q' n := List.map_congr_left (fun i hi => by rw [h i (by simpa using hi)])
theorem ty_ne {w : World} {B e size n g e' : Nat} {v : Value} {xs : List Value} {cur : Array Value} {fr : Nat × Nat} (h : w.ownsRow B e size v n xs) (hb : w.heap[g]? = some (.cells cur e' fr)) (hne : e' ≠ e) : v.ownBlock ≠ some g := fun e2 => by
  obtain ⟨cur2, hc⟩ := own_ty h e2
  rw [hb] at hc
  simp at hc
  exact hne hc.2.1

abbrev mdN (c : Cx) (ab : Option Addr) (cb : Nat) : Obj := .cells #[.slice ab c.m.boxes.length cb, .slice c.au c.m.units.length c.cu] 25 (0, 0)
/-- What holds at the head of newWorld's loop. -/
structure NxAt (c : Cx) (ab : Option Addr) (cb : Nat) (w : World) (k : Nat) (vx vb : Value) (Q G : Nat → Nat) (wr : World) : Prop where
  le : k ≤ c.m.boxes.length
  below : Below w.heap.size w wr
  md : wr.heap[w.heap.size]? = some (mdN c ab cb)
  wb : wr.heap[w.heap.size + 1]? = some (wdO (.slice none 0 0) vx 0 (-1))
  ptr : wr.ownsRow w.heap.size 77 1 vx k (ptrs Q k)
  ifc : wr.ownsRow w.heap.size 133 1 vb k (mifs Q k)
  box : ∀ (i : Nat) b, i < k → c.m.boxes[i]? = some b → Mb.BX wr (Q i) (G i) [] 0 b.cap.toNat
  low : ∀ i, i < k → w.heap.size + 1 < G i ∧ G i < Q i ∧ Q i < wr.heap.size
  inj : ∀ i j, i < j → j < k → Q i < G j

section
variable {c : Cx} {ab : Option Addr} {cb : Nat} {w : World} {k : Nat} {vx vb : Value} {Q G : Nat → Nat} {wr : World}
theorem NxAt.on (h : NxAt c ab cb w k vx vb Q G wr) {w2 : World} (hb : Below wr.heap.size wr w2) : NxAt c ab cb w k vx vb Q G w2 :=
  ⟨h.le, h.below.trans (hb.mono h.below.size), (hb.block _ (lt_of_block h.md)).trans h.md, (hb.block _ (lt_of_block h.wb)).trans h.wb, own_keep h.ptr (fun b hx => hb.block b (h.ptr.lt b hx).2), own_keep h.ifc (fun b hx => hb.block b (h.ifc.lt b hx).2), fun i b hi hx => BX_keep (h.box i b hi hx) (hb.block _ (h.low i hi).2.2) (hb.block _ (by have := h.low i hi; omega)), fun i hi => by have := h.low i hi; have := hb.size; omega, h.inj⟩
theorem NxAt.wcells (h : NxAt c ab cb w k vx vb Q G wr) : (wr.cell? ⟨w.heap.size + 1, 1, none⟩ = some vx ∧ wr.cell? ⟨w.heap.size + 1, 0, none⟩ = some (.slice none 0 0)) ∧ (∀ j, wr.frozen? ⟨w.heap.size + 1, j, none⟩ = false) ∧ wr.cell? ⟨w.heap.size, 0, none⟩ = some (.slice ab c.m.boxes.length cb) ∧ wr.cell? ⟨w.heap.size, 1, none⟩ = some (.slice c.au c.m.units.length c.cu) := by
  have h1 := h.md
  have h2 := h.wb
  simp [World.cell?, World.frozen?, h1, h2]
/-- The pointer's row has grown. -/
theorem NxAt.put1 (h : NxAt c ab cb w k vx vb Q G wr) {w2 : World} (hb2 : Below wr.heap.size wr w2) {w3 : World} {ob : Obj} (g3 : (w2.alloc ob).grownBy w3 vx.ownBlock) :
    w3.heap[w.heap.size + 1]? = some (wdO (.slice none 0 0) vx 0 (-1)) ∧ Below w.heap.size w w3 ∧ (∀ (b : Nat) (cur : Array Value) (e : Nat) (fr : Nat × Nat), w2.heap[b]? = some (.cells cur e fr) → e ≠ 77 → w3.heap[b]? = w2.heap[b]?) := by
  have h2 := h.on hb2
  have st : ∀ (b : Nat) (cur : Array Value) (e : Nat) (fr : Nat × Nat), w2.heap[b]? = some (.cells cur e fr) → e ≠ 77 → w3.heap[b]? = w2.heap[b]? := fun b cur e fr hx he => by
    have hlt := lt_of_block hx
    exact (g3.block b (by simp; omega) (fun e2 => ty_ne h2.ptr hx he e2.symm)).trans (Below.heap_alloc _ _ _ hlt)
  exact ⟨(st _ _ _ _ h2.wb (by decide)).trans h2.wb, (h2.below.alloc h2.below.size _).grown g3 (by have := h2.below.size; simp; omega) (fun b hb => (h2.ptr.lt b hb).1), st⟩
/-- A box more. -/
theorem NxAt.more (h : NxAt c ab cb w k vx vb Q G wr) {bx : Bx} (hx : c.m.boxes[k]? = some bx) {w2 : World} (hb2 : Below wr.heap.size wr w2) {S g : Nat} (hX : Mb.BX w2 S g [] 0 bx.cap.toNat) (hg : wr.heap.size ≤ g ∧ g < S)
    {w3 w5 : World} {v' vb' : Value} {ob3 ob5 : Obj} (h3 : w3.ownsRow w.heap.size 77 1 v' (k + 1) (ptrs Q k ++ [.pointer (some ⟨S, 0, none⟩)])) (g3 : (w2.alloc ob3).grownBy w3 vx.ownBlock)
    (h5 : w5.ownsRow w.heap.size 133 1 vb' (k + 1) (mifs Q k ++ [.iface 77 (.pointer (some ⟨S, 0, none⟩))])) (g5 : ((w3.setCell ⟨w.heap.size + 1, 1, none⟩ v').alloc ob5).grownBy w5 vb.ownBlock) :
    NxAt c ab cb w (k + 1) v' vb' (fun i => if i = k then S else Q i) (fun i => if i = k then g else G i) w5 := by
  obtain ⟨hW3, hB3, st3⟩ := h.put1 hb2 g3
  have h2 := h.on hb2
  have hz2 := hb2.size
  have hz3 := g3.size
  have hz5 := g5.size
  simp at hz3 hz5
  have hwz := h.below.size
  have hsz : (w3.setCell ⟨w.heap.size + 1, 1, none⟩ v').heap.size = w3.heap.size := by simp
  have hset : ∀ b, b ≠ w.heap.size + 1 → (w3.setCell ⟨w.heap.size + 1, 1, none⟩ v').heap[b]? = w3.heap[b]? := fun b hb => Below.heap_setCell _ ⟨w.heap.size + 1, 1, none⟩ _ _ hb
  have hWs : (w3.setCell ⟨w.heap.size + 1, 1, none⟩ v').heap[w.heap.size + 1]? = some (wdO (.slice none 0 0) v' 0 (-1)) := by
    simp only [World.setCell, Array.getElem?_modify, if_true, hW3, Option.map_some]
    rfl
  have hI3 : w3.ownsRow w.heap.size 133 1 vb k (mifs Q k) := own_keep h2.ifc (fun b hb => by
    obtain ⟨cur, hc⟩ := own_ty h2.ifc hb
    exact st3 b _ _ _ hc (by decide))
  have hIs : (w3.setCell ⟨w.heap.size + 1, 1, none⟩ v').ownsRow w.heap.size 133 1 vb k (mifs Q k) := own_keep hI3 (fun b hb => hset b (fun e => by
    obtain ⟨cur, hc⟩ := own_ty hI3 hb
    rw [e, hW3] at hc
    simp at hc))
  have st5 : ∀ (b : Nat) (cur : Array Value) (e : Nat) (fr : Nat × Nat), (w3.setCell ⟨w.heap.size + 1, 1, none⟩ v').heap[b]? = some (.cells cur e fr) → e ≠ 133 → w5.heap[b]? = (w3.setCell ⟨w.heap.size + 1, 1, none⟩ v').heap[b]? := fun b cur e fr hx he => by
    have hlt := lt_of_block hx
    exact (g5.block b (by simp at hlt ⊢; omega) (fun e2 => ty_ne hIs hx he e2.symm)).trans (Below.heap_alloc _ _ _ hlt)
  have far : ∀ (b : Nat) (cur : Array Value) (e : Nat) (fr : Nat × Nat), w2.heap[b]? = some (.cells cur e fr) → e ≠ 77 → e ≠ 133 → b ≠ w.heap.size + 1 → w5.heap[b]? = w2.heap[b]? := fun b cur e fr hx h1 h2 h3 => by
    have e3 := st3 b cur e fr hx h1
    have es := (hset b h3).trans e3
    exact (st5 b cur e fr (es.trans hx) h2).trans es
  have farB : ∀ {S g : Nat} {ws : List Int} {f n : Nat}, Mb.BX w2 S g ws f n → S ≠ w.heap.size + 1 → g ≠ w.heap.size + 1 → Mb.BX w5 S g ws f n := fun hq h1 h2 => by
    obtain ⟨cs, hc, _⟩ := hq.row
    exact BX_keep hq (far _ _ _ _ hq.blk (by decide) (by decide) h1) (far _ _ _ _ hc (by decide) (by decide) h2)
  have hQ : ∀ i, i < k → (if i = k then S else Q i) = Q i := fun i hi => if_neg (by omega)
  have hSz := lt_of_block hX.blk
  have hWz := lt_of_block h.wb
  refine ⟨(List.getElem?_eq_some_iff.1 hx).1, ?_, ?_, (st5 _ _ _ _ hWs (by decide)).trans hWs, ?_, ?_, fun i b hi hb => ?_, fun i hi => ?_, fun i j hij hj => ?_⟩
  · exact ((hB3.setCell (p := ⟨w.heap.size + 1, 1, none⟩) (by simp) _).alloc (by simp; omega) _).grown g5 (by simp; omega) (fun b hb => (h.ifc.lt b hb).1)
  · exact (far _ _ _ _ h2.md (by decide) (by decide) (by omega)).trans h2.md
  · rw [ptrs_succ, ptrs_eq hQ, if_pos rfl]
    have hs : (w3.setCell ⟨w.heap.size + 1, 1, none⟩ v').ownsRow w.heap.size 77 1 v' (k + 1) (ptrs Q k ++ [.pointer (some ⟨S, 0, none⟩)]) := own_keep h3 (fun b hb => hset b (fun e => by
      obtain ⟨cur, hc⟩ := own_ty h3 hb
      rw [e, hW3] at hc
      simp at hc))
    exact own_keep hs (fun b hb => by
      obtain ⟨cur, hc⟩ := own_ty hs hb
      exact st5 b _ _ _ hc (by decide))
  · rw [mifs_succ, mifs_eq hQ, if_pos rfl]
    exact h5
  · by_cases e : i = k
    · subst e
      rw [hx] at hb
      cases hb
      simp only [if_true]
      exact farB hX (by omega) (by omega)
    · simp only [if_neg e]
      have := h.low i (by omega)
      exact farB (h2.box i b (by omega) hb) (by omega) (by omega)
  · by_cases e : i = k
    · simp only [if_pos e]; omega
    · simp only [if_neg e]
      have := h.low i (by omega)
      omega
  · have e : ¬ i = k := by omega
    simp only [if_neg e]
    by_cases e2 : j = k
    · simp only [if_pos e2]
      have := h.low i (by omega)
      omega
    · simp only [if_neg e2]
      exact h.inj i j hij (by omega)
end
end Go.Proofs.YtpmngjjbhcajfaaGreat.Vw

