/- The walk of newWorld: the first world. -/
import Derived.Test.YtpmngjjbhcajfaaGreatM46
namespace Go.Proofs.YtpmngjjbhcajfaaGreat.Vw
open Go.RowKit Vf Vm

theorem find_at {n : Nat} {F : Nat → Nat} (hinj : ∀ i j, i < j → j < n → F i < F j) {i : Nat} (hi : i < n) : (List.range n).find? (fun j => F j == F i) = some i := by
  rw [List.find?_eq_some_iff_getElem]
  refine ⟨by simp, i, by simpa using hi, by simp, fun j hj => ?_⟩
  have := hinj j i hj hi
  simp
  omega
theorem find_none {n b : Nat} {F : Nat → Nat} (h : ∀ i, i < n → F i ≠ b) : (List.range n).find? (fun j => F j == b) = none := by
  rw [List.find?_eq_none]
  intro i hi
  simpa using h i (by simpa using hi)
/-- Whose the blocks are in newWorld. -/
def labN (W n : Nat) (Q G : Nat → Nat) : Lab := fun b => if b = W then ⟨4, 0, 0, 0⟩ else match (List.range n).find? (fun i => Q i == b) with
  | some i => ⟨2, i, 0, 0⟩
  | none => match (List.range n).find? (fun i => G i == b) with
    | some i => ⟨2, i, 0, 1⟩
    | none => ⟨0, 0, 0, 0⟩
theorem labN_none {W n b : Nat} {Q G : Nat → Nat} (h : b ≠ W) (h1 : ∀ i, i < n → Q i ≠ b) (h2 : ∀ i, i < n → G i ≠ b) : labN W n Q G b = ⟨0, 0, 0, 0⟩ := by
  unfold labN
  rw [if_neg h, find_none h1]
  simp only
  rw [find_none h2]
theorem labN_cls (W n : Nat) (Q G : Nat → Nat) (b : Nat) : (labN W n Q G b).cls ≠ 1 := by
  unfold labN
  split
  · simp
  · split
    · simp
    · split <;> simp
theorem hears_far (Q : Nat → Nat) (nb rb off : Nat) (c : Cx) (o : Nat) (evs : List (Nat × Ev)) (l0 : Nat) : Hears (mbE Q nb rb off (earOf deafW o evs l0)) c 54 #[] := by
  refine ⟨fun args w => by kernel_rfl, fun e L w l x h hk => (nobody e w).mono ?_⟩
  rintro r w' ⟨rfl, hb⟩
  exact ⟨rfl, L, ⟨h.out.1.keep (.refl _ _) hb.size (fun b hs _ => hb.block b hs), by have := h.out.2.1; simp; omega, trivial⟩, ⟨.refl _ _, fun b => .inl rfl⟩, hk.out.on hb.size, Chg.of_below hb⟩

/-- All tasks ahead of their first instructions, all boxes empty. -/
def firstW (m : Md) : Wd := ⟨(tasksTo m.units m.units.length).map fun (n : Nat) => newTk (unit m n) n, m.boxes.map fun b => ⟨b.cap.toNat, []⟩, 0, -1, []⟩
theorem box_caps {m : Md} (h : verify m = (0, 0, 0)) {i : Nat} {b : Bx} (hb : m.boxes[i]? = some b) : 1 ≤ b.cap ∧ b.cap ≤ 20 := by
  have h1 := right_iff.1 h 1 (by omega)
  have := first_all _ _ _ (show (firstE boxE m.boxes 0).1 = 0 from h1) b (List.mem_of_getElem? hb)
  unfold boxE at this
  split at this
  · cases this
  · split at this
    · cases this
    · omega
theorem task_of {m : Md} {o n : Nat} (h : (tasksTo m.units m.units.length)[o]? = some n) : ∃ u, m.units[n]? = some u ∧ u.kind = 4 ∧ unit m n = u := by
  have := List.mem_of_getElem? h
  unfold tasksTo at this
  rw [List.mem_filter] at this
  obtain ⟨u, hu, h4⟩ : ∃ u, m.units[n]? = some u ∧ u.kind = 4 := by simpa using this.2
  exact ⟨u, hu, h4, unit_of hu⟩
theorem firstW_at {m : Md} {o : Nat} {t : Tk} (h : (firstW m).ts[o]? = some t) : ∃ n, (tasksTo m.units m.units.length)[o]? = some n ∧ t = newTk (unit m n) n := by
  unfold firstW at h
  simp only [List.getElem?_map] at h
  cases hf : (tasksTo m.units m.units.length)[o]? with
  | none => rw [hf] at h; cases h
  | some n => rw [hf] at h; cases h; exact ⟨n, rfl, rfl⟩
theorem firstX_at {m : Md} {i : Nat} {q : Bq} (h : (firstW m).x[i]? = some q) : ∃ b, m.boxes[i]? = some b ∧ q = ⟨b.cap.toNat, []⟩ := by
  unfold firstW at h
  simp only [List.getElem?_map] at h
  cases hf : m.boxes[i]? with
  | none => rw [hf] at h; cases h
  | some n => rw [hf] at h; cases h; exact ⟨n, rfl, rfl⟩
/-- What holds at first. -/
theorem wi_first {m : Md} {K : KM} (hK : Known m K) (hv : verify m = (0, 0, 0)) : WI m K (firstW m) := by
  have hln : (firstW m).ts.length = (tasksTo m.units m.units.length).length := by simp [firstW]
  have hpos : 0 < (tasksTo m.units m.units.length).length := by
    have h3 := right_iff.1 hv 3 (by omega)
    have h3' : tasksE m = 0 := h3
    unfold tasksE at h3'
    split at h3'
    · rename_i ha
      rw [List.any_eq_true] at ha
      obtain ⟨u, hu, h4⟩ := ha
      obtain ⟨n, hn⟩ := List.getElem?_of_mem hu
      have : n ∈ tasksTo m.units m.units.length := by
        unfold tasksTo
        rw [List.mem_filter]
        have := (List.getElem?_eq_some_iff.1 hn).1
        exact ⟨by simpa using this, by simp [hn]; simpa using h4⟩
      exact List.length_pos_of_mem this
    · cases h3'
  have hle := tasksTo_len m.units m.units.length
  have hul := hK.rt.units
  refine ⟨fun o t ht => ?_, by show 0 ≤ 20000; omega, ⟨by show (-1 : Int) ≤ -1; omega, by show (-1 : Int) < _; omega⟩, by rw [hln]; omega⟩
  obtain ⟨n, hn, rfl⟩ := firstW_at ht
  obtain ⟨u, hu, h4, e⟩ := task_of hn
  rw [e]
  obtain ⟨G, hG⟩ := newTk_goes hK hu h4
  refine ⟨.inr ⟨G, [], hG⟩, .inl rfl, Nat.le_refl _, by simp [firstW], fun i q b hq hb => ?_⟩
  obtain ⟨b', hb', rfl⟩ := firstX_at hq
  rw [hb] at hb'
  cases hb'
  have := box_caps hv hb
  exact ⟨by simp; omega, Nat.zero_le _, fun _ => rfl⟩

/-- The first world in memory. -/
theorem first_of {c : Cx} {ab : Option Addr} {cb : Nat} {w wr w2 : World} {vx : Value} {sa : Option Addr} {sc : Nat} {Q G T : Nat → Nat} {vl : Value} {L2 : Lab} (hcx : CxIn c w) (hB : c.B ≤ w.heap.size) (H : NxAt c ab cb w c.m.boxes.length vx (.slice sa c.m.boxes.length sc) Q G wr)
    (H2 : NvAt c (.slice sa c.m.boxes.length sc) (.func (.func 54) #[] #[]) (labN (w.heap.size + 1) c.m.boxes.length Q G) wr (tasksTo c.m.units c.m.units.length) (tasksTo c.m.units c.m.units.length).length vl T L2 w2) :
    ∃ s : Sx, s.c = c ∧ s.WB = w.heap.size + 1 ∧ SxOk s deafW ∧ WdIn s deafW L2 (w2.setCell ⟨w.heap.size + 1, 0, none⟩ vl) (firstW c.m) vl vx ∧ Below w.heap.size w (w2.setCell ⟨w.heap.size + 1, 0, none⟩ vl) ∧ ∀ b, b < w.heap.size + 1 → (L2 b).cls = 0 := by
  have hzw := H.below.size
  have hz2 := H2.below.size
  have hWz := lt_of_block H.wb
  have hQi : ∀ i j, i < j → j < c.m.boxes.length → Q i < Q j := fun i j h1 h2 => by have := H.inj i j h1 h2; have := H.low j h2; omega
  have hGi : ∀ i j, i < j → j < c.m.boxes.length → G i < G j := fun i j h1 h2 => by have := H.inj i j h1 h2; have := H.low i (by omega); omega
  have hQG : ∀ i j, i < c.m.boxes.length → j < c.m.boxes.length → Q i ≠ G j := fun i j h1 h2 => by
    rcases Nat.lt_trichotomy i j with e | e | e
    · have := H.inj i j e h2; omega
    · subst e; have := H.low i h1; omega
    · have := H.inj j i e h1; have := H.low i h1; have := H.low j h2; omega
  have lQ : ∀ i, i < c.m.boxes.length → labN (w.heap.size + 1) c.m.boxes.length Q G (Q i) = ⟨2, i, 0, 0⟩ := fun i hi => by
    unfold labN
    rw [if_neg (by have := H.low i hi; omega), find_at hQi hi]
  have lG : ∀ i, i < c.m.boxes.length → labN (w.heap.size + 1) c.m.boxes.length Q G (G i) = ⟨2, i, 0, 1⟩ := fun i hi => by
    unfold labN
    rw [if_neg (by have := H.low i hi; omega), find_none (fun j hj => hQG j i hj hi)]
    simp only
    rw [find_at hGi hi]
  have lW : labN (w.heap.size + 1) c.m.boxes.length Q G (w.heap.size + 1) = ⟨4, 0, 0, 0⟩ := by unfold labN; rw [if_pos rfl]
  have old : ∀ b, b < w.heap.size + 1 → labN (w.heap.size + 1) c.m.boxes.length Q G b = ⟨0, 0, 0, 0⟩ := fun b hb => labN_none (by omega) (fun i hi e => by have := H.low i hi; omega) (fun i hi e => by have := H.low i hi; omega)
  have bxat : ∀ i, i < c.m.boxes.length → ∃ b, c.m.boxes[i]? = some b ∧ Mb.BX wr (Q i) (G i) [] 0 b.cap.toNat := fun i hi => by
    obtain ⟨b, hb⟩ : ∃ b, c.m.boxes[i]? = some b := ⟨_, List.getElem?_eq_getElem hi⟩
    exact ⟨b, hb, H.box i b hi hb⟩
  have rowc : ∀ {e n g : Nat} {v : Value} {xs : List Value}, wr.ownsRow w.heap.size e 1 v n xs → e ≠ 91 → e ≠ 2 → e ≠ 75 → v.ownBlock = some g → (labN (w.heap.size + 1) c.m.boxes.length Q G g).cls = 0 := fun ho h1 h2 h3 hg => by
    rw [labN_none (fun e => ty_ne ho H.wb (Ne.symm h3) (by rw [hg, e])) (fun i hi e => ?_) (fun i hi e => ?_)]
    · obtain ⟨b, _, hX⟩ := bxat i hi
      exact ty_ne ho hX.blk (Ne.symm h1) (by rw [hg, e])
    · obtain ⟨b, _, hX⟩ := bxat i hi
      obtain ⟨cs, hc, _⟩ := hX.row
      exact ty_ne ho hc (Ne.symm h2) (by rw [hg, e])
  have hW2 : w2.heap[w.heap.size + 1]? = some (wdO (.slice none 0 0) vx 0 (-1)) := (H2.below.block _ hWz).trans H.wb
  have hset : ∀ b, b ≠ w.heap.size + 1 → (w2.setCell ⟨w.heap.size + 1, 0, none⟩ vl).heap[b]? = w2.heap[b]? := fun b hb => Below.heap_setCell _ ⟨w.heap.size + 1, 0, none⟩ _ _ hb
  have kS : ∀ {e n size B : Nat} {v : Value} {xs : List Value}, w2.ownsRow B e size v n xs → e ≠ 75 → (w2.setCell ⟨w.heap.size + 1, 0, none⟩ vl).ownsRow B e size v n xs := fun h he => own_keep h (fun b hb => hset b (fun e2 => by
    obtain ⟨cur, hc⟩ := own_ty h hb
    rw [e2, hW2] at hc
    simp at hc
    exact he hc.2.symm))
  have k2 : ∀ {e n size B : Nat} {v : Value} {xs : List Value}, wr.ownsRow B e size v n xs → w2.ownsRow B e size v n xs := fun h => own_keep h (fun b hb => H2.below.block b (h.lt b hb).2)
  have hsz : (w2.setCell ⟨w.heap.size + 1, 0, none⟩ vl).heap.size = w2.heap.size := by simp
  have hlen : (firstW c.m).ts.length = (tasksTo c.m.units c.m.units.length).length := by simp [firstW]
  have hxl : (firstW c.m).x.length = c.m.boxes.length := by simp [firstW]
  have hB2 : Below w.heap.size w (w2.setCell ⟨w.heap.size + 1, 0, none⟩ vl) := (H.below.trans (H2.below.mono hzw)).setCell (p := ⟨w.heap.size + 1, 0, none⟩) (by simp) _
  have h0 : ∀ b, b < w.heap.size + 1 → (L2 b).cls = 0 := fun b hb => by rw [H2.ext b (by omega), old b hb]
  -- the boxes as tasks have them
  obtain ⟨rb, hrow, hbx⟩ : ∃ rb, (∀ n, n < c.m.boxes.length → rb < (w2.setCell ⟨w.heap.size + 1, 0, none⟩ vl).heap.size ∧ (L2 rb).cls = 0 ∧ (w2.setCell ⟨w.heap.size + 1, 0, none⟩ vl).cell? ⟨rb, 0 + n, none⟩ = some (.iface 77 (.pointer (some ⟨Q n, 0, none⟩)))) ∧ ∀ A, BoxesAt (mbE Q c.m.boxes.length rb 0 A) mbX c (.slice sa c.m.boxes.length sc) := by
    have hI := kS (k2 H.ifc) (by decide)
    cases sa with
    | none =>
      have h00 : c.m.boxes.length = 0 := by
        rcases H.ifc.2 with ⟨_, h0⟩ | ⟨g, cap, cur, e, _⟩
        · exact h0
        · simp at e
      exact ⟨0, fun n hn => by omega, fun A => ⟨fun n hn => by omega⟩⟩
    | some ad =>
      rcases H.ifc.2 with ⟨e, _⟩ | ⟨g, cap, cur, e, hr⟩
      · simp at e
      · simp at e
        obtain ⟨rfl, rfl⟩ := e
        have hgz := lt_of_block hr.2.1
        refine ⟨g, fun n hn => ?_, fun A => boxes_mb Q g 0 sc A c⟩
        obtain ⟨g', e', hc⟩ := own_cell hI (mifs_at Q hn)
        cases e'
        exact ⟨by omega, by rw [H2.ext g hgz]; exact rowc H.ifc (by decide) (by decide) (by decide) rfl, by rw [Nat.zero_add]; exact hc⟩
  refine ⟨⟨c, Q, rb, .slice sa c.m.boxes.length sc, w.heap.size + 1, T, fun _ => 54, fun _ => #[]⟩, rfl, rfl, ⟨fun A => hbx A, fun o evs l0 => hears_far Q _ rb 0 c o evs l0⟩, ?_, hB2, h0⟩
  refine ⟨?_, by show (L2 (w.heap.size + 1)).cls = 4; rw [H2.ext _ hWz, lW], ?_, ?_, H2.lab, fun b hb => ?_, fun b hb => ?_, fun o t ht => ?_, ⟨hxl, hrow, fun n q hq => ?_⟩, trivial, H2.ok.on (by rw [hsz]; exact Nat.le_refl _), hcx.low (fun b hb => hB2.block b (by have : b < c.B := hb; omega))⟩
  · show (w2.setCell ⟨w.heap.size + 1, 0, none⟩ vl).heap[w.heap.size + 1]? = some (wdO vl vx 0 (-1))
    simp only [World.setCell, Array.getElem?_modify, if_true, hW2, Option.map_some]
    rfl
  · rw [hlen]
    exact own_base (kS H2.row (by decide)) (Nat.zero_le _)
  · exact own_base (kS (k2 H.ptr) (by decide)) (Nat.zero_le _)
  · rw [H2.ext b (H.ptr.lt b hb).2]
    exact rowc H.ptr (by decide) (by decide) (by decide) hb
  · show c.B ≤ b
    rcases hb with hb | hb | hb
    · have := (H2.row.lt b hb).1; omega
    · have := (H.ptr.lt b hb).1; omega
    · have e : b = w.heap.size + 1 := hb
      omega
  · obtain ⟨n, hn, rfl⟩ := firstW_at ht
    obtain ⟨P, vR, vO, hT⟩ := H2.tasks o n (List.getElem?_eq_some_iff.1 hn).1 hn
    refine ⟨P, vR, vO, tk_below hT (fun b hb h1 _ => hset b (fun e => ?_)) (.refl _ _) hT.labs⟩
    rw [e, H2.ext _ hWz, lW] at h1
    simp at h1
  · obtain ⟨b, hb, rfl⟩ := firstX_at hq
    have hn := (List.getElem?_eq_some_iff.1 hb).1
    have hX := H.box n b hn hb
    have hl := H.low n hn
    refine ⟨G n, 0, BX_keep hX ((hset (Q n) (by omega)).trans (H2.below.block (Q n) (by omega))) ((hset (G n) (by omega)).trans (H2.below.block (G n) (by omega))), ?_, ?_⟩
    · show L2 (Q n) = _
      rw [H2.ext _ (by omega), lQ n hn]
    · show L2 (G n) = _
      rw [H2.ext _ (by omega), lG n hn]
end Go.Proofs.YtpmngjjbhcajfaaGreat.Vw

/- The walk of newWorld. -/
namespace Go.Proofs.YtpmngjjbhcajfaaGreat.Vw
open Go.RowKit Vf Vm

theorem lok_first {c : Cx} {ab : Option Addr} {cb : Nat} {w wr : World} {vx vb : Value} {Q G : Nat → Nat} (hB : c.B ≤ w.heap.size) (H : NxAt c ab cb w c.m.boxes.length vx vb Q G wr) : LOk c.B (labN (w.heap.size + 1) c.m.boxes.length Q G) wr := by
  have hzw := H.below.size
  have hWz := lt_of_block H.wb
  refine ⟨fun b hb => ?_, fun b hb => ?_, by omega⟩
  · rw [labN_none (by omega) (fun i hi e => by have := H.low i hi; omega) (fun i hi e => by have := H.low i hi; omega)]
  · rw [labN_none (by omega) (fun i hi e => by have := H.low i hi; omega) (fun i hi e => by have := H.low i hi; omega)]

set_option maxRecDepth 100000 in
set_option maxHeartbeats 2000000 in
/-- WHAT newWorld ANSWERS. -/
theorem newWorld_any (c : Cx) (K : KM) (hK : Hid (Known c.m K)) (hv : Hid (verify c.m = (0, 0, 0))) (hnb : c.m.boxes.length ≤ 30) (w : World) (hcx : Hid (CxIn c w)) (hB : c.B ≤ w.heap.size) (ab : Option Addr) (cb : Nat) (hbx : Hid (BoxesIn c.B w c.m.boxes ab)) :
    Calls Tryz.prog 16 #[.agg #[.slice ab c.m.boxes.length cb, .slice c.au c.m.units.length c.cu]] w fun e w' => ∃ (s : Sx) (L : Lab) (vt vx : Value), e = .returned (.pointer (some ⟨s.WB, 0, none⟩)) ∧ s.c = c ∧ SxOk s deafW ∧ WdIn s deafW L w' (firstW c.m) vt vx ∧ Below w.heap.size w w' ∧ ∀ b, b < w.heap.size → (L b).cls = 0 := by
  obtain ⟨i0, hi, hz0, hz1, hz2⟩ := info_parts Tryz.info77
  obtain ⟨i1, hi1, hy0, hy1, hy2⟩ := info_parts Tryz.info133
  have HST : Hid (NxAt c ab cb w 0 (.slice none 0 0) (.slice none 0 0) (fun _ => 0) (fun _ => 0) ((w.alloc (mdN c ab cb)).alloc (wdO (.slice none 0 0) (.slice none 0 0) 0 (-1)))) := by
    have e : (w.alloc (mdN c ab cb)).heap.size = w.heap.size + 1 := by simp
    refine ⟨Nat.zero_le _, ((Below.refl _ w).alloc (Nat.le_refl _) _).alloc (by simp) _, (Below.heap_alloc _ _ _ (by simp)).trans (heap_alloc_new w _), ?_, ⟨rfl, .inl ⟨rfl, rfl⟩⟩, ⟨rfl, .inl ⟨rfl, rfl⟩⟩, fun i b hi => by omega, fun i hi => by omega, fun i j _ hj => by omega⟩
    rw [← e]
    exact heap_alloc_new _ _
  obtain ⟨N, hN⟩ : ∃ N, N = c.m.boxes.length := ⟨_, rfl⟩
  have HN := Sb.hide hN
  rw [← hN] at hnb ⊢
  clear hN
  go_enter Tryz.func16, Tryz.ntmps16
  go_wp2
  go_loopw [4, 14] (fun vb v wr => ∃ k : Nat, v = .int .i64 k ∧ ∃ vx Q G, NxAt c ab cb w k vx vb Q G wr) (fun _ v _ => N - (intOf v).toNat)
  case atStart => exact ⟨0, rfl, _, _, _, by have := HST.out; unfold mdN at this; rw [← HN.out] at this; exact this⟩
  case round =>
    obtain ⟨k, rfl, vx, Q, G, hA⟩ := hrel
    have HA := Sb.hide hA
    have hk := hA.le
    have hbz := hA.below.size
    have hWz := lt_of_block hA.wb
    obtain ⟨⟨q1, q0⟩, qf, q2, q3⟩ := hA.wcells
    rw [← HN.out] at hk q2
    clear hA HST
    by_cases hlt : k < N
    · obtain ⟨b, hb⟩ : ∃ b, c.m.boxes[k]? = some b := ⟨_, List.getElem?_eq_getElem (by rw [← HN.out]; exact hlt)⟩
      obtain ⟨_, _, bb, boff, rfl, hbb, y0, y1⟩ := hbx.out k b hb
      have z0 : wr.cell? ⟨bb, boff + k * 2, none⟩ = some (.int .i64 b.ty) := (cell_eq (HA.out.below.block bb (by omega)) _).trans y0
      have z1 : wr.cell? ⟨bb, boff + k * 2 + 1, none⟩ = some (.int .i64 b.cap) := (cell_eq (HA.out.below.block bb (by omega)) _).trans y1
      obtain ⟨hc1, hc2⟩ := box_caps hv.out hb
      obtain ⟨n, hn⟩ : ∃ n : Nat, b.cap = n := ⟨b.cap.toNat, by omega⟩
      rw [hn] at z1
      have hn1 : 1 ≤ n := by omega
      have hn2 : n ≤ 20 := by omega
      have HBX := Sb.hide hb
      have HNE : Hid (b.cap.toNat = n) := by unfold Hid; omega
      have n0 : (0 : Int) ≤ (k : Int) := by omega
      have n1 : (k : Int) < (N : Int) := by omega
      clear hb y0 y1 hbx hn hc1 hc2 q0 q2 q3
      go_wp2_with fail
      refine (Mb.mnew_any n _ hn1 hn2).mono ?_
      rintro e w2 ⟨S, rfl, hX, hS, hb2⟩
      have HB2 : Hid (Below wr.heap.size wr w2) := ((Below.refl _ wr).alloc (Nat.le_refl _) _).trans (hb2.mono (by simp))
      have hz2' := HB2.out.size
      have HX : Hid (Mb.BX w2 S (wr.heap.size + 1) [] 0 b.cap.toNat) := by
        unfold Hid
        rw [HNE.out]
        have := hX
        rw [show (wr.alloc (.cells #[.int .i64 b.ty, .int .i64 (n : Int)] 50)).heap.size = wr.heap.size + 1 by simp] at this
        exact this
      have hSg : wr.heap.size + 1 < S := by simpa using hS
      have HP : Hid ((w2.alloc (.cells #[.pointer (some ⟨S, 0, none⟩)] 77)).ownsRow w.heap.size 77 1 vx k (ptrs Q k)) := World.ownsRow.alloc (HA.out.on HB2.out).ptr _
      have q1 : w2.cell? ⟨w.heap.size + 1, 1, none⟩ = some vx := (cell_eq (HB2.out.block _ hWz) _).trans q1
      clear hX hS hb2 z0 z1 qf
      go_wp2_with (at_builtin; refine wpList_append_where rfl (.tmp 28) (.tmp 30) 73 rfl w.heap.size 77 i0 (.pointer none) 1 8 Tryz.underlying73 hi hz0 hz1 hz2 rfl (by decide) vx k (ptrs Q k) rfl HP.out ⟨w2.heap.size, 0, none⟩ 1 1 [.pointer (some ⟨S, 0, none⟩)] rfl rfl (news1 w2 _ _) (ones1 rfl) (by decide) (by unfold maxLen; omega) (by omega) (by simp; omega) ?_)
      intro R3 cap3 w3 hown3 hg3 hR3
      obtain ⟨hW3, _, st3⟩ := HA.out.put1 HB2.out hg3
      have c1 : w3.cell? ⟨w.heap.size + 1, 1, none⟩ = some vx := by simp [World.cell?, hW3]
      have c2 : w3.frozen? ⟨w.heap.size + 1, 1, none⟩ = false := by simp [World.frozen?, hW3]
      have hz3 := hg3.size
      simp at hz3
      have H3 := Sb.hide hown3
      have G3 := Sb.hide hg3
      obtain ⟨v3, hv3⟩ : ∃ v, v = Value.slice (some ⟨R3, 0, none⟩) (k + 1) cap3 := ⟨_, rfl⟩
      have HI : Hid (((w3.setCell ⟨w.heap.size + 1, 1, none⟩ (.slice (some ⟨R3, 0, none⟩) (k + 1) cap3)).alloc (.cells #[.iface 77 (.pointer (some ⟨S, 0, none⟩))] 133)).ownsRow w.heap.size 133 1 u4 k (mifs Q k)) := by
        refine World.ownsRow.alloc (own_keep (HA.out.on HB2.out).ifc (fun b hb => ?_)) _
        obtain ⟨cur, hc⟩ := own_ty (HA.out.on HB2.out).ifc hb
        refine (Below.heap_setCell _ ⟨w.heap.size + 1, 1, none⟩ _ _ (fun e => ?_)).trans (st3 b _ _ _ hc (by decide))
        have := (HA.out.on HB2.out).wb
        rw [e, this] at hc
        simp at hc
      clear hown3 hg3 hR3 hW3 st3 hv3 q1
      have hs3 : (w3.setCell ⟨w.heap.size + 1, 1, none⟩ (.slice (some ⟨R3, 0, none⟩) (k + 1) cap3)).heap.size = w3.heap.size := by simp
      go_wp2_with (at_builtin; refine wpList_append_where rfl (.tmp 34) (.tmp 37) 76 rfl w.heap.size 133 i1 .nilIface 1 16 Tryz.underlying76 hi1 hy0 hy1 hy2 rfl (by decide) u4 k (mifs Q k) rfl HI.out ⟨(w3.setCell ⟨w.heap.size + 1, 1, none⟩ (.slice (some ⟨R3, 0, none⟩) (k + 1) cap3)).heap.size, 0, none⟩ 1 1 [.iface 77 (.pointer (some ⟨S, 0, none⟩))] (by rw [hs3]; rfl) rfl (news1 (w3.setCell ⟨w.heap.size + 1, 1, none⟩ (.slice (some ⟨R3, 0, none⟩) (k + 1) cap3)) _ _) (ones1 rfl) (by decide) (by unfold maxLen; omega) (by omega) (by simp; omega) ?_)
      intro R5 cap5 w5 hown5 hg5 hR5
      have HREL := Sb.hide (HA.out.more HBX.out HB2.out HX.out ⟨by omega, hSg⟩ H3.out G3.out hown5 hg5)
      clear hown5 hg5 hR5
      go_wp2
      go_roundw
      case rel => exact ⟨k + 1, by go_num, _, _, _, HREL.out⟩
      case measure => simp [intOf]; omega
    · have ek : k = N := by omega
      have n1 : ¬ (k : Int) < (N : Int) := by omega
      obtain ⟨sa, sc, rfl⟩ := own_slice HA.out.ifc
      have HF : Hid (NxAt c ab cb w c.m.boxes.length vx (.slice sa c.m.boxes.length sc) Q G wr) := by
        have := HA.out
        rw [ek, HN.out] at this
        exact this
      have HLK := Sb.hide (lok_first hB HF.out)
      clear q1
      go_wp2_with fail
      rw [HN.out]
      refine (newTasks_any c K hK (labN (w.heap.size + 1) c.m.boxes.length Q G) _ HLK (Sb.hide (hcx.out.low (fun b hb => HA.out.below.block b (by omega)))) (Sb.hide (labN_cls _ _ _ _)) ab cb sa _ sc).mono ?_
      rintro e w2 ⟨vl, T, L2, rfl, hT⟩
      obtain ⟨la, lc, rfl⟩ := own_slice hT.row
      have hW2 := (hT.below.block _ hWz).trans HF.out.wb
      have c1 : w2.cell? ⟨w.heap.size + 1, 0, none⟩ = some (.slice none 0 0) := by simp [World.cell?, hW2]
      have c2 : w2.frozen? ⟨w.heap.size + 1, 0, none⟩ = false := by simp [World.frozen?, hW2]
      obtain ⟨s, e1, e2, hS, hW, hBl, h0⟩ := first_of hcx.out hB HF.out hT
      have HS := Sb.hide hS
      have HWD := Sb.hide hW
      have HBL := Sb.hide hBl
      have H0 := Sb.hide h0
      have E1 := Sb.hide e1
      have E2 := Sb.hide e2
      clear hT hW2 hS hW hBl h0 e1 e2 q0 q2 q3 qf
      go_wp2
      go_ret
      exact ⟨s, L2, _, vx, by rw [E2.out]; rfl, E1.out, HS.out, HWD.out, HBL.out, fun b hb => H0.out b (by omega)⟩
end Go.Proofs.YtpmngjjbhcajfaaGreat.Vw

