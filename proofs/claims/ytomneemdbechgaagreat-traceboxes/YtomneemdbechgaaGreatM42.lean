/- WHAT Trace ANSWERS. -/
import Derived.Test.YtomneemdbechgaaGreatM38
import Derived.Test.YtomneemdbechgaaGreatM41
namespace Go.Proofs.YtomneemdbechgaaGreat.Vw
open Go.RowKit Vf Vm

set_option maxHeartbeats 400000 in
theorem taskHear_any (T : Nat) (ev : Value) (n : Nat) (caps : Array Value) (w : World) (h0 : w.cell? ⟨T, 2, none⟩ = some ev) (hf : w.frozen? ⟨T, 2, none⟩ = false) :
    Calls Tryz.prog 22 #[.pointer (some ⟨T, 0, none⟩), .func (.func n) #[] caps] w fun e w' => e = .returned (.tuple #[]) ∧ w' = w.setCell ⟨T, 2, none⟩ (.func (.func n) #[] caps) := by
  have hst : Sem.run Tryz.prog (store ⟨T, 2, none⟩ (.func (.func n) #[] caps)) w = .ok () (w.setCell ⟨T, 2, none⟩ (.func (.func n) #[] caps)) := by
    rw [run_store _ _ _ _ _ rfl, h0]
    simp [hf]
  go_enter Tryz.func22, Tryz.ntmps22
  go_wp2
  go_end0
  exact ⟨rfl, rfl⟩

set_option maxRecDepth 100000 in
set_option maxHeartbeats 1000000 in
/-- WHAT hear LEAVES. -/
theorem hear_any (s : Sx) (L : Lab) (w : World) (W : Wd) (vt vx : Value) (H : Hid (WdIn s deafW L w W vt vx)) (hn : W.ts.length ≤ 30) (Eb : Nat) (hE : Hid (w.heap[Eb]? = some (.cells #[.slice none 0 0] 28 (0, 0)) ∧ L Eb = ⟨3, 0, 0, 0⟩)) :
    Calls Tryz.prog 15 #[.pointer (some ⟨s.WB, 0, none⟩), .func (.func 16) #[] #[.pointer (some ⟨Eb, 0, none⟩)]] w fun e w' => e = .returned (.tuple #[]) ∧ ∃ NB L', HrAt s L w W vt vx Eb W.ts.length NB L' w' := by
  obtain ⟨ta, tc, hvt⟩ : ∃ a c, vt = .slice a W.ts.length c := own_slice H.out.trow
  subst hvt
  have hWz := lt_of_block H.out.blk
  have hEz := lt_of_block hE.out.1
  have hok := H.out.ok
  have hb : Below w.heap.size w (w.alloc (hearO Eb)) := (Below.refl _ w).alloc (Nat.le_refl _) _
  have hbk : (w.alloc (hearO Eb)).heap[w.heap.size]? = some (hearO Eb) := heap_alloc_new w _
  have hz1 : (w.alloc (hearO Eb)).heap.size = w.heap.size + 1 := by simp
  have hX : Ext L (fun b => if b = w.heap.size then ⟨3, 0, 0, 2⟩ else L b) w := fun b hb => by simp; intro e; omega
  have hLL : ∀ b, (if b = w.heap.size then (⟨3, 0, 0, 2⟩ : _) else L b) = L b ∨ ((if b = w.heap.size then (⟨3, 0, 0, 2⟩ : _) else L b) : _).cls = 3 := fun b => by
    by_cases e : b = w.heap.size
    · right; simp [e]
    · left; simp [e]
  have hBz : s.c.B ≤ w.heap.size := hok.size
  have HST : Hid (HrAt s L w W (.slice ta W.ts.length tc) vx Eb 0 (fun _ => 0) (fun b => if b = w.heap.size then ⟨3, 0, 0, 2⟩ else L b) (w.alloc (hearO Eb))) := by
    have H1 := H.out.label hb hX hLL ⟨fun b hb' => by (try simp only); rw [if_neg (by omega)]; exact hok.low b hb', fun b hb' => by (try simp only); rw [if_neg (by omega)]; exact hok.new b (by omega), by omega⟩
    refine ⟨Nat.zero_le _, ?_, ⟨⟨.slice none 0 0, (hb.block _ hEz).trans hE.out.1, ⟨rfl, .inl ⟨rfl, rfl⟩⟩, fun b hb => by cases hb⟩, hbk, fun o ho => by omega, ?_, by simp, fun o ho => by omega⟩, hX, ⟨hb.os, hb.tape, hb.output, hb.size, fun b hb' _ => hb.block b hb'⟩⟩
    · have e : s.heard 0 w.heap.size (fun _ => 0) = s := by
        obtain ⟨c, Q, rb, vb, WB, T, N, caps⟩ := s
        simp [Sx.heard]
      rw [e]
      exact H1
    · show (if Eb = w.heap.size then _ else _) = _
      rw [if_neg (by omega)]
      exact hE.out.2
  obtain ⟨N, hNN⟩ : ∃ N, N = W.ts.length := ⟨_, rfl⟩
  have HN := Sb.hide hNN
  have q0 : (w.alloc (hearO Eb)).cell? ⟨s.WB, 0, none⟩ = some (.slice ta N tc) := by rw [hNN]; exact (cell_eq (hb.block _ hWz) _).trans H.out.cells.1
  rw [← hNN] at hn
  clear hNN hX hLL hok hb hbk
  go_enter Tryz.func15, Tryz.ntmps15
  go_upto_region 1 with fail
  generalize w.alloc (hearO Eb) = W1 at *
  go_wp2
  go_loopw [11] (fun v wr => ∃ k : Nat, v = .int .i64 k ∧ ∃ NB L', HrAt s L w W (.slice ta W.ts.length tc) vx Eb k NB L' wr) (fun v _ => N - (intOf v).toNat)
  case atStart => exact ⟨0, rfl, _, _, HST.out⟩
  case round =>
    obtain ⟨k, rfl, NB, L1, hA⟩ := hrel
    have HA := Sb.hide hA
    have hk := hA.le
    rw [← HN.out] at hk
    clear hA HST q0
    by_cases hlt : k < N
    · obtain ⟨g, hta, htc⟩ := own_cell HA.out.wd.trow (ptrs_at (s.heard k w.heap.size NB).T (by have := HN.out; omega : k < W.ts.length))
      subst hta
      have htc2 : wr.cell? ⟨g, k, none⟩ = some (.pointer (some ⟨s.T k, 0, none⟩)) := htc
      obtain ⟨t, ht⟩ : ∃ t, W.ts[k]? = some t := ⟨_, List.getElem?_eq_getElem (by have := HN.out; omega)⟩
      obtain ⟨P0, vR0, vO0, h0⟩ := HA.out.wd.tasks k t ht
      obtain ⟨_, _, c2, _, _, _, _, _, fr⟩ := tk_cells h0.blk
      have hTz : s.T k < wr.heap.size := lt_of_block h0.blk
      have HB1 : Hid (Below wr.heap.size wr (wr.alloc (.cells #[.int .i64 (k : Int)] 3))) := (Below.refl _ wr).alloc (Nat.le_refl _) _
      have d2 : (wr.alloc (.cells #[.int .i64 (k : Int)] 3)).cell? ⟨s.T k, 2, none⟩ = some ((s.heard k w.heap.size NB).ev k) := (cell_eq (HB1.out.block _ hTz) _).trans c2
      have d3 : (wr.alloc (.cells #[.int .i64 (k : Int)] 3)).frozen? ⟨s.T k, 2, none⟩ = false := by
        have := (HB1.out.block _ hTz).trans h0.blk
        have e : (wr.alloc (.cells #[.int .i64 (k : Int)] 3)).heap[s.T k]? = _ := this
        generalize wr.alloc (.cells #[.int .i64 (k : Int)] 3) = W2 at e ⊢
        simp [World.frozen?, e]
      obtain ⟨NB', L2, hNB, hM⟩ := HA.out.more (by have := HN.out; omega)
      have HM := Sb.hide hM
      have b0 : (0 : Int) ≤ (k : Int) := by omega
      have b1 : (k : Int) < (N : Int) := by omega
      have D2 := Sb.hide d2
      have D3 := Sb.hide d3
      clear htc ht h0 c2 fr hM hNB d2 d3
      go_wp2_with fail
      refine (taskHear_any (s.T k) _ _ _ _ D2.out D3.out).mono ?_
      rintro e w2 ⟨rfl, hw2⟩
      have HM2 : Hid (HrAt s L w W (.slice (some ⟨g, 0, none⟩) W.ts.length tc) vx Eb (k + 1) NB' L2 w2) := by rw [hw2]; exact HM.out
      clear hw2
      go_wp2
      go_roundw
      case rel => exact ⟨k + 1, by go_num, NB', L2, HM2.out⟩
      case measure => simp [intOf]; omega
    · have ek : k = W.ts.length := by have := HN.out; omega
      have HE := Sb.hide ek
      clear ek
      go_wp2
      go_end0
      have h2 := HA.out
      have e2 := HE.out
      subst e2
      exact ⟨rfl, NB, L1, h2⟩
end Go.Proofs.YtomneemdbechgaaGreat.Vw

/- WHAT Trace ANSWERS. -/
namespace Go.Proofs.YtomneemdbechgaaGreat.Vw
open Go.RowKit Vf Vm

/-- All tasks are heard; who is none is not asked. -/
def Sx.all (s : Sx) (nt Hb : Nat) (NB : Nat → Nat) : Sx := { s with N := fun o => if o < nt then 23 else 51, caps := fun o => if o < nt then #[.pointer (some ⟨NB o, 0, none⟩), .pointer (some ⟨Hb, 0, none⟩)] else #[] }
theorem HrAt.all {s : Sx} {L : Lab} {w : World} {W : Wd} {vt vx : Value} {Eb : Nat} {NB : Nat → Nat} {L' : Lab} {wr : World} (h : HrAt s L w W vt vx Eb W.ts.length NB L' wr) (hev : W.evs = []) : WdIn (s.all W.ts.length w.heap.size NB) (evW Eb w.heap.size W.ts.length NB) L' wr W vt vx := by
  have H := h.wd
  refine ⟨H.blk, H.lW, H.trow, H.brow, H.lt, H.lx, H.low, fun o t ht => ?_, H.boxes, ⟨[], h.ev, Nat.zero_le _, fun _ => hev.symm⟩, H.ok, H.cx⟩
  obtain ⟨P, vR, vO, k⟩ := H.tasks o t ht
  have ho := (List.getElem?_eq_some_iff.1 ht).1
  have e : (s.all W.ts.length w.heap.size NB).ev o = (s.heard W.ts.length w.heap.size NB).ev o := by simp [Sx.ev, Sx.all, Sx.heard, ho]
  refine ⟨P, vR, vO, ?_⟩
  rw [e]
  exact k
theorem MbEn.keep3 {Q : Nat → Nat} {nb rb off : Nat} {L L' : Lab} {w w' : World} {x : List Bq} (h : MbEn Q nb rb off L w x) (hE : Ext L L' w) (hC : Chg (fun b => (L b).cls = 3) w w') : MbEn Q nb rb off L' w' x := by
  by_cases h0 : 0 < nb
  · have := (h.row 0 h0).2.1
    exact h.keep hE hC.size (fun b hs hx => hC.block b hs (by rcases hx with rfl | hx <;> omega))
  · have hx0 : x = [] := List.eq_nil_of_length_eq_zero (by have := h.len; omega)
    exact ⟨h.len, fun n hn => by omega, fun n q hq => by rw [hx0] at hq; cases hq⟩
/-- Who hears, of all tasks. -/
theorem hears_ev (Q : Nat → Nat) (nb rb off : Nat) (c : Cx) (Eb Hb nt : Nat) (NB : Nat → Nat) (o : Nat) (evs : List (Nat × Ev)) (l0 : Nat) (hev : evs.length ≤ 100000) :
    Hears (mbE Q nb rb off (earOf (evW Eb Hb nt NB) o evs l0)) c (if o < nt then 23 else 51) (if o < nt then #[.pointer (some ⟨NB o, 0, none⟩), .pointer (some ⟨Hb, 0, none⟩)] else #[]) := by
  by_cases ho : o < nt
  · rw [if_pos ho, if_pos ho]
    refine ⟨fun args w => by kernel_rfl, fun e L w l x h hk hl => ?_⟩
    obtain ⟨h1, h2, l', h3, h4, h5⟩ := h.out
    have hlen : l'.length ≤ 3000000 := by
      rw [List.length_append, List.length_map, List.length_drop] at h4
      omega
    refine (told_any c Eb Hb nt NB L w l' (Sb.hide h3) hk hlen o ho e).mono ?_
    rintro r w' ⟨rfl, L', g1, g2, g3, g4⟩
    have ed : ((l ++ [e]).drop l0).map (fun e => (o, e)) = (l.drop l0).map (fun e => (o, e)) ++ [(o, e)] := by
      rw [List.drop_append_of_le_length h2, List.map_append]
      rfl
    refine ⟨rfl, L', ⟨h1.keep3 g2.1 g4, by simp; omega, l' ++ [(o, e)], g1, ?_, fun hg => ?_⟩, g2, g3, ⟨g4.os, g4.tape, g4.output, g4.size, fun b hb hn => g4.block b hb (fun e => hn (.inr e))⟩⟩
    · rw [ed, ← List.append_assoc, List.length_append, List.length_append]
      exact Nat.add_le_add_right h4 _
    · rw [ed, ← List.append_assoc] at hg ⊢
      rw [h5 (fun p hp => hg p (List.mem_append_left _ hp))]
  · rw [if_neg ho, if_neg ho]
    refine ⟨fun args w => by kernel_rfl, fun e L w l x h hk _ => (nobody e w).mono ?_⟩
    rintro r w' ⟨rfl, hb⟩
    obtain ⟨h1, h2, l', h3, h4, h5⟩ := h.out
    refine ⟨rfl, L, ⟨h1.keep (.refl _ _) hb.size (fun b hs _ => hb.block b hs), by simp; omega, l', h3.keep (.refl _ _) (fun b hs _ => hb.block b hs), ?_, fun hg => ?_⟩, ⟨.refl _ _, fun b => .inl rfl⟩, hk.out.on hb.size, Chg.of_below hb⟩
    · rw [List.length_append, List.length_map, List.length_drop] at h4 ⊢
      rw [List.length_append]
      omega
    · exfalso
      rw [List.drop_append_of_le_length h2, List.map_append] at hg
      exact ho (hg (o, e) (by simp))
theorem sxok_all {s : Sx} (hS : SxOk s deafW) (Eb nt Hb : Nat) (NB : Nat → Nat) : SxOk (s.all nt Hb NB) (evW Eb Hb nt NB) :=
  ⟨fun A => hS.boxes A, fun o evs l0 hev => hears_ev s.Q _ s.rb 0 s.c Eb Hb nt NB o evs l0 hev⟩

set_option maxRecDepth 100000 in
set_option maxHeartbeats 2000000 in
theorem Trace_any (m : Md) (ab au : Option Addr) (cb cu B : Nat) (ps : List Pk) (a : Option Addr) (cap : Nat) (w : World) (hmd : Hid (ModIn B w m ab au)) (hps : Hid (PkIn B w ps a)) (hB : B ≤ w.heap.size) (E : Int) (hE : Hid (E = wrongE m ps.length)) :
    Calls Tryz.prog 7 #[mdV m ab au cb cu, .slice a ps.length cap] w fun e w' => Below w.heap.size w w' ∧ ((E ≠ 0 ∧ e = .returned (.tuple #[.slice none 0 0, .int .i64 E])) ∨
      (E = 0 ∧ ∃ v, e = .returned (.tuple #[v, .int .i64 0]) ∧ w'.ownsRow 0 43 4 v (runW m ps).evs.length (evCells (runW m ps).evs) ∧ (runW m ps).evs.length ≤ 40000)) := by
  have HB0 : Hid (Below w.heap.size w (w.alloc (mdB m ab au cb cu))) := (Below.refl _ w).alloc (Nat.le_refl _) _
  have HM0 : Hid ((w.alloc (mdB m ab au cb cu)).heap[w.heap.size]? = some (mdB m ab au cb cu)) := heap_alloc_new w _
  go_enter Tryz.func7, Tryz.ntmps7
  go_wp2_with fail
  generalize w.alloc (mdB m ab au cb cu) = W0 at *
  refine (wrong_any m ab au cb cu B a ps.length cap _ (Sb.hide (hmd.out.low (HB0.out.mono hB).block)) (by have := HB0.out.size; omega) E hE).mono ?_
  rintro e w1 ⟨rfl, hb1⟩
  have HB1 := Sb.hide (HB0.out.trans (hb1.mono HB0.out.size))
  have HM1 := Sb.hide ((hb1.block _ (lt_of_block HM0.out)).trans HM0.out)
  clear hb1
  by_cases h0 : E = 0
  · have e0 : (E != 0) = false := by simpa using h0
    have HE0 := Sb.hide h0
    have c1 := md_cells HM1.out
    obtain ⟨hright, hn⟩ := wrongE_zero (m := m) (n := ps.length) (by rw [← hE.out]; exact h0)
    obtain ⟨⟨K, hK⟩, hbl⟩ := known_of hright
    have HK := Sb.hide hK
    have HRG := Sb.hide hright
    obtain ⟨cv, cc, hcx⟩ := cx_of cu hmd.out hK.rt.units
    have HCX := Sb.hide hcx
    have hB1 : B ≤ w1.heap.size := by have := HB1.out.size; omega
    have HWF := Sb.hide (wi_first hK hright)
    have hts := (wi_first hK hright).few.2
    clear h0 hK hright hcx
    go_wp2_with fail
    refine (newWorld_any ⟨m, B, au, cu, cv, cc⟩ K HK HRG hbl _ (Sb.hide (HCX.out.low (HB1.out.mono hB).block)) hB1 ab cb (Sb.hide (hmd.out.low (HB1.out.mono hB).block).boxes)).mono ?_
    rintro e w2 ⟨s, L, vt, vx, rfl, hsc, hS, hW, hb2, hL⟩
    have hsm : s.c.m = m := by rw [hsc]
    have hsB : s.c.B = B := by rw [hsc]
    have HSM := Sb.hide hsm
    have HSB := Sb.hide hsB
    have HS := Sb.hide hS
    have HB2 := Sb.hide hb2
    have HL := Sb.hide hL
    have hz2 := hb2.size
    have hok := hW.ok
    have hb3 : Below w2.heap.size w2 (w2.alloc (.cells #[.slice none 0 0] 28)) := (Below.refl _ w2).alloc (Nat.le_refl _) _
    have hbk : (w2.alloc (.cells #[.slice none 0 0] 28)).heap[w2.heap.size]? = some (.cells #[.slice none 0 0] 28 (0, 0)) := heap_alloc_new w2 _
    have hz3 : (w2.alloc (.cells #[.slice none 0 0] 28)).heap.size = w2.heap.size + 1 := by simp
    have hX3 : Ext L (fun b => if b = w2.heap.size then ⟨3, 0, 0, 0⟩ else L b) w2 := fun b hb => by simp; intro e; omega
    have hBz : s.c.B ≤ w2.heap.size := hok.size
    have hW3 := hW.label hb3 hX3 (fun b => by
      by_cases e : b = w2.heap.size
      · right; simp [e]
      · left; simp [e]) ⟨fun b hb' => by (try simp only); rw [if_neg (by omega)]; exact hok.low b hb', fun b hb' => by (try simp only); rw [if_neg (by omega)]; exact hok.new b (by omega), by omega⟩
    obtain ⟨L3, hL3⟩ : ∃ L3 : Lab, L3 = fun b => if b = w2.heap.size then ⟨3, 0, 0, 0⟩ else L b := ⟨_, rfl⟩
    rw [← hL3] at hW3 hX3
    have HX3 := Sb.hide hX3
    have HLE : Hid (L3 w2.heap.size = ⟨3, 0, 0, 0⟩) := by unfold Hid; rw [hL3]; simp
    have HW3 := Sb.hide hW3
    have HB3 := Sb.hide hb3
    have HBK := Sb.hide hbk
    clear hsc hS hW hb2 hL hsm hsB c1 hok hb3 hbk hX3 hW3 hL3
    go_wp2_with fail
    generalize w2.alloc (.cells #[.slice none 0 0] 28) = W3 at *
    refine (hear_any s L3 W3 (firstW m) vt vx HW3 hts w2.heap.size (Sb.hide ⟨HBK.out, HLE.out⟩)).mono ?_
    rintro e w4 ⟨rfl, NB, L4, hH⟩
    have HH := Sb.hide hH
    have HA := Sb.hide (hH.all rfl)
    have HSA := Sb.hide (sxok_all HS.out w2.heap.size (firstW m).ts.length W3.heap.size NB)
    have hkp := hH.kp
    have HB4 : Hid (Below w.heap.size w w4) := ⟨hkp.os.trans (HB3.out.os.trans (HB2.out.os.trans HB1.out.os)), hkp.tape.trans (HB3.out.tape.trans (HB2.out.tape.trans HB1.out.tape)), hkp.output.trans (HB3.out.output.trans (HB2.out.output.trans HB1.out.output)), by have := hkp.size; have := HB1.out.size; omega, fun b hb => by
      have hz1 := HB1.out.size
      refine (hkp.block b (by omega) ?_).trans ((HB3.out.block b (by omega)).trans ((HB2.out.block b (by omega)).trans (HB1.out.block b hb)))
      rw [HX3.out b (by omega)]
      exact HL.out b (by omega)⟩
    have HL4 : Hid (∀ b, b < w.heap.size → (L4 b).cls = 0) := fun b hb => by
      have hz1 := HB1.out.size
      rw [hH.ext b (by omega), HX3.out b (by omega)]
      exact HL.out b (by omega)
    clear hH hkp
    go_wp2_with fail
    refine (follow_any (s.all (firstW m).ts.length W3.heap.size NB) _ HSA K (by show Hid (Known s.c.m K); rw [HSM.out]; exact HK) L4 _ (firstW m) vt vx HA (by show Hid (WI s.c.m K (firstW m)); rw [HSM.out]; exact HWF) ps a cap (by show Hid (PkIn s.c.B w4 ps a); rw [HSB.out]; exact Sb.hide (hps.out.low (HB4.out.mono hB).block)) hn).mono ?_
    rintro e w5 ⟨vd, L5, rfl, hF⟩
    have hWD := hF.wd
    have hWI := hF.wi
    have hsm2 : (s.all (firstW m).ts.length W3.heap.size NB).c.m = m := HSM.out
    rw [List.take_length, hsm2] at hWD hWI
    obtain ⟨l', g1, g2, g3⟩ := hWD.ear
    have el : l' = (runW m ps).evs := g3 (fun p hp => by
      have := (ei_run m ps).lt p hp
      rw [show (runW m ps).ts.length = (firstW m).ts.length from follow_len m ps _] at this
      exact this)
    rw [el] at g1
    obtain ⟨vR, r1, r2, r3⟩ := g1.row
    have x0 : w5.cell? ⟨w2.heap.size, 0, none⟩ = some vR := by simp [World.cell?, r1]
    have hev : (runW m ps).evs.length ≤ 40000 := by have h1 : (runW m ps).evs.length ≤ 2 * (runW m ps).steps := hWI.evs; have h2 : (runW m ps).steps ≤ 20000 := hWI.steps; omega
    have hkp := hF.kp
    have HB5 : Hid (Below w.heap.size w w5) := ⟨hkp.os.trans HB4.out.os, hkp.tape.trans HB4.out.tape, hkp.output.trans HB4.out.output, by have := hkp.size; have := HB4.out.size; omega, fun b hb => (hkp.block b (by have := HB4.out.size; omega) (HL4.out b hb)).trans (HB4.out.block b hb)⟩
    have HR := Sb.hide r2
    have HEV := Sb.hide hev
    obtain ⟨ra, rc, hvr⟩ := own_slice r2
    have HVR := Sb.hide hvr
    obtain ⟨dv, dc, hdv⟩ := own_slice hF.row
    subst hdv
    clear hF hWD hWI g1 g2 g3 el r1 r2 r3 hev hkp hvr
    go_wp2
    refine bodyPost_ret (v := .tuple #[vR, .int .i64 0]) (by simp [results, Tryz.results7, go_sem]) rfl ⟨HB5.out, .inr ⟨HE0.out, vR, rfl, HR.out, HEV.out⟩⟩
  · have e0 : (E != 0) = true := by simpa using h0
    have HNZ := Sb.hide h0
    clear h0
    go_wp2
    refine bodyPost_ret (v := .tuple #[.slice none 0 0, .int .i64 E]) (by simp [results, Tryz.results7, go_sem]) rfl ⟨HB1.out, .inl ⟨HNZ.out, rfl⟩⟩
end Go.Proofs.YtomneemdbechgaaGreat.Vw

/- Events to be read; the walks of Of and SameEvents. -/
namespace Go.Proofs.YtomneemdbechgaaGreat.Vw
open Go.RowKit Vf Vm

/-- Events that can be read. -/
def RE (w : World) (v : Value) (l : List (Nat × Ev)) : Prop := ∃ a c, v = .slice a l.length c ∧ l.length ≤ c ∧ ∀ (i : Nat) p, l[i]? = some p → ∃ b off, a = some ⟨b, off, none⟩ ∧ w.cell? ⟨b, off + i * 4, none⟩ = some (.int .i64 (p.1 : Int)) ∧ w.cell? ⟨b, off + i * 4 + 1, none⟩ = some (.int .i64 p.2.kind) ∧ w.cell? ⟨b, off + i * 4 + 2, none⟩ = some (.int .i64 p.2.box) ∧ w.cell? ⟨b, off + i * 4 + 3, none⟩ = some (.int .i64 p.2.v)
theorem evCells_at : ∀ (l : List (Nat × Ev)) (i : Nat) p, l[i]? = some p → ∀ j, j < 4 → (evCells l)[i * 4 + j]? = (evc p)[j]?
  | q :: l, 0, p, h, j, hj => by
    simp at h
    subst h
    rw [show evCells (q :: l) = evc q ++ evCells l by simp [evCells], List.getElem?_append_left (by simp [evc]; omega)]
    simp
  | q :: l, i + 1, p, h, j, hj => by
    rw [show evCells (q :: l) = evc q ++ evCells l by simp [evCells], List.getElem?_append_right (by simp [evc]; omega), ← evCells_at l i p (by simpa using h) j hj]
    congr 1
    simp [evc]
    omega
theorem own_re {w : World} {B : Nat} {v : Value} {l : List (Nat × Ev)} (h : w.ownsRow B 43 4 v l.length (evCells l)) : RE w v l := by
  rcases h.2 with ⟨rfl, h0⟩ | ⟨g, cap, cur, rfl, _, _, hc, _⟩
  · refine ⟨none, 0, by rw [h0], by omega, fun i p hp => ?_⟩
    have := (List.getElem?_eq_some_iff.1 hp).1
    omega
  · refine ⟨_, cap, rfl, hc, fun i p hp => ⟨g, 0, rfl, ?_⟩⟩
    have c : ∀ j u, j < 4 → (evc p)[j]? = some u → w.cell? ⟨g, 0 + i * 4 + j, none⟩ = some u := fun j u hj hu => by
      have := h.cells (g := g) rfl (i * 4 + j) u (by rw [evCells_at l i p hp j hj]; exact hu)
      rw [add_none] at this
      rw [Nat.add_assoc]
      exact this
    exact ⟨c 0 _ (by omega) rfl, c 1 _ (by omega) rfl, c 2 _ (by omega) rfl, c 3 _ (by omega) rfl⟩
theorem RE.below {w w' : World} {v : Value} {l : List (Nat × Ev)} (h : RE w v l) (hb : Below w.heap.size w w') : RE w' v l := by
  obtain ⟨a, c, e, hc, hr⟩ := h
  refine ⟨a, c, e, hc, fun i p hp => ?_⟩
  obtain ⟨b, off, e2, c0, c1, c2, c3⟩ := hr i p hp
  have hk := cell_eq (hb.block b (World.block_lt_of_cell? w _ c0))
  exact ⟨b, off, e2, (hk _).trans c0, (hk _).trans c1, (hk _).trans c2, (hk _).trans c3⟩
theorem ofE_take {l : List (Nat × Ev)} {k : Nat} {p : Nat × Ev} (h : l[k]? = some p) (task : Int) : ofE (l.take (k + 1)) task = ofE (l.take k) task ++ if (p.1 : Int) = task then [p] else [] := by
  rw [List.take_add_one, h, ofE_app]
  congr 1
  by_cases e : (p.1 : Int) = task
  · simp [ofE, e]
  · simp [ofE, e]
theorem ofE_len (l : List (Nat × Ev)) (task : Int) : (ofE l task).length ≤ l.length := List.length_filter_le _ _

set_option maxRecDepth 100000 in
set_option maxHeartbeats 1000000 in
/-- WHAT Of ANSWERS. -/
theorem of_any (v : Value) (l : List (Nat × Ev)) (task : Int) (w : World) (h : Hid (RE w v l)) (hl : l.length ≤ 100000) :
    Calls Tryz.prog 8 #[v, .int .i64 task] w fun e w' => ∃ v', e = .returned v' ∧ w'.ownsRow w.heap.size 43 4 v' (ofE l task).length (evCells (ofE l task)) ∧ Below w.heap.size w w' := by
  obtain ⟨i0, hi, hz0, hz1, hz2⟩ := info_parts Tryz.info43
  obtain ⟨a, c, rfl, _, hr⟩ := h.out
  have HR := Sb.hide hr
  obtain ⟨N, hN⟩ : ∃ N, N = l.length := ⟨_, rfl⟩
  have HN := Sb.hide hN
  rw [← hN] at hl ⊢
  clear hr h hN
  go_enter Tryz.func8, Tryz.ntmps8
  go_wp2
  go_loopw [5, 10] (fun vo vi wr => ∃ k : Nat, vi = .int .i64 k ∧ k ≤ N ∧ wr.ownsRow w.heap.size 43 4 vo (ofE (l.take k) task).length (evCells (ofE (l.take k) task)) ∧ Below w.heap.size w wr) (fun _ vi _ => N - (intOf vi).toNat)
  case atStart => exact ⟨0, rfl, Nat.zero_le _, ⟨rfl, .inl ⟨rfl, rfl⟩⟩, .refl _ _⟩
  case round =>
    obtain ⟨k, rfl, hk, hrow, hb⟩ := hrel
    have HROW := Sb.hide hrow
    have HB := Sb.hide hb
    have hbz := hb.size
    clear hrow hb
    by_cases hlt : k < N
    · obtain ⟨p, hp⟩ : ∃ p, l[k]? = some p := ⟨_, List.getElem?_eq_getElem (by rw [← HN.out]; exact hlt)⟩
      obtain ⟨b, off, rfl, x0, x1, x2, x3⟩ := HR.out k p hp
      have hbl := World.block_lt_of_cell? w _ x0
      have kk := cell_eq (HB.out.block b hbl)
      have y0 := (kk (off + k * 4)).trans x0
      have y1 := (kk (off + k * 4 + 1)).trans x1
      have y2 := (kk (off + k * 4 + 2)).trans x2
      have y3 := (kk (off + k * 4 + 3)).trans x3
      have HT := Sb.hide (ofE_take hp task)
      have b0 : (0 : Int) ≤ (k : Int) := by omega
      have b1 : (k : Int) < (N : Int) := by omega
      have HB1 : Hid (Below wr.heap.size wr (wr.alloc (evO p.1 p.2))) := (Below.refl _ wr).alloc (Nat.le_refl _) _
      have hbk : (wr.alloc (evO p.1 p.2)).heap[wr.heap.size]? = some (evO p.1 p.2) := heap_alloc_new wr _
      obtain ⟨z0, z1, z2, z3⟩ : ((wr.alloc (evO p.1 p.2)).cell? ⟨wr.heap.size, 0, none⟩ = some (.int .i64 (p.1 : Int))) ∧ ((wr.alloc (evO p.1 p.2)).cell? ⟨wr.heap.size, 1, none⟩ = some (.int .i64 p.2.kind)) ∧ ((wr.alloc (evO p.1 p.2)).cell? ⟨wr.heap.size, 2, none⟩ = some (.int .i64 p.2.box)) ∧ ((wr.alloc (evO p.1 p.2)).cell? ⟨wr.heap.size, 3, none⟩ = some (.int .i64 p.2.v)) := by
        generalize wr.alloc (evO p.1 p.2) = W at hbk ⊢
        simp [World.cell?, hbk]
      have hlen : (ofE (l.take k) task).length ≤ 100000 := by have := ofE_len (l.take k) task; simp at this; omega
      clear hp x0 x1 x2 x3 kk hbk
      go_upto_region 5 with fail
      generalize wr.alloc (evO p.1 p.2) = W1 at *
      have HR1 : Hid (W1.ownsRow w.heap.size 43 4 u5 (ofE (l.take k) task).length (evCells (ofE (l.take k) task))) := own_keep HROW.out (fun b hb => HB1.out.block b (HROW.out.lt b hb).2)
      have HB2 : Hid (Below w.heap.size w W1) := HB.out.trans (HB1.out.mono hbz)
      have hz1' := HB1.out.size
      clear y0 y1 y2 y3
      by_cases he : (p.1 : Int) = task
      · have e1 : ((p.1 : Int) == task) = true := by simpa using he
        have HT2 : Hid (ofE (l.take (k + 1)) task = ofE (l.take k) task ++ [p]) := by unfold Hid; rw [HT.out, if_pos he]
        have HR2 : Hid ((W1.alloc (evO p.1 p.2)).ownsRow w.heap.size 43 4 u5 (ofE (l.take k) task).length (evCells (ofE (l.take k) task))) := World.ownsRow.alloc HR1.out _
        clear he
        go_wp2_with (at_builtin; refine wpList_append_where rfl (.tmp 18) (.tmp 20) 28 rfl w.heap.size 43 i0 _ 4 32 Tryz.underlying28 hi hz0 hz1 hz2 rfl (by decide) u5 (ofE (l.take k) task).length (evCells (ofE (l.take k) task)) rfl HR2.out ⟨W1.heap.size, 0, none⟩ 1 1 (evc p) rfl rfl (ev_news W1 p) (ev_one p) (by decide) (by unfold maxLen; omega) (by omega) (by simp; omega) ?_)
        intro g cap w4 hown hg hR4
        have HREL : Hid (w4.ownsRow w.heap.size 43 4 (.slice (some ⟨g, 0, none⟩) ((ofE (l.take k) task).length + 1) cap) (ofE (l.take (k + 1)) task).length (evCells (ofE (l.take (k + 1)) task)) ∧ Below w.heap.size w w4) := by
          rw [HT2.out, List.length_append, evCells_app]
          exact ⟨hown, (HB2.out.alloc HB2.out.size _).grown hg (by simp; omega) (fun b hb => (HR1.out.lt b hb).1)⟩
        clear hown hg hR4
        go_wp2
        go_roundw
        case rel => exact ⟨k + 1, by go_num, by omega, HREL.out⟩
        case measure => simp [intOf]; omega
      · have e1 : ((p.1 : Int) == task) = false := by simpa using he
        have HT2 : Hid (ofE (l.take (k + 1)) task = ofE (l.take k) task) := by unfold Hid; rw [HT.out, if_neg he, List.append_nil]
        clear he
        go_wp2
        go_roundw
        case rel => exact ⟨k + 1, by go_num, by omega, by rw [HT2.out]; exact HR1.out, HB2.out⟩
        case measure => simp [intOf]; omega
    · have ek : k = l.length := by have := HN.out; omega
      have HF : Hid (wr.ownsRow w.heap.size 43 4 u5 (ofE l task).length (evCells (ofE l task))) := by
        have := HROW.out
        rw [ek, List.take_length] at this
        exact this
      obtain ⟨fa, fc, rfl⟩ := own_slice HF.out
      clear ek
      go_wp2
      go_ret
      exact ⟨_, rfl, HF.out, HB.out⟩

theorem Tryz.infosz64 : (Tryz.prog.info? 2).map (fun i => i.size) = some 1 := by kernel_rfl
theorem ev_i64 (d : Nat) (x y : Int) (w : World) : (Op.equalIn (d + 1) 2 (.int .i64 x) (.int .i64 y)).run Tryz.prog w = .ok (x == y) w := by
  simp [Op.equalIn, run_underlying Tryz.underlying2]
/-- An event, held against itself. -/
theorem eq_ev (a b c d : Int) (w : World) : (Op.equalIn 10000 43 (.agg #[.int .i64 a, .int .i64 b, .int .i64 c, .int .i64 d]) (.agg #[.int .i64 a, .int .i64 b, .int .i64 c, .int .i64 d])).run Tryz.prog w = .ok true w := by
  have hu := run_underlying (P := Tryz.prog) (w := w) Tryz.underlying43
  obtain ⟨j, hj, hj2⟩ := Option.map_eq_some_iff.1 Tryz.infolink
  obtain ⟨j', hj', hj2'⟩ := Option.map_eq_some_iff.1 Tryz.infosz64
  have p0 : ∀ (a b c d : Value) (w : World), (part 3 #[a, b, c, d] 0).run Tryz.prog w = .ok a w := fun _ _ _ _ _ => by simp [part, sizeOf, typeInfo, hj, hj2]
  have p1 : ∀ (a b c d : Value) (w : World), (part 3 #[a, b, c, d] 1).run Tryz.prog w = .ok b w := fun _ _ _ _ _ => by simp [part, sizeOf, typeInfo, hj, hj2]
  have p2 : ∀ (a b c d : Value) (w : World), (part 3 #[a, b, c, d] 2).run Tryz.prog w = .ok c w := fun _ _ _ _ _ => by simp [part, sizeOf, typeInfo, hj, hj2]
  have p3 : ∀ (a b c d : Value) (w : World), (part 2 #[a, b, c, d] 3).run Tryz.prog w = .ok d w := fun _ _ _ _ _ => by simp [part, sizeOf, typeInfo, hj', hj2']
  have hst : Tryz.prog.stoodInHeld 43 = false := by kernel_rfl
  have hp : (Sem.program Sem.pure).run Tryz.prog w = .ok Tryz.prog w := rfl
  have h : ∀ k : Nat, (Op.equalIn (k + 2) 43 (.agg #[.int .i64 a, .int .i64 b, .int .i64 c, .int .i64 d]) (.agg #[.int .i64 a, .int .i64 b, .int .i64 c, .int .i64 d])).run Tryz.prog w = .ok true w := fun k => by
    rw [Op.equalIn]
    simp [hu, program, hp, hst, p0, p1, p2, p3, eq_int, ev_i64]
  exact h 9998

set_option maxHeartbeats 1000000 in
/-- WHAT SameEvents ANSWERS of the same. -/
theorem sameEv_any (v1 v2 : Value) (l : List (Nat × Ev)) (w : World) (h1 : Hid (RE w v1 l)) (h2 : Hid (RE w v2 l)) (hn : l.length ≤ 9223372036854775806) :
    Calls Tryz.prog 9 #[v1, v2] w fun e w' => e = .returned (.bool true) ∧ ∃ d, w' = w.drewN d := by
  obtain ⟨a1, c1, rfl, _, r1⟩ := h1.out
  obtain ⟨a2, c2, rfl, _, r2⟩ := h2.out
  have HR1 := Sb.hide r1
  have HR2 := Sb.hide r2
  clear r1 r2 h1 h2
  have eq0 : ((l.length : Int) != (l.length : Int)) = false := by simp
  go_enter Tryz.func9, Tryz.ntmps9
  go_wp2
  go_loopw [13] (fun i wr => ∃ k d : Nat, k ≤ l.length ∧ i = .int .i64 k ∧ wr = w.drewN d) (fun i _ => l.length - (intOf i).toNat)
  case atStart => exact ⟨0, 0, Nat.zero_le _, rfl, rfl⟩
  case round =>
    obtain ⟨k, d, hk, rfl, rfl⟩ := hrel
    by_cases hlt : k < l.length
    · obtain ⟨p, hp⟩ : ∃ x, l[k]? = some x := ⟨_, List.getElem?_eq_getElem hlt⟩
      obtain ⟨b1, o1, rfl, x0, x1, x2, x3⟩ := HR1.out k p hp
      obtain ⟨b2, o2, rfl, y0, y1, y2, y3⟩ := HR2.out k p hp
      obtain ⟨p0, hp0⟩ : ∃ x : Int, x = (p.1 : Int) := ⟨_, rfl⟩
      rw [← hp0] at x0 y0
      have hq := fun w => eq_ev p0 p.2.kind p.2.box p.2.v w
      have b0 : (0 : Int) ≤ (k : Int) := by omega
      have b1 : (k : Int) < (l.length : Int) := by omega
      clear hp hp0
      go_wp2
      go_quiet (fail)
      go_wp2
      go_roundw
      case rel => exact ⟨k + 1, _, by omega, by go_num, rfl⟩
      case measure => simp [intOf]; omega
    · go_wp2
      go_ret
      exact ⟨rfl, d, rfl⟩
end Go.Proofs.YtomneemdbechgaaGreat.Vw

