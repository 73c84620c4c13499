/- The walk of syn.Read, where the text has tokens and a fault is thrown. -/
import Derived.Test.YtlnikpcoejpknaaGreatDoorM33
namespace Go.Proofs.YtlnikpcoejpknaaGreatDoor
open Go.RowKit

set_option maxRecDepth 100000 in
set_option maxHeartbeats 2000000 in
theorem read_fault (s : ByteArray) (w : World) (hs : s.size ≤ maxLen) (hE : (Lx.lexB s).2.1 = 0) (hT : TabV w 0) (er : Int) (at' : Nat) (hr : Rp.program (Lx.lexB s).1 s.size = .error (er, at')) :
    Calls Tryz.prog 5 #[.string s] w fun e w' => e = .returned (.tuple #[.slice none 0 0, .agg #[.int .i64 er, .int .i64 at']]) ∧ Below w.heap.size w w' := by
  have hmf : ∀ (fn : Fn) (first cap : Array Value) (w : World), (Instr.makeFunc fn first cap).run Tryz.prog w = .ok (.func fn first cap) w := fun _ _ _ _ => rfl
  have hne : er ≠ 0 := Rp.program_nz _ _ _ hr
  have HR : Hid ((.error (er, at') : Res (List Sy.Df)) = Rp.program (Lx.lexB s).1 s.size) := hr.symm
  have e9 : (er != 0) = true := by simpa using hne
  obtain ⟨num, hnum⟩ : ∃ num : Nat, num = (Lx.lexB s).2.2 := ⟨_, rfl⟩
  have HT := hide2 (tokens_any s ((w.alloc (outO (.slice none 0 0))).alloc Z2C) hs)
  rw [hE, ← hnum] at HT
  have HNE := hide2 hne
  clear hnum hr hE hne
  go_enter Tryz.func5, Tryz.ntmps5
  go_wp2_with fail
  refine HT.out.mono ?_
  rintro e w1 ⟨v, rfl, hown, hb⟩
  have hsz2 : ((w.alloc (outO (.slice none 0 0))).alloc Z2C).heap.size = w.heap.size + 2 := by simp
  rw [hsz2] at hown hb
  have hz := hb.size
  simp at hz
  have hF : w1.heap[w.heap.size + 1]? = some Z2C := (hb.block _ (by omega)).trans (by have := heap_alloc_new (w.alloc (outO (.slice none 0 0))) Z2C; simpa using this)
  obtain ⟨z0, z1, y0, y1⟩ := two_cell hF
  have h0 := hT.lt
  have HTAB : Hid (TabV ((w1.setCell ⟨w.heap.size + 1, 0, none⟩ (.int .i64 0)).setCell ⟨w.heap.size + 1, 1, none⟩ (.int .i64 num)) 0) := by
    have h1 : TabV w1 0 := hT.keep ((((Below.refl _ w).alloc (Nat.le_refl _) _).alloc (by simp) _).trans (hb.mono (by omega))) h0
    obtain ⟨tt, fr, h1⟩ := h1
    exact ⟨tt, fr, (two_far _ _ _ _ (by omega)).trans h1⟩
  obtain ⟨ta, tc, hv0, _⟩ := own_tks hown (Lx.lexB_ok s).1 (Lx.lexB_ok s).2
  subst hv0
  have HOWN := hide2 hown
  have HB := hide2 hb
  clear hown hb hF HT hsz2 hT
  go_wp2_with fail
  refine (pairsByText_any _ HTAB.out).mono ?_
  rintro e w2 ⟨rfl, hM, hb2⟩
  rw [two_size] at hM hb2
  obtain ⟨ta', tc', hv, hS⟩ := rstate HOWN.out HB.out hM hb2
  simp only [Value.slice.injEq, true_and] at hv
  obtain ⟨rfl, rfl⟩ := hv
  have HS := hide2 hS
  have hsz := hS.size
  have hlen := hS.len
  have hne2 := hS.ne
  clear hS hM hb2 HOWN HB HTAB z0 z1 y0 y1
  go_wp2_with fail
  obtain ⟨W, hW⟩ : ∃ W, W = w2.alloc (.cells #[.slice ta (Lx.lexB s).1.length tc, .int .i64 0, .int .i64 s.size, .map (some w1.heap.size), .int .i64 0] 44) := ⟨_, rfl⟩
  rw [← hW] at HS hlen
  obtain ⟨num2, hflt⟩ := HS.out.flt
  have HFL := hide2 hflt
  have G : Good ⟨w2.heap.size, w2.heap.size, w1.heap.size, ta, tc, (Lx.lexB s).1, s.size⟩ := ⟨Nat.le_refl _, (Lx.lexB_ok s).2, (Lx.lexB_ok s).1, hne2⟩
  have HG := hide2 G
  rw [← hW]
  clear hW hflt G
  have HRDY : Hid (Rdy ⟨w2.heap.size, w2.heap.size, w1.heap.size, ta, tc, (Lx.lexB s).1, s.size⟩ (W.alloc Z2C) 0 0) := HS.out.rdy.alloc HG.out _
  have HNa : Hid ((W.alloc Z2C).heap[w.heap.size]? = some (outO (.slice none 0 0))) := (Below.heap_alloc _ _ _ (by omega)).trans HS.out.out
  have HFa : Hid ((W.alloc Z2C).heap[w.heap.size + 1]? = some (.cells #[.int .i64 0, .int .i64 num2] 25 (0, 0))) := (Below.heap_alloc _ _ _ (by omega)).trans HFL.out
  refine (caught_any 15 #[.pointer (some ⟨w2.heap.size, 0, none⟩), .pointer (some ⟨w.heap.size, 0, none⟩)] er at' (fun w' => (W.alloc Z2C).grownBy w' (some w2.heap.size)) _ (fun h => absurd h HNE.out) ?_ ?_).mono ?_
  · intro w'
    first | rfl | kernel_rfl | simp [go_sem]
  · refine (read1_f ⟨w2.heap.size, w2.heap.size, w1.heap.size, ta, tc, (Lx.lexB s).1, s.size⟩ HG.out w.heap.size (.error (er, at')) _ HRDY HNa (by show w.heap.size < w2.heap.size; omega) HR).mono ?_
    rintro e w' ⟨rfl, hg⟩
    exact ⟨hg, (hg.block W.heap.size (by simp) (by simp; omega)).trans (heap_alloc_new W Z2C), by unfold Thrown; rw [if_neg HNE.out]⟩
  rintro e w3 ⟨rfl, wx, hg, hFx, hW3⟩
  have far : ∀ k, k < W.heap.size → k ≠ w2.heap.size → w3.heap[k]? = (W.alloc Z2C).heap[k]? := fun k hk h2 => by
    rw [hW3, two_far _ _ _ _ (by omega)]
    exact hg.block k (by simp; omega) (by simp; omega)
  have hN3 := (far w.heap.size (by omega) (by omega)).trans HNa.out
  have hF3 := (far (w.heap.size + 1) (by omega) (by omega)).trans HFa.out
  have hgs := hg.size
  simp at hgs
  have hs3 : w3.heap.size = wx.heap.size := by rw [hW3]; exact two_size _ _ _ _
  have HB : Hid (Below w.heap.size w w3) := by
    refine HS.out.below.trans ⟨?_, ?_, ?_, by omega, fun k hk => ?_⟩
    · rw [hW3]; exact hg.os
    · rw [hW3]; exact hg.tape
    · rw [hW3]; exact hg.output
    · rw [far k (by omega) (by omega)]; exact Below.heap_alloc _ _ _ (by omega)
  obtain ⟨c0, f0⟩ := box_cell hN3
  obtain ⟨z0, z1, y0, y1⟩ := two_cell hF3
  have hF5 : (((((w3.setCell ⟨w.heap.size + 1, 0, none⟩ (.int .i64 er)).setCell ⟨w.heap.size + 1, 1, none⟩ (.int .i64 at')).setCell ⟨w.heap.size, 0, none⟩ (.slice none 0 0)).setCell ⟨w.heap.size + 1, 0, none⟩ (.int .i64 er)).setCell ⟨w.heap.size + 1, 1, none⟩ (.int .i64 at')).heap[w.heap.size + 1]? = some (.cells #[.int .i64 er, .int .i64 at'] 25 (0, 0)) := two_set ((Below.heap_setCell _ ⟨w.heap.size, 0, none⟩ _ _ (by show w.heap.size + 1 ≠ w.heap.size; omega)).trans (two_set hF3 er at')) er at'
  obtain ⟨p0, p1, _, _⟩ := two_cell hF5
  have P0 := hide2 p0
  have P1 := hide2 p1
  clear hN3 hF3 hF5 p0 p1 far hg hFx hW3 hs3 hgs hlen hsz hne2
  go_wp2
  go_region
  all_goals
    go_wp2
    refine bodyPost_ret (v := .tuple #[.slice none 0 0, .agg #[.int .i64 er, .int .i64 at']]) (by simp [results, Tryz.results5, go_sem, c0, P0.out, P1.out]) rfl ⟨rfl, ?_⟩
    repeat (first | exact HB.out | exact HB.out.drew | refine Below.setCell ?_ (by first | exact Nat.le_refl _ | exact Nat.le_succ _) _ | refine Below.drew ?_)

end Go.Proofs.YtlnikpcoejpknaaGreatDoor

/- The walk of syn.Read, where the text has tokens and is a program. -/
namespace Go.Proofs.YtlnikpcoejpknaaGreatDoor
open Go.RowKit

/-- What Read answers of a program. -/
def ReadV (w : World) (dl : List Sy.Df) (er : Int) (e : Ending) (w' : World) : Prop :=
  (er = 0 → ∃ a c, e = .returned (.tuple #[.slice a dl.length c, .agg #[.int .i64 0, .int .i64 0]]) ∧ dl.length ≤ 6000 ∧ DfsQ (fun b => w.heap.size ≤ b ∧ b < w'.heap.size) w' dl a) ∧ (er ≠ 0 → e = .returned (.tuple #[.slice none 0 0, .agg #[.int .i64 er, .int .i64 0]]))

set_option maxRecDepth 100000 in
set_option maxHeartbeats 2000000 in
theorem read_good (s : ByteArray) (w : World) (hs : s.size ≤ maxLen) (hE : (Lx.lexB s).2.1 = 0) (hT : TabV w 0) (q : Nat) (dl : List Sy.Df) (hr : Rp.program (Lx.lexB s).1 s.size = .ok (q, dl)) (er : Int) (her : Hid (er = (Sy.wrongL dl).1)) :
    Calls Tryz.prog 5 #[.string s] w fun e w' => ReadV w dl er e w' ∧ Below w.heap.size w w' := by
  have hmf : ∀ (fn : Fn) (first cap : Array Value) (w : World), (Instr.makeFunc fn first cap).run Tryz.prog w = .ok (.func fn first cap) w := fun _ _ _ _ => rfl
  have HR : Hid ((.ok (q, dl) : Res (List Sy.Df)) = Rp.program (Lx.lexB s).1 s.size) := hr.symm
  obtain ⟨num, hnum⟩ : ∃ num : Nat, num = (Lx.lexB s).2.2 := ⟨_, rfl⟩
  have HT := hide2 (tokens_any s ((w.alloc (outO (.slice none 0 0))).alloc Z2C) hs)
  rw [hE, ← hnum] at HT
  clear hnum hr hE
  go_enter Tryz.func5, Tryz.ntmps5
  go_wp2_with fail
  refine HT.out.mono ?_
  rintro e w1 ⟨v, rfl, hown, hb⟩
  have hsz2 : ((w.alloc (outO (.slice none 0 0))).alloc Z2C).heap.size = w.heap.size + 2 := by simp
  rw [hsz2] at hown hb
  have hz := hb.size
  simp at hz
  have hF : w1.heap[w.heap.size + 1]? = some Z2C := (hb.block _ (by omega)).trans (by have := heap_alloc_new (w.alloc (outO (.slice none 0 0))) Z2C; simpa using this)
  obtain ⟨z0, z1, y0, y1⟩ := two_cell hF
  have h0 := hT.lt
  have HTAB : Hid (TabV ((w1.setCell ⟨w.heap.size + 1, 0, none⟩ (.int .i64 0)).setCell ⟨w.heap.size + 1, 1, none⟩ (.int .i64 num)) 0) := by
    have h1 : TabV w1 0 := hT.keep ((((Below.refl _ w).alloc (Nat.le_refl _) _).alloc (by simp) _).trans (hb.mono (by omega))) h0
    obtain ⟨tt, fr, h1⟩ := h1
    exact ⟨tt, fr, (two_far _ _ _ _ (by omega)).trans h1⟩
  obtain ⟨ta, tc, hv0, _⟩ := own_tks hown (Lx.lexB_ok s).1 (Lx.lexB_ok s).2
  subst hv0
  have HOWN := hide2 hown
  have HB := hide2 hb
  clear hown hb hF HT hsz2 hT
  go_wp2_with fail
  refine (pairsByText_any _ HTAB.out).mono ?_
  rintro e w2 ⟨rfl, hM, hb2⟩
  rw [two_size] at hM hb2
  obtain ⟨ta', tc', hv, hS⟩ := rstate HOWN.out HB.out hM hb2
  simp only [Value.slice.injEq, true_and] at hv
  obtain ⟨rfl, rfl⟩ := hv
  have HS := hide2 hS
  have hsz := hS.size
  have hlen := hS.len
  have hne2 := hS.ne
  clear hS hM hb2 HOWN HB HTAB z0 z1 y0 y1
  go_wp2_with fail
  obtain ⟨W, hW⟩ : ∃ W, W = w2.alloc (.cells #[.slice ta (Lx.lexB s).1.length tc, .int .i64 0, .int .i64 s.size, .map (some w1.heap.size), .int .i64 0] 44) := ⟨_, rfl⟩
  rw [← hW] at HS hlen
  obtain ⟨num2, hflt⟩ := HS.out.flt
  have HFL := hide2 hflt
  have G : Good ⟨w2.heap.size, w2.heap.size, w1.heap.size, ta, tc, (Lx.lexB s).1, s.size⟩ := ⟨Nat.le_refl _, (Lx.lexB_ok s).2, (Lx.lexB_ok s).1, hne2⟩
  have HG := hide2 G
  rw [← hW]
  clear hW hflt G
  have HRDY : Hid (Rdy ⟨w2.heap.size, w2.heap.size, w1.heap.size, ta, tc, (Lx.lexB s).1, s.size⟩ (W.alloc Z2C) 0 0) := HS.out.rdy.alloc HG.out _
  have HNa : Hid ((W.alloc Z2C).heap[w.heap.size]? = some (outO (.slice none 0 0))) := (Below.heap_alloc _ _ _ (by omega)).trans HS.out.out
  have HFa : Hid ((W.alloc Z2C).heap[w.heap.size + 1]? = some (.cells #[.int .i64 0, .int .i64 num2] 25 (0, 0))) := (Below.heap_alloc _ _ _ (by omega)).trans HFL.out
  refine (caught_any 15 #[.pointer (some ⟨w2.heap.size, 0, none⟩), .pointer (some ⟨w.heap.size, 0, none⟩)] 0 0 (fun w' => ∃ v u, PgV (W.alloc Z2C) u dl v ∧ (W.alloc Z2C).grownBy u (some w2.heap.size) ∧ w' = u.setCell ⟨w.heap.size, 0, none⟩ v ∧ w'.heap[w.heap.size]? = some (outO v)) _ (fun _ => rfl) ?_ ?_).mono ?_
  · intro w'
    first | rfl | kernel_rfl | simp [go_sem]
  · refine (read1_f ⟨w2.heap.size, w2.heap.size, w1.heap.size, ta, tc, (Lx.lexB s).1, s.size⟩ HG.out w.heap.size (.ok (q, dl)) _ HRDY HNa (by show w.heap.size < w2.heap.size; omega) HR).mono ?_
    rintro e w' ⟨rfl, v, u, hP, hg, rfl, hv⟩
    refine ⟨⟨v, u, hP, hg, rfl, hv⟩, ?_, by unfold Thrown; rw [if_pos rfl]⟩
    rw [Below.heap_setCell _ ⟨w.heap.size, 0, none⟩ _ _ (by show W.heap.size ≠ w.heap.size; omega)]
    exact (hg.block W.heap.size (by simp) (by simp; omega)).trans (heap_alloc_new W Z2C)
  rintro e w3 ⟨rfl, wx, ⟨v, u, hP, hg, hwx, hvx⟩, hFx, hW3⟩
  obtain ⟨a, c, rfl, hl6, hq⟩ := hP
  have hgs := hg.size
  simp at hgs
  have hsx : wx.heap.size = u.heap.size := by rw [hwx]; simp [World.setCell]
  have hs3 : w3.heap.size = u.heap.size := by rw [hW3, two_size, hsx]
  have far : ∀ k, k ≠ W.heap.size → k ≠ w.heap.size → w3.heap[k]? = u.heap[k]? := fun k h1 h2 => by
    rw [hW3, two_far _ _ _ _ h1, hwx]
    exact Below.heap_setCell _ ⟨w.heap.size, 0, none⟩ _ _ h2
  have far2 : ∀ k, k < W.heap.size → k ≠ w2.heap.size → k ≠ w.heap.size → w3.heap[k]? = (W.alloc Z2C).heap[k]? := fun k hk h1 h2 => by
    rw [far k (by omega) h2]
    exact hg.block k (by simp; omega) (by simp; omega)
  have hN3 : w3.heap[w.heap.size]? = some (outO (.slice a dl.length c)) := by rw [hW3, two_far _ _ _ _ (by omega)]; exact hvx
  have hF3 := (far2 (w.heap.size + 1) (by omega) (by omega) (by omega)).trans HFa.out
  have HB : Hid (Below w.heap.size w w3) := by
    refine HS.out.below.trans ⟨?_, ?_, ?_, by omega, fun k hk => ?_⟩
    · rw [hW3, hwx]; exact hg.os
    · rw [hW3, hwx]; exact hg.tape
    · rw [hW3, hwx]; exact hg.output
    · rw [far2 k (by omega) (by omega) (by omega)]; exact Below.heap_alloc _ _ _ (by omega)
  obtain ⟨w4, hw4⟩ : ∃ w4, w4 = (w3.setCell ⟨w.heap.size + 1, 0, none⟩ (.int .i64 0)).setCell ⟨w.heap.size + 1, 1, none⟩ (.int .i64 0) := ⟨_, rfl⟩
  have hs4 : w4.heap.size = w3.heap.size := by rw [hw4]; exact two_size _ _ _ _
  have hq4 : DfsQ (fun b => w.heap.size + 2 ≤ b ∧ b < w4.heap.size) w4 dl a := hq.keep (fun b hb => ⟨⟨by have := hb.1; simp at this; omega, by have := hb.2; omega⟩, by
    have h1 := hb.1
    simp at h1
    rw [hw4, two_far _ _ _ _ (by omega)]
    exact far b (by omega) (by omega)⟩)
  have HQ4 := hide2 hq4
  have hN4 : w4.heap[w.heap.size]? = some (outO (.slice a dl.length c)) := by rw [hw4, two_far _ _ _ _ (by omega)]; exact hN3
  have hF4 : w4.heap[w.heap.size + 1]? = some (.cells #[.int .i64 0, .int .i64 0] 25 (0, 0)) := by rw [hw4]; exact two_set hF3 0 0
  have HB4 : Hid (Below w.heap.size w w4) := by rw [hw4]; exact (HB.out.setCell (p := ⟨w.heap.size + 1, 0, none⟩) (Nat.le_succ _) _).setCell (p := ⟨w.heap.size + 1, 1, none⟩) (Nat.le_succ _) _
  obtain ⟨c0, f0⟩ := box_cell hN3
  obtain ⟨z0, z1, y0, y1⟩ := two_cell hF3
  have HW4 := hide2 hw4
  have HN4 := hide2 hN4
  have HF4 := hide2 hF4
  obtain ⟨d0, g0⟩ := box_cell hN4
  clear hN3 hF3 far far2 hg hFx hW3 hwx hvx hw4 hN4 hF4 hq hq4
  go_wp2_with fail
  rw [← HW4.out]
  clear c0 f0 z0 z1 y0 y1 d0 g0
  refine (wrong_any dl a c w4 (HQ4.out.toIn (fun b hb => hb.2) hl6)).mono ?_
  rintro e w5 ⟨rfl, hb5⟩
  rw [← her.out]
  obtain ⟨nm, hnm⟩ : ∃ nm, nm = (Sy.wrongL dl).2 := ⟨_, rfl⟩
  rw [← hnm]
  have hs5 := hb5.size
  have hN5 : w5.heap[w.heap.size]? = some (outO (.slice a dl.length c)) := (hb5.block _ (lt_of_block HN4.out)).trans HN4.out
  have hF5 : w5.heap[w.heap.size + 1]? = some (.cells #[.int .i64 0, .int .i64 0] 25 (0, 0)) := (hb5.block _ (lt_of_block HF4.out)).trans HF4.out
  have hlN := lt_of_block hN5
  have hlF := lt_of_block hF5
  have HB5 : Hid (Below w.heap.size w w5) := HB4.out.trans (hb5.mono HB4.out.size)
  have hz5 := HB5.out.size
  have HQ5 : Hid (DfsQ (fun b => w.heap.size + 2 ≤ b ∧ b < w5.heap.size) w5 dl a) := HQ4.out.keep (fun b hb => ⟨⟨hb.1, by omega⟩, hb5.block b hb.2⟩)
  obtain ⟨c0, f0⟩ := box_cell hN5
  obtain ⟨z0, z1, y0, y1⟩ := two_cell hF5
  have HB6 : Hid (Below w.heap.size w (w5.alloc (.cells #[.int .i64 er, .int .i64 nm] 25))) := HB5.out.alloc hz5 _
  have HF5 := hide2 hF5
  have HN5 := hide2 hN5
  clear hb5 hN5 hF5 hnm HW4 HN4 HF4 HQ4 HB4 HB HNa HFa HRDY HS HG HFL HR
  by_cases h0 : er = 0
  · have e9 : (er != 0) = false := by simpa using h0
    have H0 := hide2 h0
    clear h0
    obtain ⟨V6, hV6⟩ : ∃ V6, V6 = ((((w5.setCell ⟨w.heap.size, 0, none⟩ (.slice a dl.length c)).setCell ⟨w.heap.size + 1, 0, none⟩ (.int .i64 0)).setCell ⟨w.heap.size + 1, 1, none⟩ (.int .i64 0)).alloc (.cells #[.int .i64 er, .int .i64 nm] 25)) := ⟨_, rfl⟩
    have hsz6 : (((w5.setCell ⟨w.heap.size, 0, none⟩ (.slice a dl.length c)).setCell ⟨w.heap.size + 1, 0, none⟩ (.int .i64 0)).setCell ⟨w.heap.size + 1, 1, none⟩ (.int .i64 0)).heap.size = w5.heap.size := by simp [World.setCell]
    have hVN : V6.heap[w.heap.size]? = some (outO (.slice a dl.length c)) := by
      rw [hV6, Below.heap_alloc _ _ _ (by omega), two_far _ _ _ _ (by omega)]
      simp only [World.setCell, Array.getElem?_modify, if_true, HN5.out, Option.map_some]
      rfl
    have hVF : V6.heap[w.heap.size + 1]? = some (.cells #[.int .i64 0, .int .i64 0] 25 (0, 0)) := by
      rw [hV6, Below.heap_alloc _ _ _ (by omega)]
      exact two_set ((Below.heap_setCell _ ⟨w.heap.size, 0, none⟩ _ _ (by show w.heap.size + 1 ≠ w.heap.size; omega)).trans HF5.out) 0 0
    have hVs : V6.heap.size = w5.heap.size + 1 := by rw [hV6]; simp [World.setCell]
    have HQ6 : Hid (DfsQ (fun b => w.heap.size ≤ b ∧ b < V6.heap.size) V6 dl a) := HQ5.out.keep (fun b hb => ⟨⟨by have := hb.1; omega, by have := hb.2; omega⟩, by
      have h1 := hb.1
      have h2 := hb.2
      rw [hV6, Below.heap_alloc _ _ _ (by omega), two_far _ _ _ _ (by omega)]
      exact Below.heap_setCell _ ⟨w.heap.size, 0, none⟩ _ _ (by show b ≠ w.heap.size; omega)⟩)
    have HBV : Hid (Below w.heap.size w V6) := by
      rw [hV6]
      exact (((HB5.out.setCell (p := ⟨w.heap.size, 0, none⟩) (Nat.le_refl _) _).setCell (p := ⟨w.heap.size + 1, 0, none⟩) (Nat.le_succ _) _).setCell (p := ⟨w.heap.size + 1, 1, none⟩) (Nat.le_succ _) _).alloc (by omega) _
    obtain ⟨p0, _⟩ := box_cell hVN
    obtain ⟨p1, p2, _, _⟩ := two_cell hVF
    have P0 := hide2 p0
    have P1 := hide2 p1
    have P2 := hide2 p2
    have HV6 := hide2 hV6
    clear hVN hVF hVs p0 p1 p2 hV6 hsz6
    go_wp2
    rw [← HV6.out]
    refine bodyPost_ret (v := .tuple #[.slice a dl.length c, .agg #[.int .i64 0, .int .i64 0]]) (by simp [results, Tryz.results5, go_sem, P0.out, P1.out, P2.out]) rfl ?_
    exact ⟨⟨fun _ => ⟨a, c, rfl, hl6, HQ6.out⟩, fun h => absurd (by first | exact H0.out | rfl) h⟩, HBV.out⟩
  · have e9 : (er != 0) = true := by simpa using h0
    have H0 := hide2 h0
    obtain ⟨V6, hV6⟩ : ∃ V6, V6 = ((((w5.setCell ⟨w.heap.size, 0, none⟩ (.slice none 0 0)).setCell ⟨w.heap.size + 1, 0, none⟩ (.int .i64 er)).setCell ⟨w.heap.size + 1, 1, none⟩ (.int .i64 0)).alloc (.cells #[.int .i64 er, .int .i64 nm] 25)) := ⟨_, rfl⟩
    have hsz6 : (((w5.setCell ⟨w.heap.size, 0, none⟩ (.slice none 0 0)).setCell ⟨w.heap.size + 1, 0, none⟩ (.int .i64 er)).setCell ⟨w.heap.size + 1, 1, none⟩ (.int .i64 0)).heap.size = w5.heap.size := by simp [World.setCell]
    have hVN : V6.heap[w.heap.size]? = some (outO (.slice none 0 0)) := by
      rw [hV6, Below.heap_alloc _ _ _ (by omega), two_far _ _ _ _ (by omega)]
      simp only [World.setCell, Array.getElem?_modify, if_true, HN5.out, Option.map_some]
      rfl
    have hVF : V6.heap[w.heap.size + 1]? = some (.cells #[.int .i64 er, .int .i64 0] 25 (0, 0)) := by
      rw [hV6, Below.heap_alloc _ _ _ (by omega)]
      exact two_set ((Below.heap_setCell _ ⟨w.heap.size, 0, none⟩ _ _ (by show w.heap.size + 1 ≠ w.heap.size; omega)).trans HF5.out) er 0
    have HBV : Hid (Below w.heap.size w V6) := by
      rw [hV6]
      exact (((HB5.out.setCell (p := ⟨w.heap.size, 0, none⟩) (Nat.le_refl _) _).setCell (p := ⟨w.heap.size + 1, 0, none⟩) (Nat.le_succ _) _).setCell (p := ⟨w.heap.size + 1, 1, none⟩) (Nat.le_succ _) _).alloc (by omega) _
    obtain ⟨p0, _⟩ := box_cell hVN
    obtain ⟨p1, p2, _, _⟩ := two_cell hVF
    have P0 := hide2 p0
    have P1 := hide2 p1
    have P2 := hide2 p2
    have HV6 := hide2 hV6
    clear h0 hVN hVF p0 p1 p2 hV6 hsz6
    go_wp2
    go_region
    all_goals
      go_wp2
      rw [← HV6.out]
      refine bodyPost_ret (v := .tuple #[.slice none 0 0, .agg #[.int .i64 er, .int .i64 0]]) (by simp [results, Tryz.results5, go_sem, P0.out, P1.out, P2.out]) rfl ⟨⟨fun h => absurd h H0.out, fun _ => rfl⟩, ?_⟩
      first | exact HBV.out | exact HBV.out.drew

end Go.Proofs.YtlnikpcoejpknaaGreatDoor

/- WHAT syn.Read ANSWERS. -/
namespace Go.Proofs.YtlnikpcoejpknaaGreatDoor
open Go.RowKit

theorem dfs_none (Q : Nat → Prop) (w : World) : DfsQ Q w [] none := fun i d hi => by simp at hi

theorem read_any (s : ByteArray) (w : World) (hs : s.size ≤ maxLen) (hT : TabV w 0) :
    Calls Tryz.prog 5 #[.string s] w fun e w' => ∃ a c, e = .returned (.tuple #[.slice a (readL s).1.length c, .agg #[.int .i64 (readL s).2.1, .int .i64 (readL s).2.2]]) ∧ (readL s).1.length ≤ 6000 ∧ DfsQ (fun b => w.heap.size ≤ b ∧ b < w'.heap.size) w' (readL s).1 a ∧ Below w.heap.size w w' := by
  by_cases h0 : (Lx.lexB s).2.1 = 0
  · cases hr : Rp.program (Lx.lexB s).1 s.size with
    | error e =>
      obtain ⟨er, at'⟩ := e
      have hR : readL s = ([], er, (at' : Int)) := by unfold readL; rw [if_neg (by simpa using h0), hr]
      rw [hR]
      refine (read_fault s w hs h0 hT er at' hr).mono ?_
      rintro e w' ⟨rfl, hb⟩
      exact ⟨none, 0, rfl, Nat.zero_le _, dfs_none _ _, hb⟩
    | ok p =>
      obtain ⟨q, dl⟩ := p
      refine (read_good s w hs h0 hT q dl hr _ rfl).mono ?_
      rintro e w' ⟨⟨h1, h2⟩, hb⟩
      by_cases hw : (Sy.wrongL dl).1 = 0
      · have hR : readL s = (dl, 0, 0) := by unfold readL; rw [if_neg (by simpa using h0), hr]; simp [hw]
        rw [hR]
        obtain ⟨a, c, rfl, hl, hq⟩ := h1 hw
        exact ⟨a, c, rfl, hl, hq, hb⟩
      · have hR : readL s = ([], (Sy.wrongL dl).1, 0) := by unfold readL; rw [if_neg (by simpa using h0), hr]; simp [hw]
        rw [hR]
        exact ⟨none, 0, h2 hw, Nat.zero_le _, dfs_none _ _, hb⟩
  · have hR : readL s = ([], ((Lx.lexB s).2.1 : Int), ((Lx.lexB s).2.2 : Int)) := by unfold readL; rw [if_pos h0]
    rw [hR]
    refine (read_lex s w hs h0).mono ?_
    rintro e w' ⟨rfl, hb⟩
    exact ⟨none, 0, rfl, Nat.zero_le _, dfs_none _ _, hb⟩

end Go.Proofs.YtlnikpcoejpknaaGreatDoor

