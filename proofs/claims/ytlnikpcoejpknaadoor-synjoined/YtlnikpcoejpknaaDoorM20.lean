/- The walks of turned, of exactly, and of ahead. -/
import Derived.Test.YtlnikpcoejpknaaDoorM19
namespace Go.Proofs.YtlnikpcoejpknaaDoor
open Go.RowKit

/-- One kid in a new row. -/
theorem ExQ.one {Q : Nat → Prop} {w : World} {n b : Nat} {kd nn : Int} {s : ByteArray} {y : Sy.Ex} {a : Option Addr} {c : Nat} (hq : ExQ Q w n y a) (hb : Q b) (hs : s.size ≤ 6000) (hw : w.heap[b]? = some (exO y.kind y.n y.name (.slice a y.kids.length c))) : ExQ Q w (n + 1) ⟨kd, nn, s, [y]⟩ (some ⟨b, 0, none⟩) := by
  obtain ⟨⟨x0, x1, x2, x3⟩, _⟩ := ex_cells hw
  refine ⟨hs, by simp, fun i k hk => ?_⟩
  match i, hk with
  | 0, hk =>
    simp at hk
    subst hk
    exact ⟨b, 0, a, c, rfl, hb, x0, x1, x2, x3, hq⟩
  | i + 1, hk => simp at hk

set_option maxRecDepth 100000 in
set_option maxHeartbeats 1000000 in
theorem turned_more (E : Env) (G : Good E) (d : Nat) (hd : d < 200) (hF : Hid (CAhead E d)) : CTurned E (d + 1) := by
  intro kind p r w h hp hr
  have hR := h.out.lt
  obtain ⟨r1, hr1⟩ : ∃ r1, r1 = Rp.ahead E.l E.en d p := ⟨_, rfl⟩
  have HR1 := hide2 hr1
  have HE1 : Hid (r = Rp.andThen r1 fun q y => .ok (q, ⟨kind, 0, ⟨#[]⟩, [y]⟩)) := by rw [hr.out, hr1]; rfl
  have HOP : Hid ((200 : Int) - ((d + 1 : Nat) : Int) + 1 = 200 - (d : Int)) := by unfold Hid; omega
  clear hr1
  go_enter_defers Tryd.func141, Tryd.ntmps141
  go_wp2_with fail
  refine (enter_yes E G p _ _ (h.out.alloc G _) hp (by omega) (by omega)).mono ?_
  rintro e w1 ⟨rfl, hd1, hg1⟩
  rw [HOP.out] at hd1
  have HG1 : Hid (w.grownBy w1 (some E.R)) := grown_tr (grown_alloc (grown_bel (Below.refl _ w)) _) hg1
  have HZ1 : Hid (w1.heap[w.heap.size]? = some ZE) := kept_on hg1 (by omega) (heap_alloc_new w ZE)
  have HD1 := hide2 hd1
  clear hg1 hd1
  go_wp2_with fail
  refine (hF.out p r1 _ HD1 hp HR1).mono ?_
  rintro e w2 ⟨hg2, hf2⟩
  have HG2 : Hid (w.grownBy w2 (some E.R)) := grown_tr HG1.out hg2
  have hZ2 : w2.heap[w.heap.size]? = some ZE := kept_on hg2 (by omega) HZ1.out
  have hw1 : w.heap.size < w1.heap.size := lt_of_block HZ1.out
  cases r1 with
  | error er =>
    obtain ⟨e1, e2⟩ := er
    obtain ⟨rfl, q, o, hd2, ho1, ho2⟩ := hf2
    have HD2 := hide2 hd2
    have HRr : Hid (r = .error (e1, e2)) := HE1.out
    clear hd2 hg2 hZ2
    go_wp2
    refine leaves_cons (f := 108) (args := #[.pointer (some ⟨E.R, 0, none⟩)]) (by simp) (by simp [go_sem]) ?_
    refine (leave_d E G q o _ _ HD2 (by omega) (by omega)).mono ?_
    rintro e u' w3 ⟨rfl, rfl, hd3, hg3⟩
    refine ⟨grown_tr HG2.out hg3, ?_⟩
    rw [HRr.out]
    exact ⟨rfl, q, o - 1, hd3, by omega, by omega⟩
  | ok qx =>
    obtain ⟨q, y⟩ := qx
    obtain ⟨⟨v, rfl, a, c, n, rfl, hq⟩, hd2⟩ := hf2
    have HRr : Hid (r = .ok (q, ⟨kind, 0, ⟨#[]⟩, [y]⟩)) := HE1.out
    have HD2 := hide2 hd2
    have HQ := hide2 hq
    obtain ⟨⟨z0, z1, z2, z3⟩, y0, y1, y2, y3⟩ := ex_cells hZ2
    have hz2 := HG2.out.size
    have hz21 : w1.heap.size ≤ w2.heap.size := hg2.size
    obtain ⟨W, hWd⟩ : ∃ W, W = ((((w2.setCell ⟨w.heap.size, 0, none⟩ (.int .i64 kind)).setCell ⟨w.heap.size, 1, none⟩ (.int .i64 0)).setCell ⟨w.heap.size, 2, none⟩ (.string ⟨#[]⟩)).setCell ⟨w.heap.size, 3, none⟩ (.slice (some ⟨w2.heap.size, 0, none⟩) 1 1)).alloc (exO y.kind y.n y.name (.slice a y.kids.length c)) := ⟨_, rfl⟩
    have HWz : Hid (W.heap.size = w2.heap.size + 1) := by unfold Hid; rw [hWd]; simp
    have HGW : Hid (w.grownBy W (some E.R)) := by unfold Hid; rw [hWd]; exact grown_alloc (grown_four HG2.out (Nat.le_refl _) _ _ _ _) _
    have HDW : Hid (Rdy E W q (200 - (d : Int))) := by
      refine h.out.grown G HGW.out ?_
      rw [hWd]
      exact ((HD2.out.rd.four (by omega) _ _ _ _).on ((Below.refl _ _).alloc (Nat.le_refl _) _))
    have HWb : Hid (W.heap[w.heap.size]? = some (exO kind 0 ⟨#[]⟩ (.slice (some ⟨w2.heap.size, 0, none⟩) 1 1))) := by
      unfold Hid
      rw [hWd, Below.heap_alloc _ _ _ (by simp only [World.setCell_size]; omega)]
      exact four_block hZ2 _ _ _ _
    have HWk : Hid (W.heap[w2.heap.size]? = some (exO y.kind y.n y.name (.slice a y.kids.length c))) := by
      unfold Hid
      rw [hWd]
      have := heap_alloc_new ((((w2.setCell ⟨w.heap.size, 0, none⟩ (.int .i64 kind)).setCell ⟨w.heap.size, 1, none⟩ (.int .i64 0)).setCell ⟨w.heap.size, 2, none⟩ (.string ⟨#[]⟩)).setCell ⟨w.heap.size, 3, none⟩ (.slice (some ⟨w2.heap.size, 0, none⟩) 1 1)) (exO y.kind y.n y.name (.slice a y.kids.length c))
      simpa only [World.setCell_size] using this
    have HWf : Hid (∀ b, w1.heap.size ≤ b → b < w2.heap.size → W.heap[b]? = w2.heap[b]?) := by
      intro b hb1 hb2
      rw [hWd, Below.heap_alloc _ _ _ (by simp only [World.setCell_size]; omega), far_four (by omega)]
    have HWe := hide2 hWd.symm
    have hlt2 : w.heap.size < w2.heap.size := by omega
    clear hd2 hg2 hq hZ2 hWd
    go_wp2
    rw [HWe.out]
    refine leaves_cons (f := 108) (args := #[.pointer (some ⟨E.R, 0, none⟩)]) (by simp) (by simp [go_sem]) ?_
    refine (leave_d E G q _ _ _ HDW (by omega) (by omega)).mono ?_
    rintro e u' w3 ⟨rfl, rfl, hd3, hg3⟩
    have hs3 := hg3.size
    have hWz := HWz.out
    obtain ⟨⟨t0, t1, t2, t3⟩, _⟩ := ex_cells (kept_on hg3 (by omega) HWb.out)
    rw [show (200 : Int) - (d : Int) - 1 = 200 - ((d + 1 : Nat) : Int) by omega] at hd3
    show Leaves _ _ _ _ [] .returning _
    refine ⟨exV ⟨kind, 0, ⟨#[]⟩, [y]⟩ (some ⟨w2.heap.size, 0, none⟩) 1, by simp [results, Tryd.results141, go_sem, t0, t1, t2, t3], grown_tr HGW.out hg3, ?_⟩
    rw [HRr.out]
    refine ⟨⟨_, rfl, _, 1, n + 1, rfl, ExQ.one (HQ.out.keep (fun b hb => ⟨⟨by omega, by omega⟩, ?_⟩)) ⟨by omega, by omega⟩ (by decide) (kept_on hg3 (by omega) HWk.out)⟩, hd3⟩
    rw [hg3.block b (by omega) (by simp; omega), HWf.out b hb.1 hb.2]

end Go.Proofs.YtlnikpcoejpknaaDoor

/- The walk of ahead. -/
namespace Go.Proofs.YtlnikpcoejpknaaDoor
open Go.RowKit


def CPiece (E : Env) (d : Nat) : Prop := ∀ (p : Nat) (r : Res Sy.Ex) (w : World), Hid (Rdy E w p (200 - (d : Int))) → p ≤ E.l.length → Hid (r = Rp.piece E.l E.en d (Rp.prevOf E.l E.en d) p) →
  Calls Tryd.prog 142 #[.pointer (some ⟨E.R, 0, none⟩)] w fun e w' => Ends E (200 - (d : Int)) w r (ExV w) e w'


set_option maxRecDepth 100000 in
set_option maxHeartbeats 1000000 in
theorem ahead_f (E : Env) (G : Good E) (d : Nat) (hT : Hid (CTurned E d)) (hP : Hid (CPiece E d)) : CAhead E d := by
  intro p r w h hp hr
  have hR := h.out.lt
  have hr0 : r = Rp.aheadS E.l E.en d (Rp.prevOf E.l E.en d) p := by rw [hr.out, Rp.ahead_eq]
  have HGa : Hid (w.grownBy (w.alloc ZE) (some E.R)) := grown_alloc (grown_bel (Below.refl _ w)) _
  have HD0 : Hid (Rdy E (w.alloc ZE) p (200 - (d : Int))) := h.out.alloc G _
  cases h1 : tk E.l p ⟨#[45]⟩ with
  | true =>
    have HRt : Hid (r = Rp.turned E.l E.en d (Rp.prevOf E.l E.en d) 4 (p + 1)) := by rw [hr0]; unfold Rp.aheadS; rw [h1]; rfl
    have hp1 : p + 1 ≤ E.l.length := Rp.tk_step h1
    clear hr0
    go_enter Tryd.func139, Tryd.ntmps139
    go_wp2_with fail
    refine (take_f E G p _ ⟨#[45]⟩ true (p + 1) _ HD0 hp h1.symm rfl).mono ?_
    rintro e w1 ⟨rfl, hd1, hg1⟩
    have HG1 : Hid (w.grownBy w1 (some E.R)) := grown_tr HGa.out hg1
    have HZ1 : Hid (w1.heap[w.heap.size]? = some ZE) := kept_on hg1 (by omega) (heap_alloc_new w ZE)
    have HD1 := hide2 hd1
    clear hd1 hg1
    go_wp2_with fail
    refine (hT.out 4 (p + 1) r _ HD1 hp1 HRt).mono ?_
    rintro e w8 ⟨hg8, hf8⟩
    have HG8 : Hid (w.grownBy w8 (some E.R)) := grown_tr HG1.out hg8
    have hZ8 : w8.heap[w.heap.size]? = some ZE := kept_on hg8 (by omega) HZ1.out
    have hwj : w.heap.size < w1.heap.size := lt_of_block HZ1.out
    cases r with
    | error er =>
      obtain ⟨e1, e2⟩ := er
      obtain ⟨rfl, hd8⟩ := hf8
      have HD8 := hide2 hd8
      clear hd8 hg8 hZ8
      go_wp2
      exact ⟨rfl, HG8.out, rfl, HD8.out⟩
    | ok qx =>
      obtain ⟨q, x⟩ := qx
      obtain ⟨⟨v, rfl, a, c, n, rfl, hq⟩, hd8⟩ := hf8
      have HD8 := hide2 hd8
      have HQ := hide2 hq
      obtain ⟨⟨z0, z1, z2, z3⟩, y0, y1, y2, y3⟩ := ex_cells hZ8
      clear hd8 hg8 hq hZ8
      go_wp2
      refine bodyPost_ret (v := exV x a c) (by simp [results, Tryd.results139, go_sem, z0, z1, z2, z3]) rfl ?_
      refine ⟨grown_four HG8.out (Nat.le_refl _) _ _ _ _, ⟨_, rfl, a, c, n, rfl, HQ.out.keep (fun b hb => ⟨⟨by omega, by simp only [World.setCell_size]; omega⟩, far_four (by omega) _ _ _ _⟩)⟩, h.out.grown G (grown_four HG8.out (Nat.le_refl _) _ _ _ _) (HD8.out.rd.four (by omega) _ _ _ _)⟩
  | false =>
    cases h2 : tk E.l p ⟨#[110, 111, 116]⟩ with
    | true =>
      have HRt : Hid (r = Rp.turned E.l E.en d (Rp.prevOf E.l E.en d) 5 (p + 1)) := by rw [hr0]; unfold Rp.aheadS; rw [h1, h2]; rfl
      have hp1 : p + 1 ≤ E.l.length := Rp.tk_step h2
      clear hr0
      go_enter Tryd.func139, Tryd.ntmps139
      go_wp2_with fail
      refine (take_f E G p _ ⟨#[45]⟩ false p _ HD0 hp h1.symm rfl).mono ?_
      rintro e w1 ⟨rfl, hd1, hg1⟩
      have HG1 : Hid (w.grownBy w1 (some E.R)) := grown_tr HGa.out hg1
      have HZ1 : Hid (w1.heap[w.heap.size]? = some ZE) := kept_on hg1 (by omega) (heap_alloc_new w ZE)
      have HD1 := hide2 hd1
      clear hd1 hg1
      go_wp2_with fail
      refine (take_f E G p _ ⟨#[110, 111, 116]⟩ true (p + 1) _ HD1 hp h2.symm rfl).mono ?_
      rintro e w2 ⟨rfl, hd2, hg2⟩
      have HG2 : Hid (w.grownBy w2 (some E.R)) := grown_tr HG1.out hg2
      have HZ2 : Hid (w2.heap[w.heap.size]? = some ZE) := kept_on hg2 (by omega) HZ1.out
      have HD2 := hide2 hd2
      clear hd2 hg2
      go_wp2_with fail
      refine (hT.out 5 (p + 1) r _ HD2 hp1 HRt).mono ?_
      rintro e w8 ⟨hg8, hf8⟩
      have HG8 : Hid (w.grownBy w8 (some E.R)) := grown_tr HG2.out hg8
      have hZ8 : w8.heap[w.heap.size]? = some ZE := kept_on hg8 (by omega) HZ2.out
      have hwj : w.heap.size < w2.heap.size := lt_of_block HZ2.out
      cases r with
      | error er =>
        obtain ⟨e1, e2⟩ := er
        obtain ⟨rfl, hd8⟩ := hf8
        have HD8 := hide2 hd8
        clear hd8 hg8 hZ8
        go_wp2
        exact ⟨rfl, HG8.out, rfl, HD8.out⟩
      | ok qx =>
        obtain ⟨q, x⟩ := qx
        obtain ⟨⟨v, rfl, a, c, n, rfl, hq⟩, hd8⟩ := hf8
        have HD8 := hide2 hd8
        have HQ := hide2 hq
        obtain ⟨⟨z0, z1, z2, z3⟩, y0, y1, y2, y3⟩ := ex_cells hZ8
        clear hd8 hg8 hq hZ8
        go_wp2
        refine bodyPost_ret (v := exV x a c) (by simp [results, Tryd.results139, go_sem, z0, z1, z2, z3]) rfl ?_
        refine ⟨grown_four HG8.out (Nat.le_refl _) _ _ _ _, ⟨_, rfl, a, c, n, rfl, HQ.out.keep (fun b hb => ⟨⟨by omega, by simp only [World.setCell_size]; omega⟩, far_four (by omega) _ _ _ _⟩)⟩, h.out.grown G (grown_four HG8.out (Nat.le_refl _) _ _ _ _) (HD8.out.rd.four (by omega) _ _ _ _)⟩
    | false =>
      have HRt : Hid (r = Rp.piece E.l E.en d (Rp.prevOf E.l E.en d) p) := by rw [hr0]; unfold Rp.aheadS; rw [h1, h2]; rfl
      clear hr0
      go_enter Tryd.func139, Tryd.ntmps139
      go_wp2_with fail
      refine (take_f E G p _ ⟨#[45]⟩ false p _ HD0 hp h1.symm rfl).mono ?_
      rintro e w1 ⟨rfl, hd1, hg1⟩
      have HG1 : Hid (w.grownBy w1 (some E.R)) := grown_tr HGa.out hg1
      have HZ1 : Hid (w1.heap[w.heap.size]? = some ZE) := kept_on hg1 (by omega) (heap_alloc_new w ZE)
      have HD1 := hide2 hd1
      clear hd1 hg1
      go_wp2_with fail
      refine (take_f E G p _ ⟨#[110, 111, 116]⟩ false p _ HD1 hp h2.symm rfl).mono ?_
      rintro e w2 ⟨rfl, hd2, hg2⟩
      have HG2 : Hid (w.grownBy w2 (some E.R)) := grown_tr HG1.out hg2
      have HZ2 : Hid (w2.heap[w.heap.size]? = some ZE) := kept_on hg2 (by omega) HZ1.out
      have HD2 := hide2 hd2
      clear hd2 hg2
      go_wp2_with fail
      refine (hP.out p r _ HD2 hp HRt).mono ?_
      rintro e w8 ⟨hg8, hf8⟩
      have HG8 : Hid (w.grownBy w8 (some E.R)) := grown_tr HG2.out hg8
      have hZ8 : w8.heap[w.heap.size]? = some ZE := kept_on hg8 (by omega) HZ2.out
      have hwj : w.heap.size < w2.heap.size := lt_of_block HZ2.out
      cases r with
      | error er =>
        obtain ⟨e1, e2⟩ := er
        obtain ⟨rfl, hd8⟩ := hf8
        have HD8 := hide2 hd8
        clear hd8 hg8 hZ8
        go_wp2
        exact ⟨rfl, HG8.out, rfl, HD8.out⟩
      | ok qx =>
        obtain ⟨q, x⟩ := qx
        obtain ⟨⟨v, rfl, a, c, n, rfl, hq⟩, hd8⟩ := hf8
        have HD8 := hide2 hd8
        have HQ := hide2 hq
        obtain ⟨⟨z0, z1, z2, z3⟩, y0, y1, y2, y3⟩ := ex_cells hZ8
        clear hd8 hg8 hq hZ8
        go_wp2
        refine bodyPost_ret (v := exV x a c) (by simp [results, Tryd.results139, go_sem, z0, z1, z2, z3]) rfl ?_
        refine ⟨grown_four HG8.out (Nat.le_refl _) _ _ _ _, ⟨_, rfl, a, c, n, rfl, HQ.out.keep (fun b hb => ⟨⟨by omega, by simp only [World.setCell_size]; omega⟩, far_four (by omega) _ _ _ _⟩)⟩, h.out.grown G (grown_four HG8.out (Nat.le_refl _) _ _ _ _) (HD8.out.rd.four (by omega) _ _ _ _)⟩

end Go.Proofs.YtlnikpcoejpknaaDoor

