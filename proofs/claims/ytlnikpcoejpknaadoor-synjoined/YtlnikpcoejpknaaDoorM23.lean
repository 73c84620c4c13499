/- The walk of named. -/
import Derived.Test.YtlnikpcoejpknaaDoorM22
namespace Go.Proofs.YtlnikpcoejpknaaDoor
open Go.RowKit


theorem Rdy.set {E : Env} {w0 w : World} {p p0 : Nat} {op op0 : Int} (h0 : Rdy E w0 p0 op0) (h : Rdy E w p op) (G : Good E) (hg : w0.grownBy w (some E.R)) {a : Addr} (ha : w0.heap.size ≤ a.block) (x : Value) : Rdy E (w.setCell a x) p op :=
  h0.grown G (grown_set' hg ha x) (h.rd.set (by have := h0.lt; omega) x)

def CNamed (E : Env) (d : Nat) : Prop := ∀ (p : Nat) (r : Res Sy.Ex) (w : World), Hid (Rdy E w p (200 - (d : Int))) → p ≤ E.l.length → Hid (r = Rp.named E.l E.en d (Rp.prevOf E.l E.en d) p) →
  Calls Tryd.prog 146 #[.pointer (some ⟨E.R, 0, none⟩)] w fun e w' => Ends E (200 - (d : Int)) w r (ExV w) e w'

theorem ex_set0 {w : World} {N : Nat} {k n : Int} {s : ByteArray} {v : Value} (h : w.heap[N]? = some (exO k n s v)) (k' : Int) : (w.setCell ⟨N, 0, none⟩ (.int .i64 k')).heap[N]? = some (exO k' n s v) := by
  simp only [World.setCell, Array.getElem?_modify, if_true, h, Option.map_some]
  rfl

set_option maxRecDepth 100000 in
set_option maxHeartbeats 1000000 in
theorem named_f (E : Env) (G : Good E) (d : Nat) (hK : Hid (CKids E d)) : CNamed E d := by
  intro p r w h hp hr
  have hR := h.out.lt
  obtain ⟨r1, hr1⟩ : ∃ r1, r1 = Rp.name E.l E.en p := ⟨_, rfl⟩
  have HR1 := hide2 hr1
  have HE0 : Hid (r = Rp.andThen r1 fun q s => if (pk E.l q E.en).text = ⟨#[40]⟩ then Rp.andThen (Rp.kids E.l E.en d (Rp.prevOf E.l E.en d) q) fun q2 ks => .ok (q2, ⟨19, 0, s, ks⟩) else .ok (q, ⟨3, 0, s, []⟩)) := by rw [hr.out, hr1]; rfl
  have HA1 : Hid (∀ q x, r1 = .ok (q, x) → q ≤ E.l.length) := fun q x hx => (Rp.name_adv E.l E.en p q x hp (by rw [← hr1, hx])).2
  clear hr1
  go_enter Tryd.func146, Tryd.ntmps146
  go_wp2_with fail
  refine (name_f E G p _ r1 _ (h.out.alloc G _) hp HR1).mono ?_
  rintro e w1 ⟨hg1, hf1⟩
  have HG1 : Hid (w.grownBy w1 (some E.R)) := grown_tr (grown_alloc (grown_bel (Below.refl _ w)) _) hg1
  have HZ1 : Hid (w1.heap[w.heap.size]? = some ZE) := kept_on hg1 (by omega) (heap_alloc_new w ZE)
  have hw1 : w.heap.size < w1.heap.size := lt_of_block HZ1.out
  clear hg1
  cases r1 with
  | error er =>
    obtain ⟨e1, e2⟩ := er
    obtain ⟨rfl, hd1⟩ := hf1
    have HD1 := hide2 hd1
    have HRr : Hid (r = .error (e1, e2)) := HE0.out
    clear hd1
    go_wp2
    exact ⟨rfl, HG1.out, by rw [HRr.out]; exact ⟨rfl, HD1.out⟩⟩
  | ok qx =>
    obtain ⟨q1, s⟩ := qx
    obtain ⟨⟨v, rfl, rfl, hs⟩, hd1⟩ := hf1
    have HD1 := hide2 hd1
    have hq1 : q1 ≤ E.l.length := HA1.out q1 s rfl
    obtain ⟨t, ht⟩ : ∃ t, t = pk E.l q1 E.en := ⟨_, rfl⟩
    have HT := hide2 ht
    have HE1 : Hid (r = if t.text = ⟨#[40]⟩ then Rp.andThen (Rp.kids E.l E.en d (Rp.prevOf E.l E.en d) q1) fun q2 ks => .ok (q2, ⟨19, 0, s, ks⟩) else .ok (q1, ⟨3, 0, s, []⟩)) := by rw [HE0.out, ht]; rfl
    clear ht hd1
    go_wp2_with fail
    refine (peek_f E G q1 _ t _ (HD1.out.alloc G _) hq1 HT).mono ?_
    rintro e w2 ⟨rfl, hb2⟩
    have HG2 : Hid (w.grownBy w2 (some E.R)) := grown_tr (grown_alloc HG1.out _) (grown_bel hb2)
    have HD2 : Hid (Rdy E w2 q1 (200 - (d : Int))) := (HD1.out.alloc G _).on G hb2
    have hZ2 : w2.heap[w.heap.size]? = some ZE := (hb2.block _ (by simp; omega)).trans ((Below.heap_alloc _ _ _ hw1).trans HZ1.out)
    have hX2 : w2.heap[w1.heap.size]? = some (exO 3 0 s (.slice none 0 0)) := (hb2.block _ (by simp)).trans (heap_alloc_new w1 _)
    have hw2 : w1.heap.size < w2.heap.size := lt_of_block hX2
    clear hb2
    obtain ⟨b, hb⟩ : ∃ b, b = decide (t.text = ⟨#[40]⟩) := ⟨_, rfl⟩
    have e0 := tok_text t.kind t.num t.pos t.text w2
    have el : ByteArray.toList ⟨#[40]⟩ = [40] := by simp
    have e1 : (t.text.toList == [40]) = b := by rw [← el]; exact beq_text hb
    clear el
    cases b with
    | false =>
      have HRr : Hid (r = .ok (q1, ⟨3, 0, s, []⟩)) := by unfold Hid; rw [HE1.out, if_neg (by simpa using hb)]
      obtain ⟨⟨z0, z1, z2, z3⟩, y0, y1, y2, y3⟩ := ex_cells hZ2
      obtain ⟨⟨x0, x1, x2, x3⟩, _⟩ := ex_cells hX2
      clear hb hZ2 hX2
      go_wp2
      refine bodyPost_ret (v := exV ⟨3, 0, s, []⟩ none 0) (by simp [results, Tryd.results146, go_sem, z0, z1, z2, z3]) rfl ?_
      exact ⟨grown_four HG2.out (Nat.le_refl _) _ _ _ _, by rw [HRr.out]; exact ⟨⟨_, rfl, none, 0, 1, rfl, ExQ.leaf _ _ _ _ _ hs _⟩, h.out.grown G (grown_four HG2.out (Nat.le_refl _) _ _ _ _) (HD2.out.rd.four (by omega) _ _ _ _)⟩⟩
    | true =>
      obtain ⟨r3, hr3⟩ : ∃ r3, r3 = Rp.kids E.l E.en d (Rp.prevOf E.l E.en d) q1 := ⟨_, rfl⟩
      have HR3 := hide2 hr3
      have HE2 : Hid (r = Rp.andThen r3 fun q2 ks => .ok (q2, ⟨19, 0, s, ks⟩)) := by unfold Hid; rw [HE1.out, if_pos (by simpa using hb), hr3]
      obtain ⟨⟨x0, x1, x2, x3⟩, f0, f1, f2, f3⟩ := ex_cells hX2
      have HZ2 := hide2 hZ2
      have HX2 := hide2 hX2
      clear hb hr3 hZ2 hX2
      go_wp2_with fail
      refine (hK.out q1 r3 _ (Rdy.set h.out HD2.out G HG2.out (a := ⟨w1.heap.size, 0, none⟩) (by simp; omega) _) hq1 HR3).mono ?_
      rintro e w3 ⟨hg3, hf3⟩
      have HG3 : Hid (w.grownBy w3 (some E.R)) := grown_tr (grown_set' HG2.out (a := ⟨w1.heap.size, 0, none⟩) (by simp; omega) _) hg3
      have hs3 := hg3.size
      simp only [World.setCell_size] at hs3
      have hZ3 : w3.heap[w.heap.size]? = some ZE := kept_on hg3 (by omega) ((Below.heap_setCell _ _ _ _ (by simp; omega)).trans HZ2.out)
      have hX3 : w3.heap[w1.heap.size]? = some (exO 19 0 s (.slice none 0 0)) := kept_on hg3 (by omega) (ex_set0 HX2.out 19)
      clear hg3 x0 x1 x2 x3 f0 f1 f2 f3
      cases r3 with
      | error er =>
        clear hZ3 hX3
        obtain ⟨e1, e2⟩ := er
        obtain ⟨rfl, hd3⟩ := hf3
        have HD3 := hide2 hd3
        have HRr : Hid (r = .error (e1, e2)) := HE2.out
        clear hd3
        go_wp2
        exact ⟨rfl, HG3.out, by rw [HRr.out]; exact ⟨rfl, HD3.out⟩⟩
      | ok qx =>
        obtain ⟨q3, ks⟩ := qx
        obtain ⟨⟨v, rfl, a, c, n, rfl, hq⟩, hd3⟩ := hf3
        have HD3 := hide2 hd3
        have HQ : Hid (ExQ (fun b => w2.heap.size ≤ b ∧ b < w3.heap.size) w3 n ⟨0, 0, ⟨#[]⟩, ks⟩ a) := hq.keep (fun b hb => ⟨⟨by have := hb.1; simp only [World.setCell_size] at this; omega, hb.2⟩, rfl⟩)
        have HRr : Hid (r = .ok (q3, ⟨19, 0, s, ks⟩)) := HE2.out
        obtain ⟨⟨z0, z1, z2, z3⟩, y0, y1, y2, y3⟩ := ex_cells hZ3
        obtain ⟨⟨x0, x1, x2, x3⟩, f0, f1, f2, f3⟩ := ex_cells hX3
        have hne : w.heap.size ≠ w1.heap.size := by omega
        clear hd3 hq hZ3 hX3
        go_wp2
        refine bodyPost_ret (v := exV ⟨19, 0, s, ks⟩ a c) (by simp [results, Tryd.results146, go_sem, z0, z1, z2, z3]) rfl ?_
        have hg4 := grown_set' HG3.out (a := ⟨w1.heap.size, 3, none⟩) (by simp; omega) (.slice a ks.length c)
        refine ⟨grown_four hg4 (Nat.le_refl _) _ _ _ _, ?_⟩
        rw [HRr.out]
        refine ⟨⟨_, rfl, a, c, n, rfl, (HQ.out.head 19 0 s hs).keep (fun b hb => ⟨⟨by omega, by simp only [World.setCell_size]; omega⟩, (far_four (by omega) _ _ _ _).trans (Below.heap_setCell _ _ _ _ (by simp; omega))⟩)⟩, ?_⟩
        exact h.out.grown G (grown_four hg4 (Nat.le_refl _) _ _ _ _) ((HD3.out.rd.set (a := ⟨w1.heap.size, 3, none⟩) (by simp; omega) _).four (by omega) _ _ _ _)

end Go.Proofs.YtlnikpcoejpknaaDoor

/- The walk of piece. -/
namespace Go.Proofs.YtlnikpcoejpknaaDoor
open Go.RowKit

abbrev tkO (t : Lx.Tk) : Obj := .cells #[.int .i64 t.kind, .string t.text, .int .i64 t.num, .int .i64 t.pos] 103 (0, 0)
theorem tk_cells {w : World} {N : Nat} {t : Lx.Tk} (h : w.heap[N]? = some (tkO t)) : w.cell? ⟨N, 0, none⟩ = some (.int .i64 t.kind) ∧ w.cell? ⟨N, 1, none⟩ = some (.string t.text) ∧ w.cell? ⟨N, 2, none⟩ = some (.int .i64 t.num) ∧ w.cell? ⟨N, 3, none⟩ = some (.int .i64 t.pos) := by
  simp [World.cell?, h]






set_option maxRecDepth 100000 in
set_option maxHeartbeats 2000000 in
theorem piece_f (E : Env) (G : Good E) (d : Nat) (hX : Hid (CExpr E d)) (hK : Hid (CKids E d)) (hX1 : Hid (CEx1 E d)) (hX2 : Hid (CEx2 E d)) (hN : Hid (CNamed E d)) : CPiece E d := by
  intro p r w h hp hr
  have hR := h.out.lt
  obtain ⟨t, ht⟩ : ∃ t, t = pk E.l p E.en := ⟨_, rfl⟩
  have HT := hide2 ht
  clear ht
  go_enter Tryd.func142, Tryd.ntmps142
  go_wp2_with fail
  refine (peek_f E G p _ t _ (h.out.alloc G _) hp HT).mono ?_
  rintro e wa ⟨rfl, hba⟩
  have HGa : Hid (w.grownBy (wa.alloc (tkO t)) (some E.R)) := grown_alloc (grown_tr (grown_alloc (grown_bel (Below.refl _ w)) _) (grown_bel hba)) _
  have HDa : Hid (Rdy E (wa.alloc (tkO t)) p (200 - (d : Int))) := ((h.out.alloc G _).on G hba).alloc G _
  have hza : wa.heap[w.heap.size]? = some ZE := (hba.block _ (by simp)).trans (heap_alloc_new w ZE)
  have hwa : w.heap.size < wa.heap.size := lt_of_block hza
  have HZa : Hid ((wa.alloc (tkO t)).heap[w.heap.size]? = some ZE) := (Below.heap_alloc _ _ _ hwa).trans hza
  have HTa : Hid ((wa.alloc (tkO t)).heap[wa.heap.size]? = some (tkO t)) := heap_alloc_new wa _
  clear hba hza
  by_cases hk : t.kind = 2
  · have e0 : ((t.kind : Int) == 2) = true := by simp; omega
    have HRr : Hid (r = .ok (p + 1, ⟨1, t.num, ⟨#[]⟩, []⟩)) := by unfold Hid; rw [hr.out]; unfold Rp.piece; rw [← HT.out, if_pos hk]
    clear hk
    go_wp2_with fail
    refine (skip_f E G p _ _ HDa hp).mono ?_
    rintro e w1 ⟨rfl, hd1, hg1⟩
    have HG1 : Hid (w.grownBy w1 (some E.R)) := grown_tr HGa.out hg1
    have HD1 := hide2 hd1
    obtain ⟨⟨z0, z1, z2, z3⟩, y0, y1, y2, y3⟩ := ex_cells (kept_on hg1 (by omega) HZa.out)
    obtain ⟨t0, t1, t2, t3⟩ := tk_cells (kept_on hg1 (by omega) HTa.out)
    clear hd1 hg1
    go_wp2
    refine bodyPost_ret (v := exV ⟨1, t.num, ⟨#[]⟩, []⟩ none 0) (by simp [results, Tryd.results142, go_sem, z0, z1, z2, z3]) rfl ?_
    refine ⟨grown_four HG1.out (Nat.le_refl _) _ _ _ _, ?_⟩
    rw [HRr.out]
    exact ⟨⟨_, rfl, none, 0, 1, rfl, ExQ.leaf _ _ _ _ _ (by decide) _⟩, h.out.grown G (grown_four HG1.out (Nat.le_refl _) _ _ _ _) (HD1.out.rd.four (by omega) _ _ _ _)⟩
  · have e0 : ((t.kind : Int) == 2) = false := by simp; omega
    have HKn : Hid (¬ (pk E.l p E.en).kind = 2) := by unfold Hid; rw [← HT.out]; exact hk
    clear hk HTa
    cases h1 : tk E.l p ⟨#[40]⟩ with
    | true =>
      have hp1 : p + 1 ≤ E.l.length := Rp.tk_step h1
      go_wp2_with fail
      refine (take_f E G p _ ⟨#[40]⟩ true (p + 1) _ HDa hp h1.symm rfl).mono ?_
      rintro e w1 ⟨rfl, hd1, hg1⟩
      have HG1 : Hid (w.grownBy w1 (some E.R)) := grown_tr HGa.out hg1
      have HZ1 : Hid (w1.heap[w.heap.size]? = some ZE) := kept_on hg1 (by omega) HZa.out
      have HD1 := hide2 hd1
      clear hd1 hg1
      obtain ⟨r9, hr9⟩ : ∃ r9, r9 = Rp.expr E.l E.en d (Rp.prevOf E.l E.en d) (p + 1) := ⟨_, rfl⟩
      have HR9 := hide2 hr9
      have HE9 : Hid (r = Rp.andThen r9 fun q x => Rp.andThen (Rp.want E.l E.en ⟨#[41]⟩ q) fun q2 _ => .ok (q2, x)) := by unfold Hid; rw [hr.out]; unfold Rp.piece; rw [if_neg HKn.out, h1, hr9]; rfl
      have HA9 : Hid (∀ q x, r9 = .ok (q, x) → q ≤ E.l.length) := fun q x hx => (Rp.expr_adv (en := E.en) (d := d) (Rp.prev_adv E.l E.en d) (p + 1) q x hp1 (by rw [← hr9, hx])).2
      clear hr9
      go_wp2_with fail
      refine (hX.out (p + 1) r9 _ HD1 hp1 HR9).mono ?_
      rintro e w8 ⟨hg8, hf8⟩
      have HG8 : Hid (w.grownBy w8 (some E.R)) := grown_tr HG1.out hg8
      have HZ8 : Hid (w8.heap[w.heap.size]? = some ZE) := kept_on hg8 (by omega) HZ1.out
      have hwj : w.heap.size < w1.heap.size := lt_of_block HZ1.out
      have hs8 := hg8.size
      clear hg8
      cases r9 with
      | error er =>
        obtain ⟨e1, e2⟩ := er
        obtain ⟨rfl, hd8⟩ := hf8
        have HD8 := hide2 hd8
        have HRr : Hid (r = .error (e1, e2)) := HE9.out
        clear hd8
        go_wp2
        exact ⟨rfl, HG8.out, by rw [HRr.out]; exact ⟨rfl, HD8.out⟩⟩
      | ok qx =>
        obtain ⟨q, x⟩ := qx
        obtain ⟨⟨v, rfl, a, c, n, rfl, hq⟩, hd8⟩ := hf8
        have HD8 := hide2 hd8
        have HQ := hide2 hq
        have hq8 : q ≤ E.l.length := HA9.out q x rfl
        obtain ⟨r3, hr3⟩ : ∃ r3, r3 = Rp.want E.l E.en ⟨#[41]⟩ q := ⟨_, rfl⟩
        have HR3 := hide2 hr3
        have HE3 : Hid (r = Rp.andThen r3 fun q2 _ => .ok (q2, x)) := by rw [HE9.out, hr3]; rfl
        clear hr3 hd8 hq
        go_wp2_with fail
        refine (want_f E G q _ ⟨#[41]⟩ r3 _ (HD8.out.alloc G _) hq8 HR3).mono ?_
        rintro e w9 ⟨hg9, hf9⟩
        have HG9 : Hid (w.grownBy w9 (some E.R)) := grown_tr (grown_alloc HG8.out _) hg9
        have hZ9 : w9.heap[w.heap.size]? = some ZE := kept_on hg9 (by omega) ((Below.heap_alloc _ _ _ (lt_of_block HZ8.out)).trans HZ8.out)
        have hX9 : w9.heap[w8.heap.size]? = some (exO x.kind x.n x.name (.slice a x.kids.length c)) := kept_on hg9 (by omega) (heap_alloc_new w8 _)
        have HQ9 : Hid (ExQ (fun b => w1.heap.size ≤ b ∧ b < w9.heap.size) w9 n x a) := HQ.out.keep (fun b hb => ⟨⟨hb.1, by have := hg9.size; simp at this; omega⟩, (hg9.block b (by simp; omega) (by simp; omega)).trans (Below.heap_alloc _ _ _ hb.2)⟩)
        clear hg9
        cases r3 with
        | error er =>
          obtain ⟨e1, e2⟩ := er
          obtain ⟨rfl, hd9⟩ := hf9
          have HD9 := hide2 hd9
          have HRr : Hid (r = .error (e1, e2)) := HE3.out
          clear hd9 hZ9 hX9
          go_wp2
          exact ⟨rfl, HG9.out, by rw [HRr.out]; exact ⟨rfl, HD9.out⟩⟩
        | ok qx =>
          obtain ⟨q3, u3⟩ := qx
          obtain ⟨⟨v, rfl, rfl⟩, hd9⟩ := hf9
          have HD9 := hide2 hd9
          have HRr : Hid (r = .ok (q3, x)) := HE3.out
          obtain ⟨⟨z0, z1, z2, z3⟩, y0, y1, y2, y3⟩ := ex_cells hZ9
          obtain ⟨⟨x0, x1, x2, x3⟩, _⟩ := ex_cells hX9
          clear hd9 hZ9 hX9
          go_wp2
          refine bodyPost_ret (v := exV x a c) (by simp [results, Tryd.results142, go_sem, z0, z1, z2, z3]) rfl ?_
          refine ⟨grown_four HG9.out (Nat.le_refl _) _ _ _ _, ?_⟩
          rw [HRr.out]
          exact ⟨⟨_, rfl, a, c, n, rfl, HQ9.out.keep (fun b hb => ⟨⟨by omega, by simp only [World.setCell_size]; omega⟩, far_four (by omega) _ _ _ _⟩)⟩, h.out.grown G (grown_four HG9.out (Nat.le_refl _) _ _ _ _) (HD9.out.rd.four (by omega) _ _ _ _)⟩
    | false =>
      go_wp2_with fail
      refine (take_f E G p _ ⟨#[40]⟩ false p _ HDa hp h1.symm rfl).mono ?_
      rintro e w1 ⟨rfl, hd1, hg1⟩
      have HG1 : Hid (w.grownBy w1 (some E.R)) := grown_tr HGa.out hg1
      have HZ1 : Hid (w1.heap[w.heap.size]? = some ZE) := kept_on hg1 (by omega) HZa.out
      have HD1 := hide2 hd1
      clear hd1 hg1
      cases h2 : tk E.l p ⟨#[116, 114, 117, 101]⟩ with
      | true =>
        have hp1 : p + 1 ≤ E.l.length := Rp.tk_step h2
        go_wp2_with fail
        refine (take_f E G p _ ⟨#[116, 114, 117, 101]⟩ true (p + 1) _ HD1 hp h2.symm rfl).mono ?_
        rintro e w2 ⟨rfl, hd2, hg2⟩
        have HG2 : Hid (w.grownBy w2 (some E.R)) := grown_tr HG1.out hg2
        have HZ2 : Hid (w2.heap[w.heap.size]? = some ZE) := kept_on hg2 (by omega) HZ1.out
        have HD2 := hide2 hd2
        clear hd2 hg2
        have HRr : Hid (r = .ok (p + 1, ⟨2, 1, ⟨#[]⟩, []⟩)) := by unfold Hid; rw [hr.out]; unfold Rp.piece; rw [if_neg HKn.out, h1, h2]; rfl
        obtain ⟨⟨z0, z1, z2, z3⟩, y0, y1, y2, y3⟩ := ex_cells HZ2.out
        go_wp2
        refine bodyPost_ret (v := exV ⟨2, 1, ⟨#[]⟩, []⟩ none 0) (by simp [results, Tryd.results142, go_sem, z0, z1, z2, z3]) rfl ?_
        refine ⟨grown_four HG2.out (Nat.le_refl _) _ _ _ _, ?_⟩
        rw [HRr.out]
        exact ⟨⟨_, rfl, none, 0, 1, rfl, ExQ.leaf _ _ _ _ _ (by decide) _⟩, h.out.grown G (grown_four HG2.out (Nat.le_refl _) _ _ _ _) (HD2.out.rd.four (by omega) _ _ _ _)⟩
      | false =>
        go_wp2_with fail
        refine (take_f E G p _ ⟨#[116, 114, 117, 101]⟩ false p _ HD1 hp h2.symm rfl).mono ?_
        rintro e w2 ⟨rfl, hd2, hg2⟩
        have HG2 : Hid (w.grownBy w2 (some E.R)) := grown_tr HG1.out hg2
        have HZ2 : Hid (w2.heap[w.heap.size]? = some ZE) := kept_on hg2 (by omega) HZ1.out
        have HD2 := hide2 hd2
        clear hd2 hg2
        cases h3 : tk E.l p ⟨#[102, 97, 108, 115, 101]⟩ with
        | true =>
          have hp1 : p + 1 ≤ E.l.length := Rp.tk_step h3
          go_wp2_with fail
          refine (take_f E G p _ ⟨#[102, 97, 108, 115, 101]⟩ true (p + 1) _ HD2 hp h3.symm rfl).mono ?_
          rintro e w3 ⟨rfl, hd3, hg3⟩
          have HG3 : Hid (w.grownBy w3 (some E.R)) := grown_tr HG2.out hg3
          have HZ3 : Hid (w3.heap[w.heap.size]? = some ZE) := kept_on hg3 (by omega) HZ2.out
          have HD3 := hide2 hd3
          clear hd3 hg3
          have HRr : Hid (r = .ok (p + 1, ⟨2, 0, ⟨#[]⟩, []⟩)) := by unfold Hid; rw [hr.out]; unfold Rp.piece; rw [if_neg HKn.out, h1, h2, h3]; rfl
          obtain ⟨⟨z0, z1, z2, z3⟩, y0, y1, y2, y3⟩ := ex_cells HZ3.out
          go_wp2
          refine bodyPost_ret (v := exV ⟨2, 0, ⟨#[]⟩, []⟩ none 0) (by simp [results, Tryd.results142, go_sem, z0, z1, z2, z3]) rfl ?_
          refine ⟨grown_four HG3.out (Nat.le_refl _) _ _ _ _, ?_⟩
          rw [HRr.out]
          exact ⟨⟨_, rfl, none, 0, 1, rfl, ExQ.leaf _ _ _ _ _ (by decide) _⟩, h.out.grown G (grown_four HG3.out (Nat.le_refl _) _ _ _ _) (HD3.out.rd.four (by omega) _ _ _ _)⟩
        | false =>
          go_wp2_with fail
          refine (take_f E G p _ ⟨#[102, 97, 108, 115, 101]⟩ false p _ HD2 hp h3.symm rfl).mono ?_
          rintro e w3 ⟨rfl, hd3, hg3⟩
          have HG3 : Hid (w.grownBy w3 (some E.R)) := grown_tr HG2.out hg3
          have HZ3 : Hid (w3.heap[w.heap.size]? = some ZE) := kept_on hg3 (by omega) HZ2.out
          have HD3 := hide2 hd3
          clear hd3 hg3
          cases h4 : tk E.l p ⟨#[115, 116, 97, 114, 116]⟩ with
          | true =>
            have hp1 : p + 1 ≤ E.l.length := Rp.tk_step h4
            go_wp2_with fail
            refine (take_f E G p _ ⟨#[115, 116, 97, 114, 116]⟩ true (p + 1) _ HD3 hp h4.symm rfl).mono ?_
            rintro e w4 ⟨rfl, hd4, hg4⟩
            have HG4 : Hid (w.grownBy w4 (some E.R)) := grown_tr HG3.out hg4
            have HZ4 : Hid (w4.heap[w.heap.size]? = some ZE) := kept_on hg4 (by omega) HZ3.out
            have HD4 := hide2 hd4
            clear hd4 hg4
            obtain ⟨r9, hr9⟩ : ∃ r9, r9 = Rp.name E.l E.en (p + 1) := ⟨_, rfl⟩
            have HR9 := hide2 hr9
            have HE9 : Hid (r = Rp.andThen r9 fun q s => Rp.andThen (Rp.kids E.l E.en d (Rp.prevOf E.l E.en d) q) fun q2 ks => .ok (q2, ⟨22, 0, s, ks⟩)) := by unfold Hid; rw [hr.out]; unfold Rp.piece; rw [if_neg HKn.out, h1, h2, h3, h4, hr9]; rfl
            have HA9 : Hid (∀ q x, r9 = .ok (q, x) → q ≤ E.l.length) := fun q x hx => (Rp.name_adv E.l E.en (p + 1) q x hp1 (by rw [← hr9, hx])).2
            clear hr9
            go_wp2_with fail
            refine (name_f E G (p + 1) _ r9 _ HD4 hp1 HR9).mono ?_
            rintro e w8 ⟨hg8, hf8⟩
            have HG8 : Hid (w.grownBy w8 (some E.R)) := grown_tr HG4.out hg8
            have HZ8 : Hid (w8.heap[w.heap.size]? = some ZE) := kept_on hg8 (by omega) HZ4.out
            have hw8 : w.heap.size < w8.heap.size := lt_of_block HZ8.out
            clear hg8
            cases r9 with
            | error er =>
              obtain ⟨e1, e2⟩ := er
              obtain ⟨rfl, hd8⟩ := hf8
              have HD8 := hide2 hd8
              have HRr : Hid (r = .error (e1, e2)) := HE9.out
              clear hd8
              go_wp2
              exact ⟨rfl, HG8.out, by rw [HRr.out]; exact ⟨rfl, HD8.out⟩⟩
            | ok qx =>
              obtain ⟨q, s⟩ := qx
              obtain ⟨⟨v, rfl, rfl, hs⟩, hd8⟩ := hf8
              have HD8 := hide2 hd8
              have hq8 : q ≤ E.l.length := HA9.out q s rfl
              obtain ⟨r3, hr3⟩ : ∃ r3, r3 = Rp.kids E.l E.en d (Rp.prevOf E.l E.en d) q := ⟨_, rfl⟩
              have HR3 := hide2 hr3
              have HE3 : Hid (r = Rp.andThen r3 fun q2 ks => .ok (q2, ⟨22, 0, s, ks⟩)) := by rw [HE9.out, hr3]; rfl
              clear hr3 hd8
              go_wp2_with fail
              refine (hK.out q r3 _ (HD8.out.alloc G _) hq8 HR3).mono ?_
              rintro e w9 ⟨hg9, hf9⟩
              have HG9 : Hid (w.grownBy w9 (some E.R)) := grown_tr (grown_alloc HG8.out _) hg9
              have hs9 := hg9.size
              simp at hs9
              have hZ9 : w9.heap[w.heap.size]? = some ZE := kept_on hg9 (by omega) ((Below.heap_alloc _ _ _ hw8).trans HZ8.out)
              have hX9 : w9.heap[w8.heap.size]? = some (exO 22 0 s (.slice none 0 0)) := kept_on hg9 (by omega) (heap_alloc_new w8 _)
              clear hg9
              cases r3 with
              | error er =>
                obtain ⟨e1, e2⟩ := er
                obtain ⟨rfl, hd9⟩ := hf9
                have HD9 := hide2 hd9
                have HRr : Hid (r = .error (e1, e2)) := HE3.out
                clear hd9 hZ9 hX9
                go_wp2
                exact ⟨rfl, HG9.out, by rw [HRr.out]; exact ⟨rfl, HD9.out⟩⟩
              | ok qx =>
                obtain ⟨q3, ks⟩ := qx
                obtain ⟨⟨v, rfl, a, c, n, rfl, hq⟩, hd9⟩ := hf9
                have HD9 := hide2 hd9
                have HQ : Hid (ExQ (fun b => w8.heap.size < b ∧ b < w9.heap.size) w9 n ⟨0, 0, ⟨#[]⟩, ks⟩ a) := hq.keep (fun b hb => ⟨⟨by have := hb.1; simp at this; omega, hb.2⟩, rfl⟩)
                have HRr : Hid (r = .ok (q3, ⟨22, 0, s, ks⟩)) := HE3.out
                obtain ⟨⟨z0, z1, z2, z3⟩, y0, y1, y2, y3⟩ := ex_cells hZ9
                obtain ⟨⟨x0, x1, x2, x3⟩, f0, f1, f2, f3⟩ := ex_cells hX9
                have hne : w.heap.size ≠ w8.heap.size := by omega
                clear hd9 hq hZ9 hX9
                go_wp2
                refine bodyPost_ret (v := exV ⟨22, 0, s, ks⟩ a c) (by simp [results, Tryd.results142, go_sem, z0, z1, z2, z3]) rfl ?_
                have hg4 := grown_set' HG9.out (a := ⟨w8.heap.size, 3, none⟩) (by simp; omega) (.slice a ks.length c)
                refine ⟨grown_four hg4 (Nat.le_refl _) _ _ _ _, ?_⟩
                rw [HRr.out]
                refine ⟨⟨_, rfl, a, c, n, rfl, (HQ.out.head 22 0 s hs).keep (fun b hb => ⟨⟨by omega, by simp only [World.setCell_size]; omega⟩, (far_four (by omega) _ _ _ _).trans (Below.heap_setCell _ _ _ _ (by simp; omega))⟩)⟩, ?_⟩
                exact h.out.grown G (grown_four hg4 (Nat.le_refl _) _ _ _ _) ((HD9.out.rd.set (a := ⟨w8.heap.size, 3, none⟩) (by simp; omega) _).four (by omega) _ _ _ _)
          | false =>
            go_wp2_with fail
            refine (take_f E G p _ ⟨#[115, 116, 97, 114, 116]⟩ false p _ HD3 hp h4.symm rfl).mono ?_
            rintro e w4 ⟨rfl, hd4, hg4⟩
            have HG4 : Hid (w.grownBy w4 (some E.R)) := grown_tr HG3.out hg4
            have HZ4 : Hid (w4.heap[w.heap.size]? = some ZE) := kept_on hg4 (by omega) HZ3.out
            have HD4 := hide2 hd4
            clear hd4 hg4
            cases h5 : tk E.l p ⟨#[114, 101, 99, 118]⟩ with
            | true =>
              have hp1 : p + 1 ≤ E.l.length := Rp.tk_step h5
              go_wp2_with fail
              refine (take_f E G p _ ⟨#[114, 101, 99, 118]⟩ true (p + 1) _ HD4 hp h5.symm rfl).mono ?_
              rintro e w5 ⟨rfl, hd5, hg5⟩
              have HG5 : Hid (w.grownBy w5 (some E.R)) := grown_tr HG4.out hg5
              have HZ5 : Hid (w5.heap[w.heap.size]? = some ZE) := kept_on hg5 (by omega) HZ4.out
              have HD5 := hide2 hd5
              clear hd5 hg5
              have HRt : Hid (r = Rp.receiving E.l E.en (p + 1)) := by unfold Hid; rw [hr.out]; unfold Rp.piece; rw [if_neg HKn.out, h1, h2, h3, h4, h5]; rfl
              go_wp2_with fail
              refine (receiving_f E G (p + 1) _ r _ HD5 hp1 HRt).mono ?_
              rintro e w8 ⟨hg8, hf8⟩
              have HG8 : Hid (w.grownBy w8 (some E.R)) := grown_tr HG5.out hg8
              have hZ8 : w8.heap[w.heap.size]? = some ZE := kept_on hg8 (by omega) HZ5.out
              have hwj : w.heap.size < w5.heap.size := lt_of_block HZ5.out
              cases r with
              | error er =>
                obtain ⟨e1, e2⟩ := er
                obtain ⟨rfl, hd8⟩ := hf8
                have HD8 := hide2 hd8
                clear hd8 hg8 hZ8
                go_wp2
                exact ⟨rfl, HG8.out, rfl, HD8.out⟩
              | ok qx =>
                obtain ⟨q, x⟩ := qx
                obtain ⟨⟨v, rfl, a, c, n, rfl, hq⟩, hd8⟩ := hf8
                have HD8 := hide2 hd8
                have HQ := hide2 hq
                obtain ⟨⟨z0, z1, z2, z3⟩, y0, y1, y2, y3⟩ := ex_cells hZ8
                clear hd8 hg8 hq hZ8
                go_wp2
                refine bodyPost_ret (v := exV x a c) (by simp [results, Tryd.results142, go_sem, z0, z1, z2, z3]) rfl ?_
                refine ⟨grown_four HG8.out (Nat.le_refl _) _ _ _ _, ⟨_, rfl, a, c, n, rfl, HQ.out.keep (fun b hb => ⟨⟨by omega, by simp only [World.setCell_size]; omega⟩, far_four (by omega) _ _ _ _⟩)⟩, h.out.grown G (grown_four HG8.out (Nat.le_refl _) _ _ _ _) (HD8.out.rd.four (by omega) _ _ _ _)⟩
            | false =>
              go_wp2_with fail
              refine (take_f E G p _ ⟨#[114, 101, 99, 118]⟩ false p _ HD4 hp h5.symm rfl).mono ?_
              rintro e w5 ⟨rfl, hd5, hg5⟩
              have HG5 : Hid (w.grownBy w5 (some E.R)) := grown_tr HG4.out hg5
              have HZ5 : Hid (w5.heap[w.heap.size]? = some ZE) := kept_on hg5 (by omega) HZ4.out
              have HD5 := hide2 hd5
              clear hd5 hg5
              cases h6 : tk E.l p ⟨#[121, 105, 101, 108, 100]⟩ with
              | true =>
                have hp1 : p + 1 ≤ E.l.length := Rp.tk_step h6
                go_wp2_with fail
                refine (take_f E G p _ ⟨#[121, 105, 101, 108, 100]⟩ true (p + 1) _ HD5 hp h6.symm rfl).mono ?_
                rintro e w6 ⟨rfl, hd6, hg6⟩
                have HG6 : Hid (w.grownBy w6 (some E.R)) := grown_tr HG5.out hg6
                have HZ6 : Hid (w6.heap[w.heap.size]? = some ZE) := kept_on hg6 (by omega) HZ5.out
                have HD6 := hide2 hd6
                clear hd6 hg6
                obtain ⟨r9, hr9⟩ : ∃ r9, r9 = Rp.exactly1 E.l E.en d (Rp.prevOf E.l E.en d) (p + 1) := ⟨_, rfl⟩
                have HR9 := hide2 hr9
                have HE9 : Hid (r = Rp.andThen r9 fun q ks => .ok (q, ⟨21, 0, ⟨#[]⟩, ks⟩)) := by unfold Hid; rw [hr.out]; unfold Rp.piece; rw [if_neg HKn.out, h1, h2, h3, h4, h5, h6, hr9]; rfl
                clear hr9
                go_wp2_with fail
                refine (hX1.out (p + 1) r9 _ HD6 hp1 HR9).mono ?_
                rintro e w8 ⟨hg8, hf8⟩
                have HG8 : Hid (w.grownBy w8 (some E.R)) := grown_tr HG6.out hg8
                have hZ8 : w8.heap[w.heap.size]? = some ZE := kept_on hg8 (by omega) HZ6.out
                have hwj : w.heap.size < w6.heap.size := lt_of_block HZ6.out
                cases r9 with
                | error er =>
                  clear hg8 hZ8
                  obtain ⟨e1, e2⟩ := er
                  obtain ⟨rfl, hd8⟩ := hf8
                  have HD8 := hide2 hd8
                  have HRr : Hid (r = .error (e1, e2)) := HE9.out
                  clear hd8
                  go_wp2
                  exact ⟨rfl, HG8.out, by rw [HRr.out]; exact ⟨rfl, HD8.out⟩⟩
                | ok qx =>
                  obtain ⟨q, ks⟩ := qx
                  obtain ⟨⟨v, rfl, a, c, n, rfl, hq⟩, hd8⟩ := hf8
                  have HD8 := hide2 hd8
                  have HQ := hide2 hq
                  have HRr : Hid (r = .ok (q, ⟨21, 0, ⟨#[]⟩, ks⟩)) := HE9.out
                  obtain ⟨⟨z0, z1, z2, z3⟩, y0, y1, y2, y3⟩ := ex_cells hZ8
                  clear hd8 hg8 hq hZ8
                  go_wp2
                  refine bodyPost_ret (v := exV ⟨21, 0, ⟨#[]⟩, ks⟩ a c) (by simp [results, Tryd.results142, go_sem, z0, z1, z2, z3]) rfl ?_
                  refine ⟨grown_four HG8.out (Nat.le_refl _) _ _ _ _, ?_⟩
                  rw [HRr.out]
                  exact ⟨⟨_, rfl, a, c, n, rfl, (HQ.out.head 21 0 ⟨#[]⟩ (by decide)).keep (fun b hb => ⟨⟨by omega, by simp only [World.setCell_size]; omega⟩, far_four (by omega) _ _ _ _⟩)⟩, h.out.grown G (grown_four HG8.out (Nat.le_refl _) _ _ _ _) (HD8.out.rd.four (by omega) _ _ _ _)⟩
              | false =>
                go_wp2_with fail
                refine (take_f E G p _ ⟨#[121, 105, 101, 108, 100]⟩ false p _ HD5 hp h6.symm rfl).mono ?_
                rintro e w6 ⟨rfl, hd6, hg6⟩
                have HG6 : Hid (w.grownBy w6 (some E.R)) := grown_tr HG5.out hg6
                have HZ6 : Hid (w6.heap[w.heap.size]? = some ZE) := kept_on hg6 (by omega) HZ5.out
                have HD6 := hide2 hd6
                clear hd6 hg6
                cases h7 : tk E.l p ⟨#[97, 108, 105, 118, 101]⟩ with
                | true =>
                  have hp1 : p + 1 ≤ E.l.length := Rp.tk_step h7
                  go_wp2_with fail
                  refine (take_f E G p _ ⟨#[97, 108, 105, 118, 101]⟩ true (p + 1) _ HD6 hp h7.symm rfl).mono ?_
                  rintro e w7 ⟨rfl, hd7, hg7⟩
                  have HG7 : Hid (w.grownBy w7 (some E.R)) := grown_tr HG6.out hg7
                  have HZ7 : Hid (w7.heap[w.heap.size]? = some ZE) := kept_on hg7 (by omega) HZ6.out
                  have HD7 := hide2 hd7
                  clear hd7 hg7
                  obtain ⟨r9, hr9⟩ : ∃ r9, r9 = Rp.exactly1 E.l E.en d (Rp.prevOf E.l E.en d) (p + 1) := ⟨_, rfl⟩
                  have HR9 := hide2 hr9
                  have HE9 : Hid (r = Rp.andThen r9 fun q ks => .ok (q, ⟨24, 0, ⟨#[]⟩, ks⟩)) := by unfold Hid; rw [hr.out]; unfold Rp.piece; rw [if_neg HKn.out, h1, h2, h3, h4, h5, h6, h7, hr9]; rfl
                  clear hr9
                  go_wp2_with fail
                  refine (hX1.out (p + 1) r9 _ HD7 hp1 HR9).mono ?_
                  rintro e w8 ⟨hg8, hf8⟩
                  have HG8 : Hid (w.grownBy w8 (some E.R)) := grown_tr HG7.out hg8
                  have hZ8 : w8.heap[w.heap.size]? = some ZE := kept_on hg8 (by omega) HZ7.out
                  have hwj : w.heap.size < w7.heap.size := lt_of_block HZ7.out
                  cases r9 with
                  | error er =>
                    clear hg8 hZ8
                    obtain ⟨e1, e2⟩ := er
                    obtain ⟨rfl, hd8⟩ := hf8
                    have HD8 := hide2 hd8
                    have HRr : Hid (r = .error (e1, e2)) := HE9.out
                    clear hd8
                    go_wp2
                    exact ⟨rfl, HG8.out, by rw [HRr.out]; exact ⟨rfl, HD8.out⟩⟩
                  | ok qx =>
                    obtain ⟨q, ks⟩ := qx
                    obtain ⟨⟨v, rfl, a, c, n, rfl, hq⟩, hd8⟩ := hf8
                    have HD8 := hide2 hd8
                    have HQ := hide2 hq
                    have HRr : Hid (r = .ok (q, ⟨24, 0, ⟨#[]⟩, ks⟩)) := HE9.out
                    obtain ⟨⟨z0, z1, z2, z3⟩, y0, y1, y2, y3⟩ := ex_cells hZ8
                    clear hd8 hg8 hq hZ8
                    go_wp2
                    refine bodyPost_ret (v := exV ⟨24, 0, ⟨#[]⟩, ks⟩ a c) (by simp [results, Tryd.results142, go_sem, z0, z1, z2, z3]) rfl ?_
                    refine ⟨grown_four HG8.out (Nat.le_refl _) _ _ _ _, ?_⟩
                    rw [HRr.out]
                    exact ⟨⟨_, rfl, a, c, n, rfl, (HQ.out.head 24 0 ⟨#[]⟩ (by decide)).keep (fun b hb => ⟨⟨by omega, by simp only [World.setCell_size]; omega⟩, far_four (by omega) _ _ _ _⟩)⟩, h.out.grown G (grown_four HG8.out (Nat.le_refl _) _ _ _ _) (HD8.out.rd.four (by omega) _ _ _ _)⟩
                | false =>
                  go_wp2_with fail
                  refine (take_f E G p _ ⟨#[97, 108, 105, 118, 101]⟩ false p _ HD6 hp h7.symm rfl).mono ?_
                  rintro e w7 ⟨rfl, hd7, hg7⟩
                  have HG7 : Hid (w.grownBy w7 (some E.R)) := grown_tr HG6.out hg7
                  have HZ7 : Hid (w7.heap[w.heap.size]? = some ZE) := kept_on hg7 (by omega) HZ6.out
                  have HD7 := hide2 hd7
                  clear hd7 hg7
                  cases h8 : tk E.l p ⟨#[114, 101, 115, 117, 109, 101]⟩ with
                  | true =>
                    have hp1 : p + 1 ≤ E.l.length := Rp.tk_step h8
                    go_wp2_with fail
                    refine (take_f E G p _ ⟨#[114, 101, 115, 117, 109, 101]⟩ true (p + 1) _ HD7 hp h8.symm rfl).mono ?_
                    rintro e w28 ⟨rfl, hd28, hg28⟩
                    have HG28 : Hid (w.grownBy w28 (some E.R)) := grown_tr HG7.out hg28
                    have HZ28 : Hid (w28.heap[w.heap.size]? = some ZE) := kept_on hg28 (by omega) HZ7.out
                    have HD28 := hide2 hd28
                    clear hd28 hg28
                    obtain ⟨r9, hr9⟩ : ∃ r9, r9 = Rp.exactly2 E.l E.en d (Rp.prevOf E.l E.en d) (p + 1) := ⟨_, rfl⟩
                    have HR9 := hide2 hr9
                    have HE9 : Hid (r = Rp.andThen r9 fun q ks => .ok (q, ⟨23, 0, ⟨#[]⟩, ks⟩)) := by unfold Hid; rw [hr.out]; unfold Rp.piece; rw [if_neg HKn.out, h1, h2, h3, h4, h5, h6, h7, h8, hr9]; rfl
                    clear hr9
                    go_wp2_with fail
                    refine (hX2.out (p + 1) r9 _ HD28 hp1 HR9).mono ?_
                    rintro e w8 ⟨hg8, hf8⟩
                    have HG8 : Hid (w.grownBy w8 (some E.R)) := grown_tr HG28.out hg8
                    have hZ8 : w8.heap[w.heap.size]? = some ZE := kept_on hg8 (by omega) HZ28.out
                    have hwj : w.heap.size < w28.heap.size := lt_of_block HZ28.out
                    cases r9 with
                    | error er =>
                      clear hg8 hZ8
                      obtain ⟨e1, e2⟩ := er
                      obtain ⟨rfl, hd8⟩ := hf8
                      have HD8 := hide2 hd8
                      have HRr : Hid (r = .error (e1, e2)) := HE9.out
                      clear hd8
                      go_wp2
                      exact ⟨rfl, HG8.out, by rw [HRr.out]; exact ⟨rfl, HD8.out⟩⟩
                    | ok qx =>
                      obtain ⟨q, ks⟩ := qx
                      obtain ⟨⟨v, rfl, a, c, n, rfl, hq⟩, hd8⟩ := hf8
                      have HD8 := hide2 hd8
                      have HQ := hide2 hq
                      have HRr : Hid (r = .ok (q, ⟨23, 0, ⟨#[]⟩, ks⟩)) := HE9.out
                      obtain ⟨⟨z0, z1, z2, z3⟩, y0, y1, y2, y3⟩ := ex_cells hZ8
                      clear hd8 hg8 hq hZ8
                      go_wp2
                      refine bodyPost_ret (v := exV ⟨23, 0, ⟨#[]⟩, ks⟩ a c) (by simp [results, Tryd.results142, go_sem, z0, z1, z2, z3]) rfl ?_
                      refine ⟨grown_four HG8.out (Nat.le_refl _) _ _ _ _, ?_⟩
                      rw [HRr.out]
                      exact ⟨⟨_, rfl, a, c, n, rfl, (HQ.out.head 23 0 ⟨#[]⟩ (by decide)).keep (fun b hb => ⟨⟨by omega, by simp only [World.setCell_size]; omega⟩, far_four (by omega) _ _ _ _⟩)⟩, h.out.grown G (grown_four HG8.out (Nat.le_refl _) _ _ _ _) (HD8.out.rd.four (by omega) _ _ _ _)⟩
                  | false =>
                    go_wp2_with fail
                    refine (take_f E G p _ ⟨#[114, 101, 115, 117, 109, 101]⟩ false p _ HD7 hp h8.symm rfl).mono ?_
                    rintro e w28 ⟨rfl, hd28, hg28⟩
                    have HG28 : Hid (w.grownBy w28 (some E.R)) := grown_tr HG7.out hg28
                    have HZ28 : Hid (w28.heap[w.heap.size]? = some ZE) := kept_on hg28 (by omega) HZ7.out
                    have HD28 := hide2 hd28
                    clear hd28 hg28
                    have HRt : Hid (r = Rp.named E.l E.en d (Rp.prevOf E.l E.en d) p) := by unfold Hid; rw [hr.out]; unfold Rp.piece; rw [if_neg HKn.out, h1, h2, h3, h4, h5, h6, h7, h8]; rfl
                    go_wp2_with fail
                    refine (hN.out p r _ HD28 hp HRt).mono ?_
                    rintro e w8 ⟨hg8, hf8⟩
                    have HG8 : Hid (w.grownBy w8 (some E.R)) := grown_tr HG28.out hg8
                    have hZ8 : w8.heap[w.heap.size]? = some ZE := kept_on hg8 (by omega) HZ28.out
                    have hwj : w.heap.size < w28.heap.size := lt_of_block HZ28.out
                    cases r with
                    | error er =>
                      obtain ⟨e1, e2⟩ := er
                      obtain ⟨rfl, hd8⟩ := hf8
                      have HD8 := hide2 hd8
                      clear hd8 hg8 hZ8
                      go_wp2
                      exact ⟨rfl, HG8.out, rfl, HD8.out⟩
                    | ok qx =>
                      obtain ⟨q, x⟩ := qx
                      obtain ⟨⟨v, rfl, a, c, n, rfl, hq⟩, hd8⟩ := hf8
                      have HD8 := hide2 hd8
                      have HQ := hide2 hq
                      obtain ⟨⟨z0, z1, z2, z3⟩, y0, y1, y2, y3⟩ := ex_cells hZ8
                      clear hd8 hg8 hq hZ8
                      go_wp2
                      refine bodyPost_ret (v := exV x a c) (by simp [results, Tryd.results142, go_sem, z0, z1, z2, z3]) rfl ?_
                      refine ⟨grown_four HG8.out (Nat.le_refl _) _ _ _ _, ⟨_, rfl, a, c, n, rfl, HQ.out.keep (fun b hb => ⟨⟨by omega, by simp only [World.setCell_size]; omega⟩, far_four (by omega) _ _ _ _⟩)⟩, h.out.grown G (grown_four HG8.out (Nat.le_refl _) _ _ _ _) (HD8.out.rd.four (by omega) _ _ _ _)⟩

end Go.Proofs.YtlnikpcoejpknaaDoor

