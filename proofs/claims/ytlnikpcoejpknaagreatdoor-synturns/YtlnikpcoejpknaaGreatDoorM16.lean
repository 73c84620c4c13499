/- The walk of piece. -/
import Derived.Test.YtlnikpcoejpknaaGreatDoorM15
namespace Go.Proofs.YtlnikpcoejpknaaGreatDoor
open Go.RowKit

abbrev tkO (t : Lx.Tk) : Obj := .cells #[.int .i64 t.kind, .string t.text, .int .i64 t.num, .int .i64 t.pos] 84 (0, 0)
theorem tk_cells {w : World} {N : Nat} {t : Lx.Tk} (h : w.heap[N]? = some (tkO t)) : w.cell? ⟨N, 0, none⟩ = some (.int .i64 t.kind) ∧ w.cell? ⟨N, 1, none⟩ = some (.string t.text) ∧ w.cell? ⟨N, 2, none⟩ = some (.int .i64 t.num) ∧ w.cell? ⟨N, 3, none⟩ = some (.int .i64 t.pos) := by
  simp [World.cell?, h]






set_option maxRecDepth 100000 in
set_option maxHeartbeats 2000000 in
theorem piece_f (E : Env) (G : Good E) (d : Nat) (hX : Hid (CExpr E d)) (hK : Hid (CKids E d)) (hX1 : Hid (CEx1 E d)) (hX2 : Hid (CEx2 E d)) (hN : Hid (CNamed E d)) : CPiece E d := by
  intro p r w h hp hr
  have hR := h.out.lt
  obtain ⟨t, ht⟩ : ∃ t, t = pk E.l p E.en := ⟨_, rfl⟩
  have HT := hide2 ht
  clear ht
  go_enter Tryz.func162, Tryz.ntmps162
  go_wp2_with fail
  refine (peek_f E G p _ t _ (h.out.alloc G _) hp HT).mono ?_
  rintro e wa ⟨rfl, hba⟩
  have HGa : Hid (w.grownBy (wa.alloc (tkO t)) (some E.R)) := grown_alloc (grown_tr (grown_alloc (grown_bel (Below.refl _ w)) _) (grown_bel hba)) _
  have HDa : Hid (Rdy E (wa.alloc (tkO t)) p (200 - (d : Int))) := ((h.out.alloc G _).on G hba).alloc G _
  have hza : wa.heap[w.heap.size]? = some ZE := (hba.block _ (by simp)).trans (heap_alloc_new w ZE)
  have hwa : w.heap.size < wa.heap.size := lt_of_block hza
  have HZa : Hid ((wa.alloc (tkO t)).heap[w.heap.size]? = some ZE) := (Below.heap_alloc _ _ _ hwa).trans hza
  have HTa : Hid ((wa.alloc (tkO t)).heap[wa.heap.size]? = some (tkO t)) := heap_alloc_new wa _
  clear hba hza
  by_cases hk : t.kind = 2
  · have e0 : ((t.kind : Int) == 2) = true := by simp; omega
    have HRr : Hid (r = .ok (p + 1, ⟨1, t.num, ⟨#[]⟩, []⟩)) := by unfold Hid; rw [hr.out]; unfold Rp.piece; rw [← HT.out, if_pos hk]
    clear hk
    go_wp2_with fail
    refine (skip_f E G p _ _ HDa hp).mono ?_
    rintro e w1 ⟨rfl, hd1, hg1⟩
    have HG1 : Hid (w.grownBy w1 (some E.R)) := grown_tr HGa.out hg1
    have HD1 := hide2 hd1
    obtain ⟨⟨z0, z1, z2, z3⟩, y0, y1, y2, y3⟩ := ex_cells (kept_on hg1 (by omega) HZa.out)
    obtain ⟨t0, t1, t2, t3⟩ := tk_cells (kept_on hg1 (by omega) HTa.out)
    clear hd1 hg1
    go_wp2
    refine bodyPost_ret (v := exV ⟨1, t.num, ⟨#[]⟩, []⟩ none 0) (by simp [results, Tryz.results162, go_sem, z0, z1, z2, z3]) rfl ?_
    refine ⟨grown_four HG1.out (Nat.le_refl _) _ _ _ _, ?_⟩
    rw [HRr.out]
    exact ⟨⟨_, rfl, none, 0, 1, rfl, ExQ.leaf _ _ _ _ _ (by decide) _⟩, h.out.grown G (grown_four HG1.out (Nat.le_refl _) _ _ _ _) (HD1.out.rd.four (by omega) _ _ _ _)⟩
  · have e0 : ((t.kind : Int) == 2) = false := by simp; omega
    have HKn : Hid (¬ (pk E.l p E.en).kind = 2) := by unfold Hid; rw [← HT.out]; exact hk
    clear hk HTa
    cases h1 : tk E.l p ⟨#[40]⟩ with
    | true =>
      have hp1 : p + 1 ≤ E.l.length := Rp.tk_step h1
      go_wp2_with fail
      refine (take_f E G p _ ⟨#[40]⟩ true (p + 1) _ HDa hp h1.symm rfl).mono ?_
      rintro e w1 ⟨rfl, hd1, hg1⟩
      have HG1 : Hid (w.grownBy w1 (some E.R)) := grown_tr HGa.out hg1
      have HZ1 : Hid (w1.heap[w.heap.size]? = some ZE) := kept_on hg1 (by omega) HZa.out
      have HD1 := hide2 hd1
      clear hd1 hg1
      obtain ⟨r9, hr9⟩ : ∃ r9, r9 = Rp.expr E.l E.en d (Rp.prevOf E.l E.en d) (p + 1) := ⟨_, rfl⟩
      have HR9 := hide2 hr9
      have HE9 : Hid (r = Rp.andThen r9 fun q x => Rp.andThen (Rp.want E.l E.en ⟨#[41]⟩ q) fun q2 _ => .ok (q2, x)) := by unfold Hid; rw [hr.out]; unfold Rp.piece; rw [if_neg HKn.out, h1, hr9]; rfl
      have HA9 : Hid (∀ q x, r9 = .ok (q, x) → q ≤ E.l.length) := fun q x hx => (Rp.expr_adv (en := E.en) (d := d) (Rp.prev_adv E.l E.en d) (p + 1) q x hp1 (by rw [← hr9, hx])).2
      clear hr9
      go_wp2_with fail
      refine (hX.out (p + 1) r9 _ HD1 hp1 HR9).mono ?_
      rintro e w8 ⟨hg8, hf8⟩
      have HG8 : Hid (w.grownBy w8 (some E.R)) := grown_tr HG1.out hg8
      have HZ8 : Hid (w8.heap[w.heap.size]? = some ZE) := kept_on hg8 (by omega) HZ1.out
      have hwj : w.heap.size < w1.heap.size := lt_of_block HZ1.out
      have hs8 := hg8.size
      clear hg8
      cases r9 with
      | error er =>
        obtain ⟨e1, e2⟩ := er
        obtain ⟨rfl, hd8⟩ := hf8
        have HD8 := hide2 hd8
        have HRr : Hid (r = .error (e1, e2)) := HE9.out
        clear hd8
        go_wp2
        exact ⟨rfl, HG8.out, by rw [HRr.out]; exact ⟨rfl, HD8.out⟩⟩
      | ok qx =>
        obtain ⟨q, x⟩ := qx
        obtain ⟨⟨v, rfl, a, c, n, rfl, hq⟩, hd8⟩ := hf8
        have HD8 := hide2 hd8
        have HQ := hide2 hq
        have hq8 : q ≤ E.l.length := HA9.out q x rfl
        obtain ⟨r3, hr3⟩ : ∃ r3, r3 = Rp.want E.l E.en ⟨#[41]⟩ q := ⟨_, rfl⟩
        have HR3 := hide2 hr3
        have HE3 : Hid (r = Rp.andThen r3 fun q2 _ => .ok (q2, x)) := by rw [HE9.out, hr3]; rfl
        clear hr3 hd8 hq
        go_wp2_with fail
        refine (want_f E G q _ ⟨#[41]⟩ r3 _ (HD8.out.alloc G _) hq8 HR3).mono ?_
        rintro e w9 ⟨hg9, hf9⟩
        have HG9 : Hid (w.grownBy w9 (some E.R)) := grown_tr (grown_alloc HG8.out _) hg9
        have hZ9 : w9.heap[w.heap.size]? = some ZE := kept_on hg9 (by omega) ((Below.heap_alloc _ _ _ (lt_of_block HZ8.out)).trans HZ8.out)
        have hX9 : w9.heap[w8.heap.size]? = some (exO x.kind x.n x.name (.slice a x.kids.length c)) := kept_on hg9 (by omega) (heap_alloc_new w8 _)
        have HQ9 : Hid (ExQ (fun b => w1.heap.size ≤ b ∧ b < w9.heap.size) w9 n x a) := HQ.out.keep (fun b hb => ⟨⟨hb.1, by have := hg9.size; simp at this; omega⟩, (hg9.block b (by simp; omega) (by simp; omega)).trans (Below.heap_alloc _ _ _ hb.2)⟩)
        clear hg9
        cases r3 with
        | error er =>
          obtain ⟨e1, e2⟩ := er
          obtain ⟨rfl, hd9⟩ := hf9
          have HD9 := hide2 hd9
          have HRr : Hid (r = .error (e1, e2)) := HE3.out
          clear hd9 hZ9 hX9
          go_wp2
          exact ⟨rfl, HG9.out, by rw [HRr.out]; exact ⟨rfl, HD9.out⟩⟩
        | ok qx =>
          obtain ⟨q3, u3⟩ := qx
          obtain ⟨⟨v, rfl, rfl⟩, hd9⟩ := hf9
          have HD9 := hide2 hd9
          have HRr : Hid (r = .ok (q3, x)) := HE3.out
          obtain ⟨⟨z0, z1, z2, z3⟩, y0, y1, y2, y3⟩ := ex_cells hZ9
          obtain ⟨⟨x0, x1, x2, x3⟩, _⟩ := ex_cells hX9
          clear hd9 hZ9 hX9
          go_wp2
          refine bodyPost_ret (v := exV x a c) (by simp [results, Tryz.results162, go_sem, z0, z1, z2, z3]) rfl ?_
          refine ⟨grown_four HG9.out (Nat.le_refl _) _ _ _ _, ?_⟩
          rw [HRr.out]
          exact ⟨⟨_, rfl, a, c, n, rfl, HQ9.out.keep (fun b hb => ⟨⟨by omega, by simp only [World.setCell_size]; omega⟩, far_four (by omega) _ _ _ _⟩)⟩, h.out.grown G (grown_four HG9.out (Nat.le_refl _) _ _ _ _) (HD9.out.rd.four (by omega) _ _ _ _)⟩
    | false =>
      go_wp2_with fail
      refine (take_f E G p _ ⟨#[40]⟩ false p _ HDa hp h1.symm rfl).mono ?_
      rintro e w1 ⟨rfl, hd1, hg1⟩
      have HG1 : Hid (w.grownBy w1 (some E.R)) := grown_tr HGa.out hg1
      have HZ1 : Hid (w1.heap[w.heap.size]? = some ZE) := kept_on hg1 (by omega) HZa.out
      have HD1 := hide2 hd1
      clear hd1 hg1
      cases h2 : tk E.l p ⟨#[116, 114, 117, 101]⟩ with
      | true =>
        have hp1 : p + 1 ≤ E.l.length := Rp.tk_step h2
        go_wp2_with fail
        refine (take_f E G p _ ⟨#[116, 114, 117, 101]⟩ true (p + 1) _ HD1 hp h2.symm rfl).mono ?_
        rintro e w2 ⟨rfl, hd2, hg2⟩
        have HG2 : Hid (w.grownBy w2 (some E.R)) := grown_tr HG1.out hg2
        have HZ2 : Hid (w2.heap[w.heap.size]? = some ZE) := kept_on hg2 (by omega) HZ1.out
        have HD2 := hide2 hd2
        clear hd2 hg2
        have HRr : Hid (r = .ok (p + 1, ⟨2, 1, ⟨#[]⟩, []⟩)) := by unfold Hid; rw [hr.out]; unfold Rp.piece; rw [if_neg HKn.out, h1, h2]; rfl
        obtain ⟨⟨z0, z1, z2, z3⟩, y0, y1, y2, y3⟩ := ex_cells HZ2.out
        go_wp2
        refine bodyPost_ret (v := exV ⟨2, 1, ⟨#[]⟩, []⟩ none 0) (by simp [results, Tryz.results162, go_sem, z0, z1, z2, z3]) rfl ?_
        refine ⟨grown_four HG2.out (Nat.le_refl _) _ _ _ _, ?_⟩
        rw [HRr.out]
        exact ⟨⟨_, rfl, none, 0, 1, rfl, ExQ.leaf _ _ _ _ _ (by decide) _⟩, h.out.grown G (grown_four HG2.out (Nat.le_refl _) _ _ _ _) (HD2.out.rd.four (by omega) _ _ _ _)⟩
      | false =>
        go_wp2_with fail
        refine (take_f E G p _ ⟨#[116, 114, 117, 101]⟩ false p _ HD1 hp h2.symm rfl).mono ?_
        rintro e w2 ⟨rfl, hd2, hg2⟩
        have HG2 : Hid (w.grownBy w2 (some E.R)) := grown_tr HG1.out hg2
        have HZ2 : Hid (w2.heap[w.heap.size]? = some ZE) := kept_on hg2 (by omega) HZ1.out
        have HD2 := hide2 hd2
        clear hd2 hg2
        cases h3 : tk E.l p ⟨#[102, 97, 108, 115, 101]⟩ with
        | true =>
          have hp1 : p + 1 ≤ E.l.length := Rp.tk_step h3
          go_wp2_with fail
          refine (take_f E G p _ ⟨#[102, 97, 108, 115, 101]⟩ true (p + 1) _ HD2 hp h3.symm rfl).mono ?_
          rintro e w3 ⟨rfl, hd3, hg3⟩
          have HG3 : Hid (w.grownBy w3 (some E.R)) := grown_tr HG2.out hg3
          have HZ3 : Hid (w3.heap[w.heap.size]? = some ZE) := kept_on hg3 (by omega) HZ2.out
          have HD3 := hide2 hd3
          clear hd3 hg3
          have HRr : Hid (r = .ok (p + 1, ⟨2, 0, ⟨#[]⟩, []⟩)) := by unfold Hid; rw [hr.out]; unfold Rp.piece; rw [if_neg HKn.out, h1, h2, h3]; rfl
          obtain ⟨⟨z0, z1, z2, z3⟩, y0, y1, y2, y3⟩ := ex_cells HZ3.out
          go_wp2
          refine bodyPost_ret (v := exV ⟨2, 0, ⟨#[]⟩, []⟩ none 0) (by simp [results, Tryz.results162, go_sem, z0, z1, z2, z3]) rfl ?_
          refine ⟨grown_four HG3.out (Nat.le_refl _) _ _ _ _, ?_⟩
          rw [HRr.out]
          exact ⟨⟨_, rfl, none, 0, 1, rfl, ExQ.leaf _ _ _ _ _ (by decide) _⟩, h.out.grown G (grown_four HG3.out (Nat.le_refl _) _ _ _ _) (HD3.out.rd.four (by omega) _ _ _ _)⟩
        | false =>
          go_wp2_with fail
          refine (take_f E G p _ ⟨#[102, 97, 108, 115, 101]⟩ false p _ HD2 hp h3.symm rfl).mono ?_
          rintro e w3 ⟨rfl, hd3, hg3⟩
          have HG3 : Hid (w.grownBy w3 (some E.R)) := grown_tr HG2.out hg3
          have HZ3 : Hid (w3.heap[w.heap.size]? = some ZE) := kept_on hg3 (by omega) HZ2.out
          have HD3 := hide2 hd3
          clear hd3 hg3
          cases h4 : tk E.l p ⟨#[115, 116, 97, 114, 116]⟩ with
          | true =>
            have hp1 : p + 1 ≤ E.l.length := Rp.tk_step h4
            go_wp2_with fail
            refine (take_f E G p _ ⟨#[115, 116, 97, 114, 116]⟩ true (p + 1) _ HD3 hp h4.symm rfl).mono ?_
            rintro e w4 ⟨rfl, hd4, hg4⟩
            have HG4 : Hid (w.grownBy w4 (some E.R)) := grown_tr HG3.out hg4
            have HZ4 : Hid (w4.heap[w.heap.size]? = some ZE) := kept_on hg4 (by omega) HZ3.out
            have HD4 := hide2 hd4
            clear hd4 hg4
            obtain ⟨r9, hr9⟩ : ∃ r9, r9 = Rp.name E.l E.en (p + 1) := ⟨_, rfl⟩
            have HR9 := hide2 hr9
            have HE9 : Hid (r = Rp.andThen r9 fun q s => Rp.andThen (Rp.kids E.l E.en d (Rp.prevOf E.l E.en d) q) fun q2 ks => .ok (q2, ⟨22, 0, s, ks⟩)) := by unfold Hid; rw [hr.out]; unfold Rp.piece; rw [if_neg HKn.out, h1, h2, h3, h4, hr9]; rfl
            have HA9 : Hid (∀ q x, r9 = .ok (q, x) → q ≤ E.l.length) := fun q x hx => (Rp.name_adv E.l E.en (p + 1) q x hp1 (by rw [← hr9, hx])).2
            clear hr9
            go_wp2_with fail
            refine (name_f E G (p + 1) _ r9 _ HD4 hp1 HR9).mono ?_
            rintro e w8 ⟨hg8, hf8⟩
            have HG8 : Hid (w.grownBy w8 (some E.R)) := grown_tr HG4.out hg8
            have HZ8 : Hid (w8.heap[w.heap.size]? = some ZE) := kept_on hg8 (by omega) HZ4.out
            have hw8 : w.heap.size < w8.heap.size := lt_of_block HZ8.out
            clear hg8
            cases r9 with
            | error er =>
              obtain ⟨e1, e2⟩ := er
              obtain ⟨rfl, hd8⟩ := hf8
              have HD8 := hide2 hd8
              have HRr : Hid (r = .error (e1, e2)) := HE9.out
              clear hd8
              go_wp2
              exact ⟨rfl, HG8.out, by rw [HRr.out]; exact ⟨rfl, HD8.out⟩⟩
            | ok qx =>
              obtain ⟨q, s⟩ := qx
              obtain ⟨⟨v, rfl, rfl, hs⟩, hd8⟩ := hf8
              have HD8 := hide2 hd8
              have hq8 : q ≤ E.l.length := HA9.out q s rfl
              obtain ⟨r3, hr3⟩ : ∃ r3, r3 = Rp.kids E.l E.en d (Rp.prevOf E.l E.en d) q := ⟨_, rfl⟩
              have HR3 := hide2 hr3
              have HE3 : Hid (r = Rp.andThen r3 fun q2 ks => .ok (q2, ⟨22, 0, s, ks⟩)) := by rw [HE9.out, hr3]; rfl
              clear hr3 hd8
              go_wp2_with fail
              refine (hK.out q r3 _ (HD8.out.alloc G _) hq8 HR3).mono ?_
              rintro e w9 ⟨hg9, hf9⟩
              have HG9 : Hid (w.grownBy w9 (some E.R)) := grown_tr (grown_alloc HG8.out _) hg9
              have hs9 := hg9.size
              simp at hs9
              have hZ9 : w9.heap[w.heap.size]? = some ZE := kept_on hg9 (by omega) ((Below.heap_alloc _ _ _ hw8).trans HZ8.out)
              have hX9 : w9.heap[w8.heap.size]? = some (exO 22 0 s (.slice none 0 0)) := kept_on hg9 (by omega) (heap_alloc_new w8 _)
              clear hg9
              cases r3 with
              | error er =>
                obtain ⟨e1, e2⟩ := er
                obtain ⟨rfl, hd9⟩ := hf9
                have HD9 := hide2 hd9
                have HRr : Hid (r = .error (e1, e2)) := HE3.out
                clear hd9 hZ9 hX9
                go_wp2
                exact ⟨rfl, HG9.out, by rw [HRr.out]; exact ⟨rfl, HD9.out⟩⟩
              | ok qx =>
                obtain ⟨q3, ks⟩ := qx
                obtain ⟨⟨v, rfl, a, c, n, rfl, hq⟩, hd9⟩ := hf9
                have HD9 := hide2 hd9
                have HQ : Hid (ExQ (fun b => w8.heap.size < b ∧ b < w9.heap.size) w9 n ⟨0, 0, ⟨#[]⟩, ks⟩ a) := hq.keep (fun b hb => ⟨⟨by have := hb.1; simp at this; omega, hb.2⟩, rfl⟩)
                have HRr : Hid (r = .ok (q3, ⟨22, 0, s, ks⟩)) := HE3.out
                obtain ⟨⟨z0, z1, z2, z3⟩, y0, y1, y2, y3⟩ := ex_cells hZ9
                obtain ⟨⟨x0, x1, x2, x3⟩, f0, f1, f2, f3⟩ := ex_cells hX9
                have hne : w.heap.size ≠ w8.heap.size := by omega
                clear hd9 hq hZ9 hX9
                go_wp2
                refine bodyPost_ret (v := exV ⟨22, 0, s, ks⟩ a c) (by simp [results, Tryz.results162, go_sem, z0, z1, z2, z3]) rfl ?_
                have hg4 := grown_set' HG9.out (a := ⟨w8.heap.size, 3, none⟩) (by simp; omega) (.slice a ks.length c)
                refine ⟨grown_four hg4 (Nat.le_refl _) _ _ _ _, ?_⟩
                rw [HRr.out]
                refine ⟨⟨_, rfl, a, c, n, rfl, (HQ.out.head 22 0 s hs).keep (fun b hb => ⟨⟨by omega, by simp only [World.setCell_size]; omega⟩, (far_four (by omega) _ _ _ _).trans (Below.heap_setCell _ _ _ _ (by simp; omega))⟩)⟩, ?_⟩
                exact h.out.grown G (grown_four hg4 (Nat.le_refl _) _ _ _ _) ((HD9.out.rd.set (a := ⟨w8.heap.size, 3, none⟩) (by simp; omega) _).four (by omega) _ _ _ _)
          | false =>
            go_wp2_with fail
            refine (take_f E G p _ ⟨#[115, 116, 97, 114, 116]⟩ false p _ HD3 hp h4.symm rfl).mono ?_
            rintro e w4 ⟨rfl, hd4, hg4⟩
            have HG4 : Hid (w.grownBy w4 (some E.R)) := grown_tr HG3.out hg4
            have HZ4 : Hid (w4.heap[w.heap.size]? = some ZE) := kept_on hg4 (by omega) HZ3.out
            have HD4 := hide2 hd4
            clear hd4 hg4
            cases h5 : tk E.l p ⟨#[114, 101, 99, 118]⟩ with
            | true =>
              have hp1 : p + 1 ≤ E.l.length := Rp.tk_step h5
              go_wp2_with fail
              refine (take_f E G p _ ⟨#[114, 101, 99, 118]⟩ true (p + 1) _ HD4 hp h5.symm rfl).mono ?_
              rintro e w5 ⟨rfl, hd5, hg5⟩
              have HG5 : Hid (w.grownBy w5 (some E.R)) := grown_tr HG4.out hg5
              have HZ5 : Hid (w5.heap[w.heap.size]? = some ZE) := kept_on hg5 (by omega) HZ4.out
              have HD5 := hide2 hd5
              clear hd5 hg5
              have HRt : Hid (r = Rp.receiving E.l E.en (p + 1)) := by unfold Hid; rw [hr.out]; unfold Rp.piece; rw [if_neg HKn.out, h1, h2, h3, h4, h5]; rfl
              go_wp2_with fail
              refine (receiving_f E G (p + 1) _ r _ HD5 hp1 HRt).mono ?_
              rintro e w8 ⟨hg8, hf8⟩
              have HG8 : Hid (w.grownBy w8 (some E.R)) := grown_tr HG5.out hg8
              have hZ8 : w8.heap[w.heap.size]? = some ZE := kept_on hg8 (by omega) HZ5.out
              have hwj : w.heap.size < w5.heap.size := lt_of_block HZ5.out
              cases r with
              | error er =>
                obtain ⟨e1, e2⟩ := er
                obtain ⟨rfl, hd8⟩ := hf8
                have HD8 := hide2 hd8
                clear hd8 hg8 hZ8
                go_wp2
                exact ⟨rfl, HG8.out, rfl, HD8.out⟩
              | ok qx =>
                obtain ⟨q, x⟩ := qx
                obtain ⟨⟨v, rfl, a, c, n, rfl, hq⟩, hd8⟩ := hf8
                have HD8 := hide2 hd8
                have HQ := hide2 hq
                obtain ⟨⟨z0, z1, z2, z3⟩, y0, y1, y2, y3⟩ := ex_cells hZ8
                clear hd8 hg8 hq hZ8
                go_wp2
                refine bodyPost_ret (v := exV x a c) (by simp [results, Tryz.results162, go_sem, z0, z1, z2, z3]) rfl ?_
                refine ⟨grown_four HG8.out (Nat.le_refl _) _ _ _ _, ⟨_, rfl, a, c, n, rfl, HQ.out.keep (fun b hb => ⟨⟨by omega, by simp only [World.setCell_size]; omega⟩, far_four (by omega) _ _ _ _⟩)⟩, h.out.grown G (grown_four HG8.out (Nat.le_refl _) _ _ _ _) (HD8.out.rd.four (by omega) _ _ _ _)⟩
            | false =>
              go_wp2_with fail
              refine (take_f E G p _ ⟨#[114, 101, 99, 118]⟩ false p _ HD4 hp h5.symm rfl).mono ?_
              rintro e w5 ⟨rfl, hd5, hg5⟩
              have HG5 : Hid (w.grownBy w5 (some E.R)) := grown_tr HG4.out hg5
              have HZ5 : Hid (w5.heap[w.heap.size]? = some ZE) := kept_on hg5 (by omega) HZ4.out
              have HD5 := hide2 hd5
              clear hd5 hg5
              cases h6 : tk E.l p ⟨#[121, 105, 101, 108, 100]⟩ with
              | true =>
                have hp1 : p + 1 ≤ E.l.length := Rp.tk_step h6
                go_wp2_with fail
                refine (take_f E G p _ ⟨#[121, 105, 101, 108, 100]⟩ true (p + 1) _ HD5 hp h6.symm rfl).mono ?_
                rintro e w6 ⟨rfl, hd6, hg6⟩
                have HG6 : Hid (w.grownBy w6 (some E.R)) := grown_tr HG5.out hg6
                have HZ6 : Hid (w6.heap[w.heap.size]? = some ZE) := kept_on hg6 (by omega) HZ5.out
                have HD6 := hide2 hd6
                clear hd6 hg6
                obtain ⟨r9, hr9⟩ : ∃ r9, r9 = Rp.exactly1 E.l E.en d (Rp.prevOf E.l E.en d) (p + 1) := ⟨_, rfl⟩
                have HR9 := hide2 hr9
                have HE9 : Hid (r = Rp.andThen r9 fun q ks => .ok (q, ⟨21, 0, ⟨#[]⟩, ks⟩)) := by unfold Hid; rw [hr.out]; unfold Rp.piece; rw [if_neg HKn.out, h1, h2, h3, h4, h5, h6, hr9]; rfl
                clear hr9
                go_wp2_with fail
                refine (hX1.out (p + 1) r9 _ HD6 hp1 HR9).mono ?_
                rintro e w8 ⟨hg8, hf8⟩
                have HG8 : Hid (w.grownBy w8 (some E.R)) := grown_tr HG6.out hg8
                have hZ8 : w8.heap[w.heap.size]? = some ZE := kept_on hg8 (by omega) HZ6.out
                have hwj : w.heap.size < w6.heap.size := lt_of_block HZ6.out
                cases r9 with
                | error er =>
                  clear hg8 hZ8
                  obtain ⟨e1, e2⟩ := er
                  obtain ⟨rfl, hd8⟩ := hf8
                  have HD8 := hide2 hd8
                  have HRr : Hid (r = .error (e1, e2)) := HE9.out
                  clear hd8
                  go_wp2
                  exact ⟨rfl, HG8.out, by rw [HRr.out]; exact ⟨rfl, HD8.out⟩⟩
                | ok qx =>
                  obtain ⟨q, ks⟩ := qx
                  obtain ⟨⟨v, rfl, a, c, n, rfl, hq⟩, hd8⟩ := hf8
                  have HD8 := hide2 hd8
                  have HQ := hide2 hq
                  have HRr : Hid (r = .ok (q, ⟨21, 0, ⟨#[]⟩, ks⟩)) := HE9.out
                  obtain ⟨⟨z0, z1, z2, z3⟩, y0, y1, y2, y3⟩ := ex_cells hZ8
                  clear hd8 hg8 hq hZ8
                  go_wp2
                  refine bodyPost_ret (v := exV ⟨21, 0, ⟨#[]⟩, ks⟩ a c) (by simp [results, Tryz.results162, go_sem, z0, z1, z2, z3]) rfl ?_
                  refine ⟨grown_four HG8.out (Nat.le_refl _) _ _ _ _, ?_⟩
                  rw [HRr.out]
                  exact ⟨⟨_, rfl, a, c, n, rfl, (HQ.out.head 21 0 ⟨#[]⟩ (by decide)).keep (fun b hb => ⟨⟨by omega, by simp only [World.setCell_size]; omega⟩, far_four (by omega) _ _ _ _⟩)⟩, h.out.grown G (grown_four HG8.out (Nat.le_refl _) _ _ _ _) (HD8.out.rd.four (by omega) _ _ _ _)⟩
              | false =>
                go_wp2_with fail
                refine (take_f E G p _ ⟨#[121, 105, 101, 108, 100]⟩ false p _ HD5 hp h6.symm rfl).mono ?_
                rintro e w6 ⟨rfl, hd6, hg6⟩
                have HG6 : Hid (w.grownBy w6 (some E.R)) := grown_tr HG5.out hg6
                have HZ6 : Hid (w6.heap[w.heap.size]? = some ZE) := kept_on hg6 (by omega) HZ5.out
                have HD6 := hide2 hd6
                clear hd6 hg6
                cases h7 : tk E.l p ⟨#[97, 108, 105, 118, 101]⟩ with
                | true =>
                  have hp1 : p + 1 ≤ E.l.length := Rp.tk_step h7
                  go_wp2_with fail
                  refine (take_f E G p _ ⟨#[97, 108, 105, 118, 101]⟩ true (p + 1) _ HD6 hp h7.symm rfl).mono ?_
                  rintro e w7 ⟨rfl, hd7, hg7⟩
                  have HG7 : Hid (w.grownBy w7 (some E.R)) := grown_tr HG6.out hg7
                  have HZ7 : Hid (w7.heap[w.heap.size]? = some ZE) := kept_on hg7 (by omega) HZ6.out
                  have HD7 := hide2 hd7
                  clear hd7 hg7
                  obtain ⟨r9, hr9⟩ : ∃ r9, r9 = Rp.exactly1 E.l E.en d (Rp.prevOf E.l E.en d) (p + 1) := ⟨_, rfl⟩
                  have HR9 := hide2 hr9
                  have HE9 : Hid (r = Rp.andThen r9 fun q ks => .ok (q, ⟨24, 0, ⟨#[]⟩, ks⟩)) := by unfold Hid; rw [hr.out]; unfold Rp.piece; rw [if_neg HKn.out, h1, h2, h3, h4, h5, h6, h7, hr9]; rfl
                  clear hr9
                  go_wp2_with fail
                  refine (hX1.out (p + 1) r9 _ HD7 hp1 HR9).mono ?_
                  rintro e w8 ⟨hg8, hf8⟩
                  have HG8 : Hid (w.grownBy w8 (some E.R)) := grown_tr HG7.out hg8
                  have hZ8 : w8.heap[w.heap.size]? = some ZE := kept_on hg8 (by omega) HZ7.out
                  have hwj : w.heap.size < w7.heap.size := lt_of_block HZ7.out
                  cases r9 with
                  | error er =>
                    clear hg8 hZ8
                    obtain ⟨e1, e2⟩ := er
                    obtain ⟨rfl, hd8⟩ := hf8
                    have HD8 := hide2 hd8
                    have HRr : Hid (r = .error (e1, e2)) := HE9.out
                    clear hd8
                    go_wp2
                    exact ⟨rfl, HG8.out, by rw [HRr.out]; exact ⟨rfl, HD8.out⟩⟩
                  | ok qx =>
                    obtain ⟨q, ks⟩ := qx
                    obtain ⟨⟨v, rfl, a, c, n, rfl, hq⟩, hd8⟩ := hf8
                    have HD8 := hide2 hd8
                    have HQ := hide2 hq
                    have HRr : Hid (r = .ok (q, ⟨24, 0, ⟨#[]⟩, ks⟩)) := HE9.out
                    obtain ⟨⟨z0, z1, z2, z3⟩, y0, y1, y2, y3⟩ := ex_cells hZ8
                    clear hd8 hg8 hq hZ8
                    go_wp2
                    refine bodyPost_ret (v := exV ⟨24, 0, ⟨#[]⟩, ks⟩ a c) (by simp [results, Tryz.results162, go_sem, z0, z1, z2, z3]) rfl ?_
                    refine ⟨grown_four HG8.out (Nat.le_refl _) _ _ _ _, ?_⟩
                    rw [HRr.out]
                    exact ⟨⟨_, rfl, a, c, n, rfl, (HQ.out.head 24 0 ⟨#[]⟩ (by decide)).keep (fun b hb => ⟨⟨by omega, by simp only [World.setCell_size]; omega⟩, far_four (by omega) _ _ _ _⟩)⟩, h.out.grown G (grown_four HG8.out (Nat.le_refl _) _ _ _ _) (HD8.out.rd.four (by omega) _ _ _ _)⟩
                | false =>
                  go_wp2_with fail
                  refine (take_f E G p _ ⟨#[97, 108, 105, 118, 101]⟩ false p _ HD6 hp h7.symm rfl).mono ?_
                  rintro e w7 ⟨rfl, hd7, hg7⟩
                  have HG7 : Hid (w.grownBy w7 (some E.R)) := grown_tr HG6.out hg7
                  have HZ7 : Hid (w7.heap[w.heap.size]? = some ZE) := kept_on hg7 (by omega) HZ6.out
                  have HD7 := hide2 hd7
                  clear hd7 hg7
                  cases h8 : tk E.l p ⟨#[114, 101, 115, 117, 109, 101]⟩ with
                  | true =>
                    have hp1 : p + 1 ≤ E.l.length := Rp.tk_step h8
                    go_wp2_with fail
                    refine (take_f E G p _ ⟨#[114, 101, 115, 117, 109, 101]⟩ true (p + 1) _ HD7 hp h8.symm rfl).mono ?_
                    rintro e w28 ⟨rfl, hd28, hg28⟩
                    have HG28 : Hid (w.grownBy w28 (some E.R)) := grown_tr HG7.out hg28
                    have HZ28 : Hid (w28.heap[w.heap.size]? = some ZE) := kept_on hg28 (by omega) HZ7.out
                    have HD28 := hide2 hd28
                    clear hd28 hg28
                    obtain ⟨r9, hr9⟩ : ∃ r9, r9 = Rp.exactly2 E.l E.en d (Rp.prevOf E.l E.en d) (p + 1) := ⟨_, rfl⟩
                    have HR9 := hide2 hr9
                    have HE9 : Hid (r = Rp.andThen r9 fun q ks => .ok (q, ⟨23, 0, ⟨#[]⟩, ks⟩)) := by unfold Hid; rw [hr.out]; unfold Rp.piece; rw [if_neg HKn.out, h1, h2, h3, h4, h5, h6, h7, h8, hr9]; rfl
                    clear hr9
                    go_wp2_with fail
                    refine (hX2.out (p + 1) r9 _ HD28 hp1 HR9).mono ?_
                    rintro e w8 ⟨hg8, hf8⟩
                    have HG8 : Hid (w.grownBy w8 (some E.R)) := grown_tr HG28.out hg8
                    have hZ8 : w8.heap[w.heap.size]? = some ZE := kept_on hg8 (by omega) HZ28.out
                    have hwj : w.heap.size < w28.heap.size := lt_of_block HZ28.out
                    cases r9 with
                    | error er =>
                      clear hg8 hZ8
                      obtain ⟨e1, e2⟩ := er
                      obtain ⟨rfl, hd8⟩ := hf8
                      have HD8 := hide2 hd8
                      have HRr : Hid (r = .error (e1, e2)) := HE9.out
                      clear hd8
                      go_wp2
                      exact ⟨rfl, HG8.out, by rw [HRr.out]; exact ⟨rfl, HD8.out⟩⟩
                    | ok qx =>
                      obtain ⟨q, ks⟩ := qx
                      obtain ⟨⟨v, rfl, a, c, n, rfl, hq⟩, hd8⟩ := hf8
                      have HD8 := hide2 hd8
                      have HQ := hide2 hq
                      have HRr : Hid (r = .ok (q, ⟨23, 0, ⟨#[]⟩, ks⟩)) := HE9.out
                      obtain ⟨⟨z0, z1, z2, z3⟩, y0, y1, y2, y3⟩ := ex_cells hZ8
                      clear hd8 hg8 hq hZ8
                      go_wp2
                      refine bodyPost_ret (v := exV ⟨23, 0, ⟨#[]⟩, ks⟩ a c) (by simp [results, Tryz.results162, go_sem, z0, z1, z2, z3]) rfl ?_
                      refine ⟨grown_four HG8.out (Nat.le_refl _) _ _ _ _, ?_⟩
                      rw [HRr.out]
                      exact ⟨⟨_, rfl, a, c, n, rfl, (HQ.out.head 23 0 ⟨#[]⟩ (by decide)).keep (fun b hb => ⟨⟨by omega, by simp only [World.setCell_size]; omega⟩, far_four (by omega) _ _ _ _⟩)⟩, h.out.grown G (grown_four HG8.out (Nat.le_refl _) _ _ _ _) (HD8.out.rd.four (by omega) _ _ _ _)⟩
                  | false =>
                    go_wp2_with fail
                    refine (take_f E G p _ ⟨#[114, 101, 115, 117, 109, 101]⟩ false p _ HD7 hp h8.symm rfl).mono ?_
                    rintro e w28 ⟨rfl, hd28, hg28⟩
                    have HG28 : Hid (w.grownBy w28 (some E.R)) := grown_tr HG7.out hg28
                    have HZ28 : Hid (w28.heap[w.heap.size]? = some ZE) := kept_on hg28 (by omega) HZ7.out
                    have HD28 := hide2 hd28
                    clear hd28 hg28
                    have HRt : Hid (r = Rp.named E.l E.en d (Rp.prevOf E.l E.en d) p) := by unfold Hid; rw [hr.out]; unfold Rp.piece; rw [if_neg HKn.out, h1, h2, h3, h4, h5, h6, h7, h8]; rfl
                    go_wp2_with fail
                    refine (hN.out p r _ HD28 hp HRt).mono ?_
                    rintro e w8 ⟨hg8, hf8⟩
                    have HG8 : Hid (w.grownBy w8 (some E.R)) := grown_tr HG28.out hg8
                    have hZ8 : w8.heap[w.heap.size]? = some ZE := kept_on hg8 (by omega) HZ28.out
                    have hwj : w.heap.size < w28.heap.size := lt_of_block HZ28.out
                    cases r with
                    | error er =>
                      obtain ⟨e1, e2⟩ := er
                      obtain ⟨rfl, hd8⟩ := hf8
                      have HD8 := hide2 hd8
                      clear hd8 hg8 hZ8
                      go_wp2
                      exact ⟨rfl, HG8.out, rfl, HD8.out⟩
                    | ok qx =>
                      obtain ⟨q, x⟩ := qx
                      obtain ⟨⟨v, rfl, a, c, n, rfl, hq⟩, hd8⟩ := hf8
                      have HD8 := hide2 hd8
                      have HQ := hide2 hq
                      obtain ⟨⟨z0, z1, z2, z3⟩, y0, y1, y2, y3⟩ := ex_cells hZ8
                      clear hd8 hg8 hq hZ8
                      go_wp2
                      refine bodyPost_ret (v := exV x a c) (by simp [results, Tryz.results162, go_sem, z0, z1, z2, z3]) rfl ?_
                      refine ⟨grown_four HG8.out (Nat.le_refl _) _ _ _ _, ⟨_, rfl, a, c, n, rfl, HQ.out.keep (fun b hb => ⟨⟨by omega, by simp only [World.setCell_size]; omega⟩, far_four (by omega) _ _ _ _⟩)⟩, h.out.grown G (grown_four HG8.out (Nat.le_refl _) _ _ _ _) (HD8.out.rd.four (by omega) _ _ _ _)⟩

end Go.Proofs.YtlnikpcoejpknaaGreatDoor

/- An append to a row of the call's own: the new row is the old one, or lies in a new block. -/
namespace Go.Proofs.YtlnikpcoejpknaaGreatDoor
open Go.RowKit

theorem run_append_where {P : Program} (w : World) (base : Nat) (t ty e : TypeId) (i : TypeInfo) (z : Value) (size bytes : Nat) (ht : P.underlying t = some (.slice e)) (hi : P.info? e = some i) (hz : i.zero = some z)
    (hsize : i.size = size) (hby : i.bytes = bytes) (hzs : z.cells.size = size) (hsz : 0 < size)
    (v : Value) (n : Nat) (xs : List Value) (hown : w.ownsRow base e size v n xs)
    (a : Addr) (m c : Nat) (news : List Value) (hl : news.length = m * size) (hnews : ∀ j u, news[j]? = some u → w.cell? (a.add j) = some u) (h1 : ∀ u ∈ news, u.oneCell' = true)
    (h0 : 0 < m) (h63 : n + m ≤ maxLen) (hbytes : (n + m) * bytes ≤ 140737488355328) (hbase : base ≤ w.heap.size) :
    ∃ v' w', (Builtin.append_ #[t, t] ty #[v, .slice (some a) m c]).run P w = .ok v' w' ∧ w'.ownsRow base e size v' (n + m) (xs ++ news) ∧ w.grownBy w' v.ownBlock ∧
      ∃ g cap, v' = .slice (some ⟨g, 0, none⟩) (n + m) cap ∧ (v.ownBlock = some g ∨ g = w.heap.size) := by
  obtain ⟨v', w', hr, h2, h3, _⟩ := run_append_own (P := P) w base t ty e i z size bytes ht hi hz hsize hby hzs hsz v n xs hown a m c news hl hnews h1 h63 hbytes hbase
  refine ⟨v', w', hr, h2, h3, ?_⟩
  have hsmall : n + m ≤ 9223372036854775807 := by simp only [maxLen] at h63; omega
  subst hsize
  subst hby
  rcases hown.2 with ⟨rfl, rfl⟩ | ⟨g, cap, cur, rfl, hbg, hg, hnc, hcm, hcs, htake⟩
  · have hq := run_append_nil (P := P) w t ty e i z ht hi hz a m c news hl hnews h0 (by omega) (by have hb := hbytes; simp only [Nat.zero_add] at hb; omega)
    rw [hr] at hq
    injection hq with e1 e2
    exact ⟨w.heap.size, _, by rw [e1, Nat.zero_add], .inr rfl⟩
  · by_cases hroom : n + m ≤ cap
    · have hfit : n * i.size + news.length ≤ cur.size := by rw [hl, hcs, ← Nat.add_mul]; exact Nat.mul_le_mul_right _ hroom
      have hq := run_append_room (P := P) w t ty e i ht hi g n cap cur hg a m c news hl hnews h1 hroom hfit
      rw [hr] at hq
      injection hq with e1 e2
      exact ⟨g, cap, e1, .inl rfl⟩
    · have hq := run_append_grow (P := P) w t ty e i z ht hi hz ⟨g, 0, none⟩ n cap xs hown.1 (hown.cells (g := g) rfl) a m c news hl hnews (by omega) (by omega) (growslice_fits (by omega) hbytes)
      rw [hr] at hq
      injection hq with e1 e2
      exact ⟨w.heap.size, _, e1, .inr rfl⟩

/-- The same as a law of the walk. -/
theorem wpList_append_where {P : Program} {w : World} {ops : Array Oper} {rest : List Oper} {o : Oper} {a : Act} {Q : Exit → Act → World → Prop} (hgd : o.guard = none) (s x : Operand) (t : TypeId)
    (ho : o.op = .call { callee := .builtin .append, args := #[s, x], argTypes := #[t, t] })
    (base : Nat) (e : TypeId) (i : TypeInfo) (z : Value) (size bytes : Nat) (ht : P.underlying t = some (.slice e)) (hi : P.info? e = some i) (hz : i.zero = some z)
    (hsize : i.size = size) (hby : i.bytes = bytes) (hzs : z.cells.size = size) (hsz : 0 < size)
    (v : Value) (n : Nat) (xs : List Value) (hs : a.eval s = v) (hown : w.ownsRow base e size v n xs)
    (ad : Addr) (m c : Nat) (news : List Value) (hx : a.eval x = .slice (some ad) m c) (hl : news.length = m * size) (hnews : ∀ j u, news[j]? = some u → w.cell? (ad.add j) = some u) (h1 : ∀ u ∈ news, u.oneCell' = true)
    (h0 : 0 < m) (h63 : n + m ≤ maxLen) (hbytes : (n + m) * bytes ≤ 140737488355328) (hbase : base ≤ w.heap.size)
    (h : ∀ g cap w', w'.ownsRow base e size (.slice (some ⟨g, 0, none⟩) (n + m) cap) (n + m) (xs ++ news) → w.grownBy w' v.ownBlock → (v.ownBlock = some g ∨ g = w.heap.size) → wpList P ops Q rest (a.put o.dst (.slice (some ⟨g, 0, none⟩) (n + m) cap)) w') : wpList P ops Q (o :: rest) a w := by
  refine wpList_plain hgd fun K hK => ?_
  obtain ⟨v', w', hr, h2, h3, g, cap, rfl, h4⟩ := run_append_where (P := P) w base t o.type e i z size bytes ht hi hz hsize hby hzs hsz v n xs hown ad m c news hl hnews h1 h0 h63 hbytes hbase
  unfold Oper.wp
  simp [execOp, ho, resolve, invoke, builtin, hs, hx, hr, Result.andThen]
  exact hK _ _ (h g cap w' h2 h3 h4)

end Go.Proofs.YtlnikpcoejpknaaGreatDoor

/- A list's row of kids as it grows, in a box that two functions share. -/
namespace Go.Proofs.YtlnikpcoejpknaaGreatDoor
open Go.RowKit

abbrev z4 : List Value := [.int .i64 0, .int .i64 0, .string ⟨#[]⟩, .slice none 0 0]
abbrev put4 (w : World) (g n : Nat) (it : Itm) : World := (((w.setCell ⟨g, n * 4, none⟩ (.int .i64 it.1.kind)).setCell ⟨g, n * 4 + 1, none⟩ (.int .i64 it.1.n)).setCell ⟨g, n * 4 + 2, none⟩ (.string it.1.name)).setCell ⟨g, n * 4 + 3, none⟩ (.slice it.2.1 it.1.kids.length it.2.2)

theorem row_put {w : World} {B g cap : Nat} {its : List Itm} (h : w.ownsRow B 64 4 (.slice (some ⟨g, 0, none⟩) (its.length + 1) cap) (its.length + 1) (cells4 its ++ z4)) (it : Itm) :
    (put4 w g its.length it).ownsRow B 64 4 (.slice (some ⟨g, 0, none⟩) (its.length + 1) cap) (its.length + 1) (cells4 (its ++ [it])) := by
  have h4 := (((h.stored (its.length * 4) (.int .i64 it.1.kind)).1.stored (its.length * 4 + 1) (.int .i64 it.1.n)).1.stored (its.length * 4 + 2) (.string it.1.name)).1.stored (its.length * 4 + 3) (.slice it.2.1 it.1.kids.length it.2.2)
  have e : ((((cells4 its ++ z4).set (its.length * 4) (.int .i64 it.1.kind)).set (its.length * 4 + 1) (.int .i64 it.1.n)).set (its.length * 4 + 2) (.string it.1.name)).set (its.length * 4 + 3) (.slice it.2.1 it.1.kids.length it.2.2) = cells4 (its ++ [it]) := by
    rw [cells4_app]
    have hl := cells4_len its
    rw [List.set_append_right _ _ (by omega), List.set_append_right _ _ (by omega), List.set_append_right _ _ (by omega), List.set_append_right _ _ (by omega)]
    rw [hl]
    have e0 : its.length * 4 - its.length * 4 = 0 := by omega
    have e1 : its.length * 4 + 1 - its.length * 4 = 1 := by omega
    have e2 : its.length * 4 + 2 - its.length * 4 = 2 := by omega
    have e3 : its.length * 4 + 3 - its.length * 4 = 3 := by omega
    rw [e0, e1, e2, e3]
    rfl
  rw [← e]
  exact h4.1

abbrev rbO (R : Nat) : Obj := .cells #[.pointer (some ⟨R, 0, none⟩)] 89 (0, 0)
abbrev rowO (v : Value) : Obj := .cells #[v] 62 (0, 0)

/-- So far these kids are there: the reader's box at N, the row's box behind it, whatever else behind both. -/
structure KAt (E : Env) (N : Nat) (w : World) (its : List Itm) (v : Value) (h : Nat) : Prop where
  rb : w.heap[N]? = some (rbO E.R)
  ob : w.heap[N + 1]? = some (rowO v)
  row : w.ownsRow (N + 2) 64 4 v its.length (cells4 its)
  kids : ∀ it ∈ its, ExQ (fun b => N + 2 ≤ b ∧ b < w.heap.size ∧ v.ownBlock ≠ some b) w h it.1 it.2.1
def KSt (E : Env) (N : Nat) (w : World) (out : List Sy.Ex) : Prop := ∃ its v h, its.map (·.1) = out ∧ KAt E N w its v h

theorem KAt.kept {E : Env} {N : Nat} {w w' : World} {its : List Itm} {v : Value} {h : Nat} (k : KAt E N w its v h) (hg : w.grownBy w' (some E.R)) (hR : E.R < N) : KAt E N w' its v h :=
  ⟨(hg.block N (lt_of_block k.rb) (by simp; omega)).trans k.rb, (hg.block (N + 1) (lt_of_block k.ob) (by simp; omega)).trans k.ob,
   k.row.kept hg (by
    cases hv : v.ownBlock with
    | none => exact .inl rfl
    | some g => right; have := k.row.lt g hv; simp; omega),
   fun it hit => (k.kids it hit).keep (fun b hb => ⟨⟨hb.1, by have := hg.size; omega, hb.2.2⟩, hg.block b hb.2.1 (by simp; omega)⟩)⟩
theorem KSt.kept {E : Env} {N : Nat} {w w' : World} {out : List Sy.Ex} (k : KSt E N w out) (hg : w.grownBy w' (some E.R)) (hR : E.R < N) : KSt E N w' out := by
  obtain ⟨its, v, h, e, k⟩ := k
  exact ⟨its, v, h, e, k.kept hg hR⟩

theorem put4_far {w : World} {g n k : Nat} {it : Itm} (hk : k ≠ g) : (put4 w g n it).heap[k]? = w.heap[k]? := by
  unfold put4
  rw [Below.heap_setCell _ _ _ _ hk, Below.heap_setCell _ _ _ _ hk, Below.heap_setCell _ _ _ _ hk, Below.heap_setCell _ _ _ _ hk]
theorem put4_meta {w : World} {g n : Nat} {it : Itm} : (put4 w g n it).os = w.os ∧ (put4 w g n it).tape = w.tape ∧ (put4 w g n it).output = w.output := ⟨rfl, rfl, rfl⟩
theorem set_meta {w : World} {a : Addr} {u : Value} : (w.setCell a u).os = w.os ∧ (w.setCell a u).tape = w.tape ∧ (w.setCell a u).output = w.output := ⟨rfl, rfl, rfl⟩
/-- Only a cell's block has changed. -/
theorem grown_cell (w : World) (a : Addr) (u : Value) : w.grownBy (w.setCell a u) (some a.block) :=
  ⟨rfl, rfl, rfl, Nat.le_of_eq (World.setCell_size w a u).symm, fun b _ hb => Below.heap_setCell _ _ _ _ (fun e => hb (by rw [e]))⟩

set_option maxHeartbeats 1000000 in
/-- One kid more: behind the append the kid is stored, and the row. -/
theorem KAt.more {E : Env} {w0 w w4 w5 : World} {N M : Nat} {its : List Itm} {v : Value} {h hx g cap : Nat} {it : Itm} (k : KAt E N w its v h) (hM : ∀ b, v.ownBlock = some b → b < M) (hx2 : ExQ (fun b => M ≤ b ∧ b < w.heap.size) w hx it.1 it.2.1) (hMN : N + 2 ≤ M) (hNw : w0.heap.size ≤ N) (hRN : E.R < N)
    (hg0 : w0.grownBy w (some E.R)) (hown : w4.ownsRow (N + 2) 64 4 (.slice (some ⟨g, 0, none⟩) (its.length + 1) cap) (its.length + 1) (cells4 its ++ z4)) (hg : w.grownBy w4 v.ownBlock) (hw : v.ownBlock = some g ∨ g = w.heap.size)
    (h5 : w5 = (put4 w4 g its.length it).setCell ⟨N + 1, 0, none⟩ (.slice (some ⟨g, 0, none⟩) (its.length + 1) cap) ∨ w5 = put4 (w4.setCell ⟨N + 1, 0, none⟩ (.slice (some ⟨g, 0, none⟩) (its.length + 1) cap)) g its.length it) :
    KAt E N w5 (its ++ [it]) (.slice (some ⟨g, 0, none⟩) (its.length + 1) cap) (max h hx) ∧ w0.grownBy w5 (some E.R) ∧ w5.heap[E.R]? = w.heap[E.R]? ∧ (∀ b, b < w.heap.size → v.ownBlock ≠ some b → b ≠ N + 1 → w5.heap[b]? = w.heap[b]?) := by
  have hgl := hown.lt g rfl
  have hvb : ∀ b, v.ownBlock = some b → N + 2 ≤ b ∧ b < w.heap.size := fun b hb => k.row.lt b hb
  have hs4 := hg.size
  have hN1 : N + 1 < w.heap.size := lt_of_block k.ob
  have hgN : N + 1 ≠ g := by omega
  have hsz : w5.heap.size = w4.heap.size := by rcases h5 with rfl | rfl <;> simp only [World.setCell_size]
  have far : ∀ b, b ≠ g → b ≠ N + 1 → w5.heap[b]? = w4.heap[b]? := by
    intro b h1 h2
    rcases h5 with rfl | rfl
    · rw [Below.heap_setCell _ _ _ _ h2, put4_far h1]
    · rw [put4_far h1, Below.heap_setCell _ _ _ _ h2]
  have hgne : ∀ b, b < w.heap.size → v.ownBlock ≠ some b → b ≠ g := by
    intro b h1 h2 e
    rcases hw with hw | hw
    · exact h2 (e ▸ hw)
    · omega
  have hgnx : ∀ b, M ≤ b → b < w.heap.size → b ≠ g := by
    intro b h1 h2 e
    rcases hw with hw | hw
    · have := hM g hw; omega
    · omega
  have blk : ∀ b, b < w.heap.size → v.ownBlock ≠ some b → b ≠ N + 1 → w5.heap[b]? = w.heap[b]? := by
    intro b h1 h2 h3
    rw [far b (hgne b h1 h2) h3]
    exact hg.block b h1 (fun e => h2 e.symm)
  have hmeta : w5.os = w4.os ∧ w5.tape = w4.tape ∧ w5.output = w4.output := by
    rcases h5 with rfl | rfl
    · exact ⟨set_meta.1.trans put4_meta.1, set_meta.2.1.trans put4_meta.2.1, set_meta.2.2.trans put4_meta.2.2⟩
    · exact ⟨put4_meta.1.trans set_meta.1, put4_meta.2.1.trans set_meta.2.1, put4_meta.2.2.trans set_meta.2.2⟩
  have hlen : (its ++ [it]).length = its.length + 1 := by simp
  have ob4 : w4.heap[N + 1]? = some (rowO v) := (hg.block (N + 1) hN1 (fun e => by have := hvb _ e.symm; omega)).trans k.ob
  have hrow : w5.ownsRow (N + 2) 64 4 (.slice (some ⟨g, 0, none⟩) (its.length + 1) cap) (its.length + 1) (cells4 (its ++ [it])) := by
    rcases h5 with rfl | rfl
    · refine (row_put hown it).kept (grown_cell _ _ _) (.inr (by simp [Value.ownBlock]; omega))
    · refine row_put (hown.kept (grown_cell _ _ _) (.inr (by simp [Value.ownBlock]; omega))) it
  have hob : w5.heap[N + 1]? = some (rowO (.slice (some ⟨g, 0, none⟩) (its.length + 1) cap)) := by
    have one : ∀ u : World, u.heap[N + 1]? = some (rowO v) → (u.setCell ⟨N + 1, 0, none⟩ (.slice (some ⟨g, 0, none⟩) (its.length + 1) cap)).heap[N + 1]? = some (rowO (.slice (some ⟨g, 0, none⟩) (its.length + 1) cap)) := by
      intro u hu
      simp only [World.setCell, Array.getElem?_modify, if_true, hu, Option.map_some]
      rfl
    rcases h5 with rfl | rfl
    · exact one _ ((put4_far hgN).trans ob4)
    · exact (put4_far hgN).trans (one _ ob4)
  refine ⟨⟨(blk N (by omega) (fun e => by have := hvb _ e; omega) (by omega)).trans k.rb, hob, by rw [hlen]; exact hrow, ?_⟩, ?_, blk E.R (by omega) (fun e => by have := hvb _ e; omega) (by omega), blk⟩
  · intro i hi
    rcases List.mem_append.1 hi with hi | hi
    · exact ((k.kids i hi).keep (fun b hb => ⟨⟨hb.1, by omega, by simp only [Value.ownBlock, ne_eq, Option.some.injEq]; exact fun e => hgne b hb.2.1 hb.2.2 e.symm⟩, blk b hb.2.1 hb.2.2 (by omega)⟩)).up (by omega)
    · simp only [List.mem_cons, List.not_mem_nil, or_false] at hi
      subst hi
      exact (hx2.keep (fun b hb => ⟨⟨by omega, by omega, by simp only [Value.ownBlock, ne_eq, Option.some.injEq]; exact fun e => hgnx b hb.1 hb.2 e.symm⟩, blk b hb.2 (fun e => by have := hM b e; omega) (by omega)⟩)).up (by omega)
  · exact ⟨hmeta.1.trans (hg.os.trans hg0.os), hmeta.2.1.trans (hg.tape.trans hg0.tape), hmeta.2.2.trans (hg.output.trans hg0.output), by have := hg0.size; omega, fun b hb hn => (blk b (by have := hg0.size; omega) (fun e => by have := hvb _ e; omega) (by omega)).trans (hg0.block b hb hn)⟩

end Go.Proofs.YtlnikpcoejpknaaGreatDoor

