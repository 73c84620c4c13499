/- The walk of def (laid by tools/mkdef.py). -/
import Derived.Test.YtlnikpcoejpknaaDoorM33
namespace Go.Proofs.YtlnikpcoejpknaaDoor
open Go.RowKit



set_option maxRecDepth 100000 in
set_option maxHeartbeats 4000000 in
theorem def_f (E : Env) (G : Good E) (op : Int) (hB : Hid (CBd E op)) (hX : Hid (CDf E op 75 (Rp.box E.l E.en))) (hF : Hid (CDf E op 76 (Rp.function E.l E.en))) (hN : Hid (CDf E op 77 (Rp.generator E.l E.en))) : CDf E op 51 (Rp.df E.l E.en) := by
  intro p r w h hp hr
  have hR := h.out.lt
  obtain ⟨t, ht⟩ : ∃ t, t = pk E.l p E.en := ⟨_, rfl⟩
  have HT := hide2 ht
  have HRT : Hid (r = if t.text = ⟨#[98, 111, 120]⟩ then Rp.box E.l E.en p else if t.text = ⟨#[102, 110]⟩ then Rp.function E.l E.en p else if t.text = ⟨#[103, 101, 110]⟩ then Rp.generator E.l E.en p else Rp.task E.l E.en p) := by rw [hr.out, ht]; rfl
  clear ht
  go_enter Tryd.func51, Tryd.ntmps51
  go_wp2_with fail
  refine (peek_f E G p _ t _ (hide2 (h.out.alloc G _)) hp HT).mono ?_
  rintro e w0 ⟨rfl, hb0⟩
  have HG0 : Hid (w.grownBy w0 (some E.R)) := grown_tr (grown_alloc (grown_bel (Below.refl _ w)) _) (grown_bel hb0)
  have HD0 : Hid (Rdy E w0 p op) := (h.out.alloc G _).on G hb0
  have HZ0 : Hid (w0.heap[w.heap.size]? = some ZDf) := (hb0.block _ (by simp)).trans (heap_alloc_new w ZDf)
  have hw0 : w.heap.size < w0.heap.size := lt_of_block HZ0.out
  clear hb0
  have e0 := tok_text t.kind t.num t.pos t.text w0
  obtain ⟨b1, hb1⟩ : ∃ b, b = decide (t.text = ⟨#[98, 111, 120]⟩) := ⟨_, rfl⟩
  have e1 : (t.text.toList == [98, 111, 120]) = b1 := by rw [← (show ByteArray.toList ⟨#[98, 111, 120]⟩ = [98, 111, 120] by simp)]; exact beq_text hb1
  have c1 := hide2 hb1
  clear hb1
  cases b1 with
  | true =>
    have HR9 : Hid (r = Rp.box E.l E.en p) := by unfold Hid; rw [HRT.out, if_pos (by have := c1.out; simpa using this)]
    go_wp2_with fail
    refine (hX.out p r _ HD0 hp HR9).mono ?_
    rintro e w8 ⟨hg8, hf8⟩
    have HG8 : Hid (w.grownBy w8 (some E.R)) := grown_tr HG0.out hg8
    have hZ8 : w8.heap[w.heap.size]? = some ZDf := kept_on hg8 (by omega) HZ0.out
    cases r with
    | error er =>
      obtain ⟨e1, e2⟩ := er
      obtain ⟨rfl, hd8⟩ := hf8
      have HD8 := hide2 hd8
      clear hd8 hg8 hZ8
      go_wp2
      exact ⟨rfl, HG8.out, rfl, HD8.out⟩
    | ok qx =>
      obtain ⟨q, d⟩ := qx
      obtain ⟨⟨v, rfl, pa, pc, ba, bc, rfl, hq⟩, hd8⟩ := hf8
      have HD8 := hide2 hd8
      have HQ : Hid (DfQ (fun b => w.heap.size < b ∧ b < w8.heap.size) w8 d pa ba) := hq.keep (fun b hb => ⟨⟨by have := hb.1; omega, hb.2⟩, rfl⟩)
      obtain ⟨⟨z0, z1, z2, z3, z4, z5, z6, z7, z8⟩, y0, y1, y2, y3, y4, y5, y6, y7, y8⟩ := df_cells hZ8
      clear hd8 hg8 hq hZ8
      go_wp2
      refine bodyPost_ret (v := dffV d pa pc ba bc) (by simp [results, Tryd.results51, go_sem, z0, z1, z2, z3, z4, z5, z6, z7, z8]) rfl ?_
      exact df_end G h.out HG8.out HD8.out rfl HQ.out
  | false =>
    obtain ⟨b2, hb2⟩ : ∃ b, b = decide (t.text = ⟨#[102, 110]⟩) := ⟨_, rfl⟩
    have e2 : (t.text.toList == [102, 110]) = b2 := by rw [← (show ByteArray.toList ⟨#[102, 110]⟩ = [102, 110] by simp)]; exact beq_text hb2
    have c2 := hide2 hb2
    clear hb2
    cases b2 with
    | true =>
      have HR9 : Hid (r = Rp.function E.l E.en p) := by unfold Hid; rw [HRT.out, if_neg (by have := c1.out; simpa using this), if_pos (by have := c2.out; simpa using this)]
      go_wp2_with fail
      refine (hF.out p r _ HD0 hp HR9).mono ?_
      rintro e w8 ⟨hg8, hf8⟩
      have HG8 : Hid (w.grownBy w8 (some E.R)) := grown_tr HG0.out hg8
      have hZ8 : w8.heap[w.heap.size]? = some ZDf := kept_on hg8 (by omega) HZ0.out
      cases r with
      | error er =>
        obtain ⟨e1, e2⟩ := er
        obtain ⟨rfl, hd8⟩ := hf8
        have HD8 := hide2 hd8
        clear hd8 hg8 hZ8
        go_wp2
        exact ⟨rfl, HG8.out, rfl, HD8.out⟩
      | ok qx =>
        obtain ⟨q, d⟩ := qx
        obtain ⟨⟨v, rfl, pa, pc, ba, bc, rfl, hq⟩, hd8⟩ := hf8
        have HD8 := hide2 hd8
        have HQ : Hid (DfQ (fun b => w.heap.size < b ∧ b < w8.heap.size) w8 d pa ba) := hq.keep (fun b hb => ⟨⟨by have := hb.1; omega, hb.2⟩, rfl⟩)
        obtain ⟨⟨z0, z1, z2, z3, z4, z5, z6, z7, z8⟩, y0, y1, y2, y3, y4, y5, y6, y7, y8⟩ := df_cells hZ8
        clear hd8 hg8 hq hZ8
        go_wp2
        refine bodyPost_ret (v := dffV d pa pc ba bc) (by simp [results, Tryd.results51, go_sem, z0, z1, z2, z3, z4, z5, z6, z7, z8]) rfl ?_
        exact df_end G h.out HG8.out HD8.out rfl HQ.out
    | false =>
      obtain ⟨b3, hb3⟩ : ∃ b, b = decide (t.text = ⟨#[103, 101, 110]⟩) := ⟨_, rfl⟩
      have e3 : (t.text.toList == [103, 101, 110]) = b3 := by rw [← (show ByteArray.toList ⟨#[103, 101, 110]⟩ = [103, 101, 110] by simp)]; exact beq_text hb3
      have c3 := hide2 hb3
      clear hb3
      cases b3 with
      | true =>
        have HR9 : Hid (r = Rp.generator E.l E.en p) := by unfold Hid; rw [HRT.out, if_neg (by have := c1.out; simpa using this), if_neg (by have := c2.out; simpa using this), if_pos (by have := c3.out; simpa using this)]
        go_wp2_with fail
        refine (hN.out p r _ HD0 hp HR9).mono ?_
        rintro e w8 ⟨hg8, hf8⟩
        have HG8 : Hid (w.grownBy w8 (some E.R)) := grown_tr HG0.out hg8
        have hZ8 : w8.heap[w.heap.size]? = some ZDf := kept_on hg8 (by omega) HZ0.out
        cases r with
        | error er =>
          obtain ⟨e1, e2⟩ := er
          obtain ⟨rfl, hd8⟩ := hf8
          have HD8 := hide2 hd8
          clear hd8 hg8 hZ8
          go_wp2
          exact ⟨rfl, HG8.out, rfl, HD8.out⟩
        | ok qx =>
          obtain ⟨q, d⟩ := qx
          obtain ⟨⟨v, rfl, pa, pc, ba, bc, rfl, hq⟩, hd8⟩ := hf8
          have HD8 := hide2 hd8
          have HQ : Hid (DfQ (fun b => w.heap.size < b ∧ b < w8.heap.size) w8 d pa ba) := hq.keep (fun b hb => ⟨⟨by have := hb.1; omega, hb.2⟩, rfl⟩)
          obtain ⟨⟨z0, z1, z2, z3, z4, z5, z6, z7, z8⟩, y0, y1, y2, y3, y4, y5, y6, y7, y8⟩ := df_cells hZ8
          clear hd8 hg8 hq hZ8
          go_wp2
          refine bodyPost_ret (v := dffV d pa pc ba bc) (by simp [results, Tryd.results51, go_sem, z0, z1, z2, z3, z4, z5, z6, z7, z8]) rfl ?_
          exact df_end G h.out HG8.out HD8.out rfl HQ.out
      | false =>
        have HE0 : Hid (r = Rp.task E.l E.en p) := by unfold Hid; rw [HRT.out, if_neg (by have := c1.out; simpa using this), if_neg (by have := c2.out; simpa using this), if_neg (by have := c3.out; simpa using this)]
        obtain ⟨r1, hr1⟩ : ∃ r1, r1 = Rp.want E.l E.en ⟨#[116, 97, 115, 107]⟩ p := ⟨_, rfl⟩
        have HR1 := hide2 hr1
        have HE1 : Hid (r = Rp.andThen r1 fun q1 _ => Rp.andThen (Rp.name E.l E.en q1) fun q2 s => Rp.andThen (Rp.body E.l E.en 200 q2) fun q3 b => .ok (q3, ⟨4, s, Rp.T0, Rp.T0, 0, [], b⟩)) := by rw [HE0.out, hr1]; rfl
        have HA1 : Hid (∀ q x, r1 = .ok (q, x) → q ≤ E.l.length) := fun q x hx => (Rp.want_adv E.l E.en _ p q x hp (by rw [← hr1, hx])).2
        clear hr1
        go_wp2_with fail
        refine (want_f E G p _ ⟨#[116, 97, 115, 107]⟩ r1 _ HD0 hp HR1).mono ?_
        rintro e w1 ⟨hg1, hf1⟩
        have HG1 : Hid (w.grownBy w1 (some E.R)) := grown_tr HG0.out hg1
        have hs1 := hg1.size
        (try simp only [asz] at hs1)
        (try simp only [World.setCell_size] at hs1)
        have HZ1 : Hid (w1.heap[w.heap.size]? = some ZDf) := kept_on hg1 (by omega) HZ0.out
        clear hg1
        cases r1 with
        | error er =>
          obtain ⟨e1, e2⟩ := er
          obtain ⟨rfl, hd1⟩ := hf1
          have HD1 := hide2 hd1
          have HRr : Hid (r = .error (e1, e2)) := HE1.out
          clear hd1
          go_wp2
          exact ⟨rfl, HG1.out, by rw [HRr.out]; exact ⟨rfl, HD1.out⟩⟩
        | ok qx =>
          obtain ⟨q1, u1⟩ := qx
          obtain ⟨⟨v, rfl, rfl⟩, hd1⟩ := hf1
          have hq1 : q1 ≤ E.l.length := HA1.out q1 u1 rfl
          have HD1 := hide2 hd1
          clear hd1
          obtain ⟨r2, hr2⟩ : ∃ r2, r2 = Rp.name E.l E.en q1 := ⟨_, rfl⟩
          have HR2 := hide2 hr2
          have HE2 : Hid (r = Rp.andThen r2 fun q2 s => Rp.andThen (Rp.body E.l E.en 200 q2) fun q3 b => .ok (q3, ⟨4, s, Rp.T0, Rp.T0, 0, [], b⟩)) := by rw [HE1.out, hr2]; rfl
          have HA2 : Hid (∀ q x, r2 = .ok (q, x) → q ≤ E.l.length) := fun q x hx => (Rp.name_adv E.l E.en q1 q x hq1 (by rw [← hr2, hx])).2
          clear hr2
          go_wp2_with fail
          refine (name_f E G q1 _ r2 _ HD1 hq1 HR2).mono ?_
          rintro e w2 ⟨hg2, hf2⟩
          have HG2 : Hid (w.grownBy w2 (some E.R)) := grown_tr HG1.out hg2
          have hs2 := hg2.size
          (try simp only [asz] at hs2)
          (try simp only [World.setCell_size] at hs2)
          have HZ2 : Hid (w2.heap[w.heap.size]? = some ZDf) := kept_on hg2 (by omega) HZ1.out
          clear hg2
          cases r2 with
          | error er =>
            obtain ⟨e1, e2⟩ := er
            obtain ⟨rfl, hd2⟩ := hf2
            have HD2 := hide2 hd2
            have HRr : Hid (r = .error (e1, e2)) := HE2.out
            clear hd2
            go_wp2
            exact ⟨rfl, HG2.out, by rw [HRr.out]; exact ⟨rfl, HD2.out⟩⟩
          | ok qx =>
            obtain ⟨q2, s⟩ := qx
            obtain ⟨⟨v, rfl, rfl, hs⟩, hd2⟩ := hf2
            have hq2 : q2 ≤ E.l.length := HA2.out q2 s rfl
            have hwS : w.heap.size < w2.heap.size := lt_of_block HZ2.out
            have HDT2 : Hid (Rdy E (w2.alloc (dffO 4 s 0 ⟨#[]⟩ 0 ⟨#[]⟩ 0 (.slice none 0 0) (.slice none 0 0))) q2 op) := hd2.alloc G _
            have HGT2 : Hid (w.grownBy (w2.alloc (dffO 4 s 0 ⟨#[]⟩ 0 ⟨#[]⟩ 0 (.slice none 0 0) (.slice none 0 0))) (some E.R)) := grown_alloc HG2.out _
            have HZT2 : Hid ((w2.alloc (dffO 4 s 0 ⟨#[]⟩ 0 ⟨#[]⟩ 0 (.slice none 0 0) (.slice none 0 0))).heap[w.heap.size]? = some ZDf) := (Below.heap_alloc _ _ _ hwS).trans HZ2.out
            have HST2 : Hid ((w2.alloc (dffO 4 s 0 ⟨#[]⟩ 0 ⟨#[]⟩ 0 (.slice none 0 0) (.slice none 0 0))).heap[w2.heap.size]? = some (dffO 4 s 0 ⟨#[]⟩ 0 ⟨#[]⟩ 0 (.slice none 0 0) (.slice none 0 0))) := heap_alloc_new w2 _
            clear hd2
            obtain ⟨r3, hr3⟩ : ∃ r3, r3 = Rp.body E.l E.en 200 q2 := ⟨_, rfl⟩
            have HR3 := hide2 hr3
            have HE3 : Hid (r = Rp.andThen r3 fun q3 b => .ok (q3, ⟨4, s, Rp.T0, Rp.T0, 0, [], b⟩)) := by rw [HE2.out, hr3]; rfl
            have HA3 : Hid (∀ q x, r3 = .ok (q, x) → q ≤ E.l.length) := fun q x hx => (Rp.body_adv E.l E.en 200 q2 q x hq2 (by rw [← hr3, hx])).2
            clear hr3
            go_wp2_with fail
            refine (hB.out q2 r3 _ HDT2 hq2 HR3).mono ?_
            rintro e w3 ⟨hg3, hf3⟩
            have HG3 : Hid (w.grownBy w3 (some E.R)) := grown_tr HGT2.out hg3
            have hs3 := hg3.size
            (try simp only [asz] at hs3)
            (try simp only [World.setCell_size] at hs3)
            have HZ3 : Hid (w3.heap[w.heap.size]? = some ZDf) := kept_on hg3 (by omega) HZT2.out
            have HS3 : Hid (w3.heap[w2.heap.size]? = some (dffO 4 s 0 ⟨#[]⟩ 0 ⟨#[]⟩ 0 (.slice none 0 0) (.slice none 0 0))) := kept_on hg3 (by omega) HST2.out
            clear hg3
            cases r3 with
            | error er =>
              obtain ⟨e1, e2⟩ := er
              obtain ⟨rfl, hd3⟩ := hf3
              have HD3 := hide2 hd3
              have HRr : Hid (r = .error (e1, e2)) := HE3.out
              clear hd3
              go_wp2
              exact ⟨rfl, HG3.out, by rw [HRr.out]; exact ⟨rfl, HD3.out⟩⟩
            | ok qx =>
              obtain ⟨q3, b⟩ := qx
              obtain ⟨⟨v, rfl, ba, bc, m, rfl, hbl, hrow⟩, hd3⟩ := hf3
              have hq3 : q3 ≤ E.l.length := HA3.out q3 b rfl
              have HROW : Hid (RowQ (fun j => (w2.heap.size + 1) ≤ j ∧ j < w3.heap.size) w3 (StQ (fun j => (w2.heap.size + 1) ≤ j ∧ j < w3.heap.size) w3 m) b ba) :=
                have h2 : ∀ j, Mad (w2.alloc (dffO 4 s 0 ⟨#[]⟩ 0 ⟨#[]⟩ 0 (.slice none 0 0) (.slice none 0 0))) w3 j → ((w2.heap.size + 1) ≤ j ∧ j < w3.heap.size) ∧ w3.heap[j]? = w3.heap[j]? := fun j hj => ⟨⟨by have h1 := hj.1; (try simp only [asz] at h1); (try simp only [World.setCell_size] at h1); exact h1, hj.2⟩, rfl⟩
                RowQ.keep h2 (fun _ _ _ _ hx => StQ.keep h2 hx) hrow
              have HKB : Hid (Kept (w2.heap.size + 1) w3.heap.size w3 w3) := Kept.refl _ _ _
              clear hrow
              have HGT3 : Hid (w.grownBy (w3.setCell ⟨w2.heap.size, 8, none⟩ (.slice ba b.length bc)) (some E.R)) := grown_set' (HG3.out) (Nat.le_of_lt hwS) _
              have HDT3 : Hid (Rdy E (w3.setCell ⟨w2.heap.size, 8, none⟩ (.slice ba b.length bc)) q3 op) := Rdy.set h.out (hd3) G (HG3.out) (a := ⟨w2.heap.size, 8, none⟩) (Nat.le_of_lt hwS) _
              have HZT3 : Hid ((w3.setCell ⟨w2.heap.size, 8, none⟩ (.slice ba b.length bc)).heap[w.heap.size]? = some ZDf) := (Below.heap_setCell _ ⟨w2.heap.size, 8, none⟩ _ _ (by show w.heap.size ≠ w2.heap.size; omega)).trans (HZ3.out)
              have HST3 : Hid ((w3.setCell ⟨w2.heap.size, 8, none⟩ (.slice ba b.length bc)).heap[w2.heap.size]? = some (dffO 4 s 0 ⟨#[]⟩ 0 ⟨#[]⟩ 0 (.slice none 0 0) (.slice ba b.length bc))) := df_set8 HS3.out _
              have HKB_T3 : Hid (Kept (w2.heap.size + 1) w3.heap.size w3 (w3.setCell ⟨w2.heap.size, 8, none⟩ (.slice ba b.length bc))) := (HKB.out).set (p := ⟨w2.heap.size, 8, none⟩) (.inl (by show w2.heap.size < _; omega)) _
              obtain ⟨⟨x0, x1, x2, x3, x4, x5, x6, x7, x8⟩, f0, f1, f2, f3, f4, f5, f6, f7, f8⟩ := df_cells HS3.out
              clear hd3
              have HRr : Hid (r = .ok (q3, ⟨4, s, Rp.T0, Rp.T0, 0, [], b⟩)) := HE3.out
              obtain ⟨⟨z0, z1, z2, z3, z4, z5, z6, z7, z8⟩, y0, y1, y2, y3, y4, y5, y6, y7, y8⟩ := df_cells HZ3.out
              have hne : w.heap.size ≠ w2.heap.size := by omega
              go_wp2
              refine bodyPost_ret (v := dffV ⟨4, s, Rp.T0, Rp.T0, 0, [], b⟩ none 0 ba bc) (by simp [results, Tryd.results51, go_sem, z0, z1, z2, z3, z4, z5, z6, z7, z8]) rfl ?_
              exact df_end G h.out HGT3.out HDT3.out HRr.out ⟨hs, (by show (ByteArray.mk #[]).size ≤ 6000; decide), (by show (ByteArray.mk #[]).size ≤ 6000; decide), (PmsQ.nil _ _ _), hbl, m, HROW.out.later HKB_T3.out (by omega) (by (try simp only [World.setCell_size]); omega)⟩

end Go.Proofs.YtlnikpcoejpknaaDoor

/- A program's row of definitions as it grows. -/
namespace Go.Proofs.YtlnikpcoejpknaaDoor
open Go.RowKit

theorem Tryd.info47 : (Tryd.prog.info? 47).map (fun i => (i.zero, i.size, i.bytes)) = some (some (.agg #[.int .i64 0, .string ⟨#[]⟩, .int .i64 0, .string ⟨#[]⟩, .int .i64 0, .string ⟨#[]⟩, .int .i64 0, .slice none 0 0, .slice none 0 0]), 9, 128) := by kernel_rfl

abbrev Itm9 := Sy.Df × (Option Addr × Nat) × (Option Addr × Nat)
abbrev itc9 (i : Itm9) : List Value := [.int .i64 i.1.kind, .string i.1.name, .int .i64 i.1.ty.kind, .string i.1.ty.gen, .int .i64 i.1.takes.kind, .string i.1.takes.gen, .int .i64 i.1.cap, .slice i.2.1.1 i.1.params.length i.2.1.2, .slice i.2.2.1 i.1.body.length i.2.2.2]
def cells9 (its : List Itm9) : List Value := its.flatMap itc9

theorem cells9_len : ∀ its, (cells9 its).length = its.length * 9
  | [] => rfl
  | i :: its => by have := cells9_len its; simp only [cells9, List.flatMap_cons, List.length_append, List.length_cons] at *; simp only [this, List.length_nil]; omega
theorem cells9_app (l : List Itm9) (i : Itm9) : cells9 (l ++ [i]) = cells9 l ++ itc9 i := by simp [cells9]
theorem cells9_get : ∀ (its : List Itm9) (i : Nat) (it : Itm9), its[i]? = some it → ∀ j, j < 9 → (cells9 its)[i * 9 + j]? = (itc9 it)[j]?
  | [], i, it, h, _, _ => by simp at h
  | x :: its, 0, it, h, j, hj => by
    simp at h; subst h
    simp only [cells9, List.flatMap_cons, Nat.zero_mul, Nat.zero_add]
    rw [List.getElem?_append_left (by simpa using hj)]
  | x :: its, i + 1, it, h, j, hj => by
    have ih := cells9_get its i it (by simpa using h) j hj
    simp only [cells9, List.flatMap_cons] at ih ⊢
    rw [List.getElem?_append_right (by simp; omega)]
    have e : (i + 1) * 9 + j - (itc9 x).length = i * 9 + j := by simp; omega
    rw [e, ih]
theorem itc9_one (it : Itm9) : ∀ u ∈ itc9 it, u.oneCell' = true := by
  intro u ho
  simp only [List.mem_cons, List.not_mem_nil, or_false] at ho
  rcases ho with rfl | rfl | rfl | rfl | rfl | rfl | rfl | rfl | rfl <;> rfl
theorem itc9_news (W : World) (it : Itm9) (t : TypeId) : ∀ j u, (itc9 it)[j]? = some u → (W.alloc (.cells (itc9 it).toArray t)).cell? ((⟨W.heap.size, 0, none⟩ : Addr).add j) = some u := by
  intro j u hu
  have hadd : (⟨W.heap.size, 0, none⟩ : Addr).add j = ⟨W.heap.size, j, none⟩ := by unfold Addr.add; split <;> simp_all
  rw [hadd, World.cell?_alloc_mark]
  simpa using hu

/-- Definitions lie at a, in blocks of which Q holds. -/
def DfsQ (Q : Nat → Prop) (w : World) (l : List Sy.Df) (a : Option Addr) : Prop :=
  ∀ i d, l[i]? = some d → ∃ b off pa pc ba bc, a = some ⟨b, off, none⟩ ∧ Q b ∧
      w.cell? ⟨b, off + i * 9, none⟩ = some (.int .i64 d.kind) ∧ w.cell? ⟨b, off + i * 9 + 1, none⟩ = some (.string d.name) ∧
      w.cell? ⟨b, off + i * 9 + 2, none⟩ = some (.int .i64 d.ty.kind) ∧ w.cell? ⟨b, off + i * 9 + 3, none⟩ = some (.string d.ty.gen) ∧
      w.cell? ⟨b, off + i * 9 + 4, none⟩ = some (.int .i64 d.takes.kind) ∧ w.cell? ⟨b, off + i * 9 + 5, none⟩ = some (.string d.takes.gen) ∧
      w.cell? ⟨b, off + i * 9 + 6, none⟩ = some (.int .i64 d.cap) ∧ w.cell? ⟨b, off + i * 9 + 7, none⟩ = some (.slice pa d.params.length pc) ∧
      w.cell? ⟨b, off + i * 9 + 8, none⟩ = some (.slice ba d.body.length bc) ∧ DfQ Q w d pa ba
theorem DfsQ.toIn {Q : Nat → Prop} {w : World} {B : Nat} (hQ : ∀ b, Q b → b < B) {l : List Sy.Df} {a : Option Addr} (h : DfsQ Q w l a) (hl : l.length ≤ 6000) : DfsIn B w l a := ⟨by unfold maxLen; omega, fun i d hi => by
  obtain ⟨b, off, pa, pc, ba, bc, ha, hb, r1, r2, r3, r4, r5, r6, r7, r8, r9, hin⟩ := h i d hi
  exact ⟨b, off, pa, pc, ba, bc, ha, hQ b hb, r1, r2, r3, r4, r5, r6, r7, r8, r9, hin.toIn hQ⟩⟩
theorem DfsQ.keep {Q Q' : Nat → Prop} {w w' : World} (hk : ∀ b, Q b → Q' b ∧ w'.heap[b]? = w.heap[b]?) {l : List Sy.Df} {a : Option Addr} (h : DfsQ Q w l a) : DfsQ Q' w' l a := fun i d hi => by
  obtain ⟨b, off, pa, pc, ba, bc, ha, hb, r1, r2, r3, r4, r5, r6, r7, r8, r9, hin⟩ := h i d hi
  have hc : ∀ o, w'.cell? ⟨b, o, none⟩ = w.cell? ⟨b, o, none⟩ := fun o => World.cell?_of_block (a := ⟨b, o, none⟩) (hk b hb).2
  exact ⟨b, off, pa, pc, ba, bc, ha, (hk b hb).1, (hc _).trans r1, (hc _).trans r2, (hc _).trans r3, (hc _).trans r4, (hc _).trans r5, (hc _).trans r6, (hc _).trans r7, (hc _).trans r8, (hc _).trans r9, hin.keep hk⟩

/-- A program's definitions, out of its row. -/
theorem own_dfs {Q : Nat → Prop} {w : World} {B n : Nat} {v : Value} {its : List Itm9} (hown : w.ownsRow B 47 9 v n (cells9 its)) (hit : ∀ it ∈ its, DfQ Q w it.1 it.2.1.1 it.2.2.1) (hQ : ∀ g, v.ownBlock = some g → Q g) :
    ∃ a c, v = .slice a its.length c ∧ DfsQ Q w (its.map (·.1)) a := by
  have hl : its.length = n := by have := hown.1; rw [cells9_len] at this; omega
  subst hl
  rcases hown.2 with ⟨rfl, h0⟩ | ⟨g, cap, cur, rfl, hg, hh, _, _, _, ht⟩
  · refine ⟨none, 0, by rw [h0], fun i k hk => ?_⟩
    have := (List.getElem?_eq_some_iff.1 hk).1
    simp at this
    omega
  · refine ⟨_, cap, rfl, fun i k hk => ?_⟩
    obtain ⟨it, hi, rfl⟩ : ∃ it, its[i]? = some it ∧ it.1 = k := by simpa using hk
    have hlt := (List.getElem?_eq_some_iff.1 hi).1
    have key : ∀ j, j < 9 → w.cell? ⟨g, 0 + i * 9 + j, none⟩ = (itc9 it)[j]? := by
      intro j hj
      have e := cells9_get its i it hi j hj
      rw [← ht, List.getElem?_take, if_pos (by omega)] at e
      rw [Nat.zero_add, ← e]
      simp [World.cell?, hh]
    exact ⟨g, 0, it.2.1.1, it.2.1.2, it.2.2.1, it.2.2.2, rfl, hQ g rfl, key 0 (by decide), key 1 (by decide), key 2 (by decide), key 3 (by decide), key 4 (by decide), key 5 (by decide), key 6 (by decide), key 7 (by decide), key 8 (by decide), hit it (List.mem_of_getElem? hi)⟩

/-- What holds at the head of the program's loop. -/
structure PgAt (E : Env) (op : Int) (w : World) (r : Res (List Sy.Df)) (its : List Itm9) (q fu : Nat) (v : Value) (W : World) : Prop where
  own : W.ownsRow w.heap.size 47 9 v its.length (cells9 its)
  sts : ∀ it ∈ its, DfQ (fun b => w.heap.size ≤ b ∧ b < W.heap.size ∧ v.ownBlock ≠ some b) W it.1 it.2.1.1 it.2.2.1
  rdy : Rdy E W q op
  le : q ≤ E.l.length
  grown : w.grownBy W (some E.R)
  eq : r = Rp.dfs E.l E.en fu (its.map (·.1)) q
  fuel : E.l.length < q + fu
  few : its.length ≤ q

/-- The row, further on. -/
theorem PgAt.kept {E : Env} {op : Int} {w : World} {r : Res (List Sy.Df)} {its : List Itm9} {q fu : Nat} {v : Value} {W W' : World} (b : PgAt E op w r its q fu v W) (hR : E.R < w.heap.size) (hg : W.grownBy W' (some E.R)) :
    W'.ownsRow w.heap.size 47 9 v its.length (cells9 its) ∧ (∀ it ∈ its, DfQ (fun b => w.heap.size ≤ b ∧ b < W'.heap.size ∧ v.ownBlock ≠ some b) W' it.1 it.2.1.1 it.2.2.1) ∧ w.grownBy W' (some E.R) := by
  have hs := hg.size
  refine ⟨b.own.kept hg ?_, fun it hit => (b.sts it hit).keep (fun k hk => ⟨⟨hk.1, by omega, hk.2.2⟩, hg.block k hk.2.1 (by simp; omega)⟩), grown_tr b.grown hg⟩
  cases hv : v.ownBlock with
  | none => exact .inl rfl
  | some g => right; have := b.own.lt g hv; simp; omega

/-- One statement more. -/
theorem PgAt.next {E : Env} {op : Int} {w : World} {r : Res (List Sy.Df)} {its : List Itm9} {q fu : Nat} {v : Value} {W Wk w3 w4 : World} {q2 g cap : Nat} {it : Itm9} {ob : Obj} (G : Good E) {p : Nat} {op0 : Int} (h0 : Rdy E w p op0) (b : PgAt E op w r its q (fu + 1) v W) (hg1 : W.grownBy Wk (some E.R)) (hg2 : Wk.grownBy w3 (some E.R)) (hd3 : Rdy E w3 q2 op)
    (hit : DfQ (Mad Wk w3) w3 it.1 it.2.1.1 it.2.2.1) (hq : q < q2 ∧ q2 ≤ E.l.length) (hr : r = Rp.dfs E.l E.en fu ((its.map (·.1)) ++ [it.1]) q2)
    (hown : w4.ownsRow w.heap.size 47 9 (.slice (some ⟨g, 0, none⟩) (its.length + 1) cap) (its.length + 1) (cells9 its ++ itc9 it)) (hgr : (w3.alloc ob).grownBy w4 v.ownBlock) (hw : v.ownBlock = some g ∨ g = (w3.alloc ob).heap.size) :
    PgAt E op w r (its ++ [it]) q2 fu (.slice (some ⟨g, 0, none⟩) (its.length + 1) cap) w4 := by
  have hR := h0.lt
  obtain ⟨o3, s3, g3⟩ := b.kept hR (grown_tr hg1 hg2)
  have hsk := hg1.size
  have hs3 := hg2.size
  have hs4 := hgr.size
  have hsw := b.grown.size
  simp only [asz] at hs4
  have hvb : ∀ k, v.ownBlock = some k → w.heap.size ≤ k ∧ k < W.heap.size := fun k hk => b.own.lt k hk
  have far : ∀ k, k < w3.heap.size → v.ownBlock ≠ some k → w4.heap[k]? = w3.heap[k]? := fun k hk hn => (hgr.block k (by simp; omega) (fun e => hn e.symm)).trans (Below.heap_alloc _ _ _ hk)
  have hgne : ∀ k, k < w3.heap.size → v.ownBlock ≠ some k → (Value.slice (some ⟨g, 0, none⟩) (its.length + 1) cap).ownBlock ≠ some k := by
    intro k hk hn e
    simp only [Value.ownBlock, Option.some.injEq] at e
    rcases hw with e2 | e2
    · exact hn (by rw [e2, e])
    · simp only [asz] at e2; omega
  have hgw : w.grownBy w4 (some E.R) := ⟨hgr.os.trans g3.os, hgr.tape.trans g3.tape, hgr.output.trans g3.output, by omega, fun k hk hn => by
    rw [far k (by omega) (fun e => by have := (hvb k e).1; omega)]; exact g3.block k hk hn⟩
  refine ⟨by rw [cells9_app]; simpa using hown, fun i hi => ?_, h0.grown G hgw ((far E.R (by omega) (fun e => by have := (hvb _ e).1; omega)).trans hd3.rd), hq.2, hgw, by rw [List.map_append]; exact hr, by have := b.fuel; omega, by have := b.few; simp; omega⟩
  rcases List.mem_append.1 hi with hi | hi
  · exact ((s3 i hi).keep (fun k hk => ⟨⟨hk.1, by omega, hgne k hk.2.1 hk.2.2⟩, far k hk.2.1 hk.2.2⟩))
  · simp only [List.mem_singleton] at hi
    subst hi
    have hn : ∀ k, Mad Wk w3 k → v.ownBlock ≠ some k := fun k hk e => by have h1 := (hvb k e).2; have h2 := hk.1; omega
    exact (hit.keep (fun k hk => ⟨⟨by have := hk.1; omega, by have := hk.2; omega, hgne k hk.2 (hn k hk)⟩, far k hk.2 (hn k hk)⟩))

/-- A program as a value. -/
def PgV (w : World) : World → List Sy.Df → Value → Prop := fun w' l v => ∃ a c, v = .slice a l.length c ∧ l.length ≤ 6000 ∧ DfsQ (Mad w w') w' l a

/-- The program, at its end. -/
theorem PgAt.out {E : Env} {op : Int} {w : World} {r : Res (List Sy.Df)} {its : List Itm9} {q fu : Nat} {v : Value} {W W' : World} (b : PgAt E op w r its q fu v W) (hR : E.R < w.heap.size) (few : E.l.length ≤ 6000) (hg : W.grownBy W' (some E.R)) : PgV w W' (its.map (·.1)) v := by
  obtain ⟨o3, s3, g3⟩ := b.kept hR hg
  obtain ⟨a, c, hv, hq⟩ := own_dfs (Q := Mad w W') o3 (fun it hit => (s3 it hit).keep (fun k hk => ⟨⟨hk.1, hk.2.1⟩, rfl⟩)) (fun g hgg => o3.lt g hgg)
  exact ⟨a, c, by rw [hv]; simp, by have := b.few; have := b.le; simp; omega, hq⟩

theorem Rp.box_adv (l : List Lx.Tk) (en : Nat) : Rp.Adv l (Rp.box l en) := by
  intro p q x hp h
  obtain ⟨q1, x1, _, a1, b1, h⟩ := Rp.then_adv (Rp.want_adv l en _) hp h
  obtain ⟨q2, x2, _, a2, b2, h⟩ := Rp.then_adv (Rp.name_adv l en) b1 h
  obtain ⟨q3, x3, _, a3, b3, h⟩ := Rp.then_adv (Rp.typ_adv l en) b2 h
  obtain ⟨q4, x4, _, a4, b4, h⟩ := Rp.then_adv (Rp.places_adv l en) b3 h
  obtain ⟨q5, x5, _, a5, b5, h⟩ := Rp.then_adv (Rp.want_adv l en _) b4 h
  simp at h
  omega
theorem Rp.function_adv (l : List Lx.Tk) (en : Nat) : Rp.Adv l (Rp.function l en) := by
  intro p q x hp h
  obtain ⟨q1, x1, _, a1, b1, h⟩ := Rp.then_adv (Rp.want_adv l en _) hp h
  obtain ⟨q2, x2, _, a2, b2, h⟩ := Rp.then_adv (Rp.name_adv l en) b1 h
  obtain ⟨q3, x3, _, a3, b3, h⟩ := Rp.then_adv (Rp.params_adv l en) b2 h
  obtain ⟨q4, x4, _, a4, b4, h⟩ := Rp.then_adv (Rp.typ_adv l en) b3 h
  obtain ⟨q5, x5, _, a5, b5, h⟩ := Rp.then_adv (Rp.body_adv l en 200) b4 h
  simp at h
  omega
theorem Rp.generator_adv (l : List Lx.Tk) (en : Nat) : Rp.Adv l (Rp.generator l en) := by
  intro p q x hp h
  obtain ⟨q1, x1, _, a1, b1, h⟩ := Rp.then_adv (Rp.want_adv l en _) hp h
  obtain ⟨q2, x2, _, a2, b2, h⟩ := Rp.then_adv (Rp.name_adv l en) b1 h
  obtain ⟨q3, x3, _, a3, b3, h⟩ := Rp.then_adv (Rp.params_adv l en) b2 h
  obtain ⟨q4, x4, _, a4, b4, h⟩ := Rp.then_adv (Rp.want_adv l en _) b3 h
  obtain ⟨q5, x5, _, a5, b5, h⟩ := Rp.then_adv (Rp.typ_adv l en) b4 h
  obtain ⟨q6, x6, _, a6, b6, h⟩ := Rp.then_adv (Rp.want_adv l en _) b5 h
  obtain ⟨q7, x7, _, a7, b7, h⟩ := Rp.then_adv (Rp.typ_adv l en) b6 h
  obtain ⟨q8, x8, _, a8, b8, h⟩ := Rp.then_adv (Rp.body_adv l en 200) b7 h
  simp at h
  omega
theorem Rp.task_adv (l : List Lx.Tk) (en : Nat) : Rp.Adv l (Rp.task l en) := by
  intro p q x hp h
  obtain ⟨q1, x1, _, a1, b1, h⟩ := Rp.then_adv (Rp.want_adv l en _) hp h
  obtain ⟨q2, x2, _, a2, b2, h⟩ := Rp.then_adv (Rp.name_adv l en) b1 h
  obtain ⟨q3, x3, _, a3, b3, h⟩ := Rp.then_adv (Rp.body_adv l en 200) b2 h
  simp at h
  omega
theorem Rp.df_adv (l : List Lx.Tk) (en : Nat) : Rp.Adv l (Rp.df l en) := by
  intro p q x hp h
  unfold Rp.df at h
  split at h
  · exact Rp.box_adv l en p q x hp h
  split at h
  · exact Rp.function_adv l en p q x hp h
  split at h
  · exact Rp.generator_adv l en p q x hp h
  exact Rp.task_adv l en p q x hp h

end Go.Proofs.YtlnikpcoejpknaaDoor

