/- The walk of choice. -/
import Derived.Test.YtlnikpcoejpknaaGreatDoorM21
import Derived.Test.YtlnikpcoejpknaaGreatDoorM16
namespace Go.Proofs.YtlnikpcoejpknaaGreatDoor
open Go.RowKit

def CBody (E : Env) (d : Nat) : Prop := ∀ (p : Nat) (r : Res (List Sy.St)) (w : World), Hid (Rdy E w p (200 - (d : Int))) → p ≤ E.l.length → Hid (r = Rp.body E.l E.en d p) →
  Calls Tryz.prog 74 #[.pointer (some ⟨E.R, 0, none⟩)] w fun e w' => Ends E (200 - (d : Int)) w r (BdV w) e w'
def CChoice (E : Env) (d : Nat) : Prop := ∀ (p : Nat) (r : Res Sy.St) (w : World), Hid (Rdy E w p (200 - (d : Int))) → p ≤ E.l.length → Hid (r = Rp.choice E.l E.en d (Rp.body E.l E.en d) p) →
  Calls Tryz.prog 127 #[.pointer (some ⟨E.R, 0, none⟩)] w fun e w' => Ends E (200 - (d : Int)) w r (StV w) e w'


/-- A statement with an expression and two bodies. -/
theorem StQ.full {Q : Nat → Prop} {w : World} {n m o : Nat} {k : Int} {s : ByteArray} {x : Sy.Ex} {b e : List Sy.St} {xa ba ea : Option Addr} (hs : s.size ≤ 6000) (hx : ExQ Q w n x xa) (hb : RowQ Q w (StQ Q w m) b ba) (he : RowQ Q w (StQ Q w o) e ea) (hbl : b.length ≤ 6000) (hel : e.length ≤ 6000) : StQ Q w (max m o + 1) ⟨k, s, x, b, e⟩ xa ba ea :=
  ⟨hs, ⟨n, hx⟩, hbl, hel, hb.mono (fun _ _ _ _ => StQ.up (Nat.le_max_left _ _)), he.mono (fun _ _ _ _ => StQ.up (Nat.le_max_right _ _))⟩

/-- What was made between two marks is as it was. -/
def Kept (a b : Nat) (w w' : World) : Prop := ∀ k, a ≤ k → k < b → w'.heap[k]? = w.heap[k]?
theorem Kept.grown {a b : Nat} {w u u' : World} {R : Nat} (h : Kept a b w u) (hg : u.grownBy u' (some R)) (hR : R < a) (hb : b ≤ u.heap.size) : Kept a b w u' := fun k h1 h2 => (hg.block k (by omega) (by simp; omega)).trans (h k h1 h2)
theorem Kept.set {a b : Nat} {w u : World} (h : Kept a b w u) {p : Addr} (hp : p.block < a ∨ b ≤ p.block) (v : Value) : Kept a b w (u.setCell p v) := fun k h1 h2 => (Below.heap_setCell _ _ _ _ (by omega)).trans (h k h1 h2)
theorem Kept.new {a b : Nat} {w u : World} (h : Kept a b w u) (hb : b ≤ u.heap.size) (o : Obj) : Kept a b w (u.alloc o) := fun k h1 h2 => (Below.heap_alloc _ _ _ (by omega)).trans (h k h1 h2)
theorem Kept.refl (a b : Nat) (w : World) : Kept a b w w := fun _ _ _ => rfl


/-- The end, where all that was read lies as it did. -/
theorem full_q {w w1 w2 u : World} {n m o : Nat} {k : Int} {s : ByteArray} {x : Sy.Ex} {b e : List Sy.St} {xa ba ea : Option Addr} (hs : s.size ≤ 6000) (hx : ExQ (fun b => w.heap.size < b ∧ b < w1.heap.size) w1 n x xa) (hb : RowQ (fun j => w1.heap.size < j ∧ j < w2.heap.size) w2 (StQ (fun j => w1.heap.size < j ∧ j < w2.heap.size) w2 m) b ba)
    (he : RowQ (fun b => w.heap.size < b ∧ b < u.heap.size) u (StQ (fun b => w.heap.size < b ∧ b < u.heap.size) u o) e ea) (hbl : b.length ≤ 6000) (hel : e.length ≤ 6000) (kx : Kept (w.heap.size + 1) w1.heap.size w1 u) (kb : Kept (w1.heap.size + 1) w2.heap.size w2 u) (h1 : w.heap.size < w1.heap.size) (h2 : w1.heap.size ≤ w2.heap.size) (h3 : w2.heap.size ≤ u.heap.size) :
    StQ (fun b => w.heap.size < b ∧ b < u.heap.size) u (max m o + 1) ⟨k, s, x, b, e⟩ xa ba ea := by
  have hk2 : ∀ j, (w1.heap.size < j ∧ j < w2.heap.size) → (w.heap.size < j ∧ j < u.heap.size) ∧ u.heap[j]? = w2.heap[j]? := fun j hj => ⟨⟨by omega, by omega⟩, kb j hj.1 hj.2⟩
  exact StQ.full hs (hx.keep (fun j hj => ⟨⟨hj.1, by omega⟩, kx j hj.1 hj.2⟩)) (RowQ.keep hk2 (fun _ _ _ _ hx => StQ.keep hk2 hx) hb) he hbl hel

set_option maxRecDepth 100000 in
set_option maxHeartbeats 2000000 in
theorem choice_f (E : Env) (G : Good E) (d : Nat) (hX : Hid (CExpr E d)) (hB : Hid (CBody E d)) : CChoice E d := by
  intro p r w h hqa hr
  have hR := h.out.lt
  have HEA : Hid (r = Rp.choice E.l E.en d (Rp.body E.l E.en d) p) := hr
  go_enter Tryz.func127, Tryz.ntmps127
  have HDA : Hid (Rdy E (w.alloc ZS) p (200 - (d : Int))) := h.out.alloc G _
  have HGA : Hid (w.grownBy (w.alloc ZS) (some E.R)) := grown_alloc (grown_bel (Below.refl _ w)) _
  have HZA : Hid ((w.alloc ZS).heap[w.heap.size]? = some ZS) := heap_alloc_new w ZS
  have hNA : w.heap.size < (w.alloc ZS).heap.size := by simp
  obtain ⟨r1, hr1⟩ : ∃ r1, r1 = Rp.ex E.l E.en d p := ⟨_, rfl⟩
  have HR1 := hide2 hr1
  have HE1 : Hid (r = Rp.andThen r1 fun q1 x => Rp.andThen (Rp.body E.l E.en d q1) fun q2 b => if tk E.l q2 ⟨#[101, 108, 115, 101]⟩ then Rp.andThen (Rp.body E.l E.en d (q2 + 1)) fun q3 e => .ok (q3, ⟨3, ⟨#[]⟩, x, b, e⟩) else .ok (q2, ⟨3, ⟨#[]⟩, x, b, []⟩)) := by rw [HEA.out, hr1]; rfl
  have HA1 : Hid (∀ q x, r1 = .ok (q, x) → q ≤ E.l.length) := fun q x hx => (Rp.ex_adv E.l E.en d p q x hqa (by rw [← hr1, hx])).2
  clear hr1
  go_wp2_with fail
  refine (hX.out p r1 _ HDA hqa HR1).mono ?_
  rintro e w1 ⟨hg1, hf1⟩
  have HG1 : Hid (w.grownBy w1 (some E.R)) := grown_tr HGA.out hg1
  have HZ1 : Hid (w1.heap[w.heap.size]? = some ZS) := kept_on hg1 (by omega) HZA.out
  have hw1 : w.heap.size < w1.heap.size := lt_of_block HZ1.out
  clear hg1
  cases r1 with
  | error er =>
    obtain ⟨e1, e2⟩ := er
    obtain ⟨rfl, hd1⟩ := hf1
    have HD1 := hide2 hd1
    have HRr : Hid (r = .error (e1, e2)) := HE1.out
    clear hd1
    go_wp2
    exact ⟨rfl, HG1.out, by rw [HRr.out]; exact ⟨rfl, HD1.out⟩⟩
  | ok qx =>
    obtain ⟨q1, x⟩ := qx
    obtain ⟨⟨v, rfl, xa, xc, n, rfl, hq⟩, hd1⟩ := hf1
    have HD1 := hide2 hd1
    have HQ1 : Hid (ExQ (fun b => w.heap.size < b ∧ b < w1.heap.size) w1 n x xa) := hq.keep (fun b hb => ⟨⟨by have := hb.1; omega, hb.2⟩, rfl⟩)
    have hq1 : q1 ≤ E.l.length := HA1.out q1 x rfl
    obtain ⟨r2, hr2⟩ : ∃ r2, r2 = Rp.body E.l E.en d q1 := ⟨_, rfl⟩
    have HR2 := hide2 hr2
    have HE2 : Hid (r = Rp.andThen r2 fun q2 b => if tk E.l q2 ⟨#[101, 108, 115, 101]⟩ then Rp.andThen (Rp.body E.l E.en d (q2 + 1)) fun q3 e => .ok (q3, ⟨3, ⟨#[]⟩, x, b, e⟩) else .ok (q2, ⟨3, ⟨#[]⟩, x, b, []⟩)) := by rw [HE1.out, hr2]; rfl
    have HA2 : Hid (∀ q x, r2 = .ok (q, x) → q ≤ E.l.length) := fun q x hx => (Rp.body_adv E.l E.en d q1 q x hq1 (by rw [← hr2, hx])).2
    clear hr2 hd1 hq
    go_wp2_with fail
    refine (hB.out q1 r2 _ (hide2 (HD1.out.alloc G _)) hq1 HR2).mono ?_
    rintro e w2 ⟨hg2, hf2⟩
    have HG2 : Hid (w.grownBy w2 (some E.R)) := grown_tr (grown_alloc HG1.out _) hg2
    have hs2 := hg2.size
    simp only [asz] at hs2
    have HZ2 : Hid (w2.heap[w.heap.size]? = some ZS) := kept_on hg2 (by omega) ((Below.heap_alloc _ _ _ hw1).trans HZ1.out)
    have HS2 : Hid (w2.heap[w1.heap.size]? = some (sttO 3 ⟨#[]⟩ x.kind x.n x.name (.slice xa x.kids.length xc) (.slice none 0 0) (.slice none 0 0))) := kept_on hg2 (by omega) (heap_alloc_new w1 _)
    have HKX2 : Hid (Kept (w.heap.size + 1) w1.heap.size w1 w2) := ((Kept.refl _ _ w1).new (Nat.le_refl _) _).grown hg2 (by omega) (by simp)
    clear hg2
    cases r2 with
    | error er =>
      obtain ⟨e1, e2⟩ := er
      obtain ⟨rfl, hd2⟩ := hf2
      have HD2 := hide2 hd2
      have HRr : Hid (r = .error (e1, e2)) := HE2.out
      clear hd2
      go_wp2
      exact ⟨rfl, HG2.out, by rw [HRr.out]; exact ⟨rfl, HD2.out⟩⟩
    | ok qx =>
      obtain ⟨q2, b⟩ := qx
      obtain ⟨⟨v, rfl, ba, bc, m, rfl, hbl, hrow⟩, hd2⟩ := hf2
      have hq2 : q2 ≤ E.l.length := HA2.out q2 b rfl
      have HROW : Hid (RowQ (fun j => w1.heap.size < j ∧ j < w2.heap.size) w2 (StQ (fun j => w1.heap.size < j ∧ j < w2.heap.size) w2 m) b ba) :=
        have h2 : ∀ j, Mad (w1.alloc (sttO 3 ⟨#[]⟩ x.kind x.n x.name (.slice xa x.kids.length xc) (.slice none 0 0) (.slice none 0 0))) w2 j → (w1.heap.size < j ∧ j < w2.heap.size) ∧ w2.heap[j]? = w2.heap[j]? := fun j hj => ⟨⟨by have := hj.1; simp only [asz] at this; omega, hj.2⟩, rfl⟩
        RowQ.keep h2 (fun _ _ _ _ hx => StQ.keep h2 hx) hrow
      have HGU : Hid (w.grownBy (w2.setCell ⟨w1.heap.size, 6, none⟩ (.slice ba b.length bc)) (some E.R)) := grown_set' HG2.out (Nat.le_of_lt hw1) _
      have HDU : Hid (Rdy E (w2.setCell ⟨w1.heap.size, 6, none⟩ (.slice ba b.length bc)) q2 (200 - (d : Int))) := Rdy.set h.out hd2 G HG2.out (Nat.le_of_lt hw1) _
      have HSU : Hid ((w2.setCell ⟨w1.heap.size, 6, none⟩ (.slice ba b.length bc)).heap[w1.heap.size]? = some (sttO 3 ⟨#[]⟩ x.kind x.n x.name (.slice xa x.kids.length xc) (.slice ba b.length bc) (.slice none 0 0))) := st_set6 HS2.out
      have HZU : Hid ((w2.setCell ⟨w1.heap.size, 6, none⟩ (.slice ba b.length bc)).heap[w.heap.size]? = some ZS) := (Below.heap_setCell _ _ _ _ (by show w.heap.size ≠ w1.heap.size; omega)).trans HZ2.out
      have HKXU : Hid (Kept (w.heap.size + 1) w1.heap.size w1 (w2.setCell ⟨w1.heap.size, 6, none⟩ (.slice ba b.length bc))) := HKX2.out.set (.inr (Nat.le_refl _)) _
      have HKBU : Hid (Kept (w1.heap.size + 1) w2.heap.size w2 (w2.setCell ⟨w1.heap.size, 6, none⟩ (.slice ba b.length bc))) := (Kept.refl (w1.heap.size + 1) w2.heap.size w2).set (p := ⟨w1.heap.size, 6, none⟩) (.inl (Nat.lt_succ_self _)) _
      obtain ⟨⟨x0, x1, x2, x3, x4, x5, x6, x7⟩, f0, f1, f2, f3, f4, f5, f6, f7⟩ := st_cells HS2.out
      clear hd2 hrow
      obtain ⟨t, ht⟩ : ∃ t, t = tk E.l q2 ⟨#[101, 108, 115, 101]⟩ := ⟨_, rfl⟩
      have HT := hide2 ht
      have HE3 : Hid (r = if t then Rp.andThen (Rp.body E.l E.en d (q2 + 1)) fun q3 e => .ok (q3, ⟨3, ⟨#[]⟩, x, b, e⟩) else .ok (q2, ⟨3, ⟨#[]⟩, x, b, []⟩)) := by rw [HE2.out, ht]; rfl
      have HA3 : Hid (t = true → q2 + 1 ≤ E.l.length) := fun e => Rp.tk_step (by rw [← ht]; exact e)
      clear ht
      go_wp2_with fail
      refine (take_f E G q2 _ ⟨#[101, 108, 115, 101]⟩ t _ _ HDU hq2 HT rfl).mono ?_
      rintro e w3 ⟨rfl, hd3, hg3⟩
      have HG3 : Hid (w.grownBy w3 (some E.R)) := grown_tr HGU.out hg3
      have HD3 := hide2 hd3
      have hs3 := hg3.size
      simp only [World.setCell_size] at hs3
      have hZ3 : w3.heap[w.heap.size]? = some ZS := kept_on hg3 (by omega) HZU.out
      have hS3 : w3.heap[w1.heap.size]? = some (sttO 3 ⟨#[]⟩ x.kind x.n x.name (.slice xa x.kids.length xc) (.slice ba b.length bc) (.slice none 0 0)) := kept_on hg3 (by omega) HSU.out
      have HKX3 : Hid (Kept (w.heap.size + 1) w1.heap.size w1 w3) := HKXU.out.grown hg3 (by omega) (by simp only [World.setCell_size]; omega)
      have HKB3 : Hid (Kept (w1.heap.size + 1) w2.heap.size w2 w3) := HKBU.out.grown hg3 (by omega) (by simp only [World.setCell_size]; omega)
      clear hg3 hd3 x0 x1 x2 x3 x4 x5 x6 x7 f0 f1 f2 f3 f4 f5 f6 f7
      cases t with
      | false =>
        have HRr : Hid (r = .ok (q2, ⟨3, ⟨#[]⟩, x, b, []⟩)) := HE3.out
        obtain ⟨⟨z0, z1, z2, z3, z4, z5, z6, z7⟩, y0, y1, y2, y3, y4, y5, y6, y7⟩ := st_cells hZ3
        obtain ⟨⟨x0, x1, x2, x3, x4, x5, x6, x7⟩, _⟩ := st_cells hS3
        clear hZ3 hS3
        go_wp2
        refine bodyPost_ret (v := sttV ⟨3, ⟨#[]⟩, x, b, []⟩ xa xc ba bc none 0) (by simp [results, Tryz.results127, go_sem, z0, z1, z2, z3, z4, z5, z6, z7]) rfl ?_
        exact st_end G h.out HG3.out HD3.out HRr.out (full_q (by decide) HQ1.out HROW.out (RowQ.nil _ _ (StQ _ _ 0) _) hbl (Nat.zero_le _) HKX3.out HKB3.out hw1 (by omega) (by omega))
      | true =>
        have hq3 := HA3.out rfl
        obtain ⟨r4, hr4⟩ : ∃ r4, r4 = Rp.body E.l E.en d (q2 + 1) := ⟨_, rfl⟩
        have HR4 := hide2 hr4
        have HE4 : Hid (r = Rp.andThen r4 fun q3 e => .ok (q3, ⟨3, ⟨#[]⟩, x, b, e⟩)) := by rw [HE3.out, hr4]; rfl
        have HZ3 := hide2 hZ3
        have HS3 := hide2 hS3
        clear hr4 hZ3 hS3
        go_wp2_with fail
        refine (hB.out (q2 + 1) r4 _ HD3 hq3 HR4).mono ?_
        rintro e w4 ⟨hg4, hf4⟩
        have HG4 : Hid (w.grownBy w4 (some E.R)) := grown_tr HG3.out hg4
        have hs4 := hg4.size
        have HZ4 : Hid (w4.heap[w.heap.size]? = some ZS) := kept_on hg4 (by omega) HZ3.out
        have HS4 : Hid (w4.heap[w1.heap.size]? = some (sttO 3 ⟨#[]⟩ x.kind x.n x.name (.slice xa x.kids.length xc) (.slice ba b.length bc) (.slice none 0 0))) := kept_on hg4 (by omega) HS3.out
        have HKX4 : Hid (Kept (w.heap.size + 1) w1.heap.size w1 w4) := HKX3.out.grown hg4 (by omega) (by omega)
        have HKB4 : Hid (Kept (w1.heap.size + 1) w2.heap.size w2 w4) := HKB3.out.grown hg4 (by omega) (by omega)
        clear hg4
        cases r4 with
        | error er =>
          obtain ⟨e1, e2⟩ := er
          obtain ⟨rfl, hd4⟩ := hf4
          have HD4 := hide2 hd4
          have HRr : Hid (r = .error (e1, e2)) := HE4.out
          clear hd4
          go_wp2
          exact ⟨rfl, HG4.out, by rw [HRr.out]; exact ⟨rfl, HD4.out⟩⟩
        | ok qx =>
          obtain ⟨q4, el⟩ := qx
          obtain ⟨⟨v, rfl, ea, ec, o, rfl, hel, hrow4⟩, hd4⟩ := hf4
          have HRr : Hid (r = .ok (q4, ⟨3, ⟨#[]⟩, x, b, el⟩)) := HE4.out
          have HGV : Hid (w.grownBy (w4.setCell ⟨w1.heap.size, 7, none⟩ (.slice ea el.length ec)) (some E.R)) := grown_set' HG4.out (Nat.le_of_lt hw1) _
          have HDV : Hid (Rdy E (w4.setCell ⟨w1.heap.size, 7, none⟩ (.slice ea el.length ec)) q4 (200 - (d : Int))) := Rdy.set h.out hd4 G HG4.out (Nat.le_of_lt hw1) _
          have HROW4 : Hid (RowQ (fun j => w.heap.size < j ∧ j < (w4.setCell ⟨w1.heap.size, 7, none⟩ (.slice ea el.length ec)).heap.size) (w4.setCell ⟨w1.heap.size, 7, none⟩ (.slice ea el.length ec)) (StQ (fun j => w.heap.size < j ∧ j < (w4.setCell ⟨w1.heap.size, 7, none⟩ (.slice ea el.length ec)).heap.size) (w4.setCell ⟨w1.heap.size, 7, none⟩ (.slice ea el.length ec)) o) el ea) :=
            RowQ.on hrow4 (by omega) (by simp only [World.setCell_size]; exact Nat.le_refl _) (fun j h1 h2 => Below.heap_setCell _ _ _ _ (by show j ≠ w1.heap.size; omega))
          have HKXV : Hid (Kept (w.heap.size + 1) w1.heap.size w1 (w4.setCell ⟨w1.heap.size, 7, none⟩ (.slice ea el.length ec))) := HKX4.out.set (.inr (Nat.le_refl _)) _
          have HKBV : Hid (Kept (w1.heap.size + 1) w2.heap.size w2 (w4.setCell ⟨w1.heap.size, 7, none⟩ (.slice ea el.length ec))) := HKB4.out.set (p := ⟨w1.heap.size, 7, none⟩) (.inl (Nat.lt_succ_self _)) _
          obtain ⟨⟨z0, z1, z2, z3, z4, z5, z6, z7⟩, y0, y1, y2, y3, y4, y5, y6, y7⟩ := st_cells HZ4.out
          obtain ⟨⟨x0, x1, x2, x3, x4, x5, x6, x7⟩, f0, f1, f2, f3, f4, f5, f6, f7⟩ := st_cells HS4.out
          have hne : w.heap.size ≠ w1.heap.size := by omega
          clear hd4 hrow4
          go_wp2
          refine bodyPost_ret (v := sttV ⟨3, ⟨#[]⟩, x, b, el⟩ xa xc ba bc ea ec) (by simp [results, Tryz.results127, go_sem, z0, z1, z2, z3, z4, z5, z6, z7]) rfl ?_
          exact st_end G h.out HGV.out HDV.out HRr.out (full_q (by decide) HQ1.out HROW.out HROW4.out hbl hel HKXV.out HKBV.out hw1 (by omega) (by simp only [World.setCell_size]; omega))

end Go.Proofs.YtlnikpcoejpknaaGreatDoor

/- The walk of stat. -/
namespace Go.Proofs.YtlnikpcoejpknaaGreatDoor
open Go.RowKit

def CStat (E : Env) (d : Nat) : Prop := ∀ (p : Nat) (r : Res Sy.St) (w : World), Hid (Rdy E w p (200 - (d : Int))) → p ≤ E.l.length → Hid (r = Rp.stat E.l E.en d (Rp.body E.l E.en d) p) →
  Calls Tryz.prog 109 #[.pointer (some ⟨E.R, 0, none⟩)] w fun e w' => Ends E (200 - (d : Int)) w r (StV w) e w'






set_option maxRecDepth 100000 in
set_option maxHeartbeats 4000000 in
theorem stat_f (E : Env) (G : Good E) (d : Nat) (hX : Hid (CExpr E d)) (hB : Hid (CBody E d)) (hS : Hid (CSetting E d)) (hY : Hid (CSaying E d)) (hC : Hid (CChoice E d)) : CStat E d := by
  intro p r w h hp hr
  have hR := h.out.lt
  go_enter Tryz.func109, Tryz.ntmps109
  have HG0 : Hid (w.grownBy (w.alloc ZS) (some E.R)) := grown_alloc (grown_bel (Below.refl _ w)) _
  have HD0 : Hid (Rdy E (w.alloc ZS) p (200 - (d : Int))) := h.out.alloc G _
  have HZ0 : Hid ((w.alloc ZS).heap[w.heap.size]? = some ZS) := heap_alloc_new w ZS
  cases h1 : tk E.l p ⟨#[108, 101, 116]⟩ with
  | true =>
    have hp1 : p + 1 ≤ E.l.length := Rp.tk_step h1
    go_wp2_with fail
    refine (take_f E G p _ ⟨#[108, 101, 116]⟩ true (p + 1) _ HD0 hp (hide2 h1.symm) rfl).mono ?_
    rintro e v1 ⟨rfl, hd1, hg1⟩
    have HG1 : Hid (w.grownBy v1 (some E.R)) := grown_tr HG0.out hg1
    have HZ1 : Hid (v1.heap[w.heap.size]? = some ZS) := kept_on hg1 (by omega) HZ0.out
    have HD1 := hide2 hd1
    have hv1 : w.heap.size < v1.heap.size := lt_of_block HZ1.out
    clear hd1 hg1
    have HR9 : Hid (r = Rp.setting E.l E.en d 1 (p + 1)) := by unfold Hid; rw [hr.out]; unfold Rp.stat; rw [h1]; rfl
    go_wp2_with fail
    refine (hS.out 1 (p + 1) r _ HD1 hp1 HR9).mono ?_
    rintro e w8 ⟨hg8, hf8⟩
    have HGR : Hid (w.grownBy w8 (some E.R)) := grown_tr HG1.out hg8
    have hZ8 : w8.heap[w.heap.size]? = some ZS := kept_on hg8 (by omega) HZ1.out
    cases r with
    | error er =>
      obtain ⟨e1, e2⟩ := er
      obtain ⟨rfl, hd8⟩ := hf8
      have HD8 := hide2 hd8
      clear hd8 hg8 hZ8
      go_wp2
      exact ⟨rfl, HGR.out, rfl, HD8.out⟩
    | ok qx =>
      obtain ⟨q, s⟩ := qx
      obtain ⟨⟨v, rfl, xa, xc, ba, bc, ea, ec, n, rfl, hq⟩, hd8⟩ := hf8
      have HD8 := hide2 hd8
      have HQ : Hid (StQ (fun b => w.heap.size < b ∧ b < w8.heap.size) w8 n s xa ba ea) := hq.keep (fun b hb => ⟨⟨by have := hb.1; omega, hb.2⟩, rfl⟩)
      obtain ⟨⟨z0, z1, z2, z3, z4, z5, z6, z7⟩, y0, y1, y2, y3, y4, y5, y6, y7⟩ := st_cells hZ8
      clear hd8 hg8 hq hZ8
      go_wp2
      refine bodyPost_ret (v := sttV s xa xc ba bc ea ec) (by simp [results, Tryz.results109, go_sem, z0, z1, z2, z3, z4, z5, z6, z7]) rfl ?_
      exact st_end G h.out HGR.out HD8.out rfl HQ.out
  | false =>
    go_wp2_with fail
    refine (take_f E G p _ ⟨#[108, 101, 116]⟩ false p _ HD0 hp (hide2 h1.symm) rfl).mono ?_
    rintro e v1 ⟨rfl, hd1, hg1⟩
    have HG1 : Hid (w.grownBy v1 (some E.R)) := grown_tr HG0.out hg1
    have HZ1 : Hid (v1.heap[w.heap.size]? = some ZS) := kept_on hg1 (by omega) HZ0.out
    have HD1 := hide2 hd1
    have hv1 : w.heap.size < v1.heap.size := lt_of_block HZ1.out
    clear hd1 hg1
    cases h2 : tk E.l p ⟨#[105, 102]⟩ with
    | true =>
      have hp1 : p + 1 ≤ E.l.length := Rp.tk_step h2
      go_wp2_with fail
      refine (take_f E G p _ ⟨#[105, 102]⟩ true (p + 1) _ HD1 hp (hide2 h2.symm) rfl).mono ?_
      rintro e v2 ⟨rfl, hd2, hg2⟩
      have HG2 : Hid (w.grownBy v2 (some E.R)) := grown_tr HG1.out hg2
      have HZ2 : Hid (v2.heap[w.heap.size]? = some ZS) := kept_on hg2 (by omega) HZ1.out
      have HD2 := hide2 hd2
      have hv2 : w.heap.size < v2.heap.size := lt_of_block HZ2.out
      clear hd2 hg2
      have HR9 : Hid (r = Rp.choice E.l E.en d (Rp.body E.l E.en d) (p + 1)) := by unfold Hid; rw [hr.out]; unfold Rp.stat; rw [h1, h2]; rfl
      go_wp2_with fail
      refine (hC.out (p + 1) r _ HD2 hp1 HR9).mono ?_
      rintro e w8 ⟨hg8, hf8⟩
      have HGR : Hid (w.grownBy w8 (some E.R)) := grown_tr HG2.out hg8
      have hZ8 : w8.heap[w.heap.size]? = some ZS := kept_on hg8 (by omega) HZ2.out
      cases r with
      | error er =>
        obtain ⟨e1, e2⟩ := er
        obtain ⟨rfl, hd8⟩ := hf8
        have HD8 := hide2 hd8
        clear hd8 hg8 hZ8
        go_wp2
        exact ⟨rfl, HGR.out, rfl, HD8.out⟩
      | ok qx =>
        obtain ⟨q, s⟩ := qx
        obtain ⟨⟨v, rfl, xa, xc, ba, bc, ea, ec, n, rfl, hq⟩, hd8⟩ := hf8
        have HD8 := hide2 hd8
        have HQ : Hid (StQ (fun b => w.heap.size < b ∧ b < w8.heap.size) w8 n s xa ba ea) := hq.keep (fun b hb => ⟨⟨by have := hb.1; omega, hb.2⟩, rfl⟩)
        obtain ⟨⟨z0, z1, z2, z3, z4, z5, z6, z7⟩, y0, y1, y2, y3, y4, y5, y6, y7⟩ := st_cells hZ8
        clear hd8 hg8 hq hZ8
        go_wp2
        refine bodyPost_ret (v := sttV s xa xc ba bc ea ec) (by simp [results, Tryz.results109, go_sem, z0, z1, z2, z3, z4, z5, z6, z7]) rfl ?_
        exact st_end G h.out HGR.out HD8.out rfl HQ.out
    | false =>
      go_wp2_with fail
      refine (take_f E G p _ ⟨#[105, 102]⟩ false p _ HD1 hp (hide2 h2.symm) rfl).mono ?_
      rintro e v2 ⟨rfl, hd2, hg2⟩
      have HG2 : Hid (w.grownBy v2 (some E.R)) := grown_tr HG1.out hg2
      have HZ2 : Hid (v2.heap[w.heap.size]? = some ZS) := kept_on hg2 (by omega) HZ1.out
      have HD2 := hide2 hd2
      have hv2 : w.heap.size < v2.heap.size := lt_of_block HZ2.out
      clear hd2 hg2
      cases h3 : tk E.l p ⟨#[119, 104, 105, 108, 101]⟩ with
      | true =>
        have hp1 : p + 1 ≤ E.l.length := Rp.tk_step h3
        go_wp2_with fail
        refine (take_f E G p _ ⟨#[119, 104, 105, 108, 101]⟩ true (p + 1) _ HD2 hp (hide2 h3.symm) rfl).mono ?_
        rintro e v3 ⟨rfl, hd3, hg3⟩
        have HG3 : Hid (w.grownBy v3 (some E.R)) := grown_tr HG2.out hg3
        have HZ3 : Hid (v3.heap[w.heap.size]? = some ZS) := kept_on hg3 (by omega) HZ2.out
        have HD3 := hide2 hd3
        have hv3 : w.heap.size < v3.heap.size := lt_of_block HZ3.out
        clear hd3 hg3
        have HEA : Hid (r = Rp.looping E.l E.en d (Rp.body E.l E.en d) (p + 1)) := by unfold Hid; rw [hr.out]; unfold Rp.stat; rw [h1, h2, h3]; rfl
        have HDA := HD3
        have HGA := HG3
        have HZA := HZ3
        have hqa := hp1
        obtain ⟨r1, hr1⟩ : ∃ r1, r1 = Rp.ex E.l E.en d (p + 1) := ⟨_, rfl⟩
        have HR1 := hide2 hr1
        have HE1 : Hid (r = Rp.andThen r1 fun q1 x => Rp.andThen (Rp.body E.l E.en d q1) fun q2 b => .ok (q2, ⟨4, ⟨#[]⟩, x, b, []⟩)) := by rw [HEA.out, hr1]; rfl
        have HA1 : Hid (∀ q x, r1 = .ok (q, x) → q ≤ E.l.length) := fun q x hx => (Rp.ex_adv E.l E.en d (p + 1) q x hqa (by rw [← hr1, hx])).2
        clear hr1
        go_wp2_with fail
        refine (hX.out (p + 1) r1 _ HDA hqa HR1).mono ?_
        rintro e w1 ⟨hg1, hf1⟩
        have HG1 : Hid (w.grownBy w1 (some E.R)) := grown_tr HGA.out hg1
        have HZ1 : Hid (w1.heap[w.heap.size]? = some ZS) := kept_on hg1 (by omega) HZA.out
        have hw1 : w.heap.size < w1.heap.size := lt_of_block HZ1.out
        clear hg1
        cases r1 with
        | error er =>
          obtain ⟨e1, e2⟩ := er
          obtain ⟨rfl, hd1⟩ := hf1
          have HD1 := hide2 hd1
          have HRr : Hid (r = .error (e1, e2)) := HE1.out
          clear hd1
          go_wp2
          exact ⟨rfl, HG1.out, by rw [HRr.out]; exact ⟨rfl, HD1.out⟩⟩
        | ok qx =>
          obtain ⟨q1, x⟩ := qx
          obtain ⟨⟨v, rfl, xa, xc, n, rfl, hq⟩, hd1⟩ := hf1
          have HD1 := hide2 hd1
          have HQ1 : Hid (ExQ (fun b => w.heap.size < b ∧ b < w1.heap.size) w1 n x xa) := hq.keep (fun b hb => ⟨⟨by have := hb.1; omega, hb.2⟩, rfl⟩)
          have hq1 : q1 ≤ E.l.length := HA1.out q1 x rfl
          obtain ⟨r2, hr2⟩ : ∃ r2, r2 = Rp.body E.l E.en d q1 := ⟨_, rfl⟩
          have HR2 := hide2 hr2
          have HE2 : Hid (r = Rp.andThen r2 fun q2 b => .ok (q2, ⟨4, ⟨#[]⟩, x, b, []⟩)) := by rw [HE1.out, hr2]; rfl
          have HA2 : Hid (∀ q x, r2 = .ok (q, x) → q ≤ E.l.length) := fun q x hx => (Rp.body_adv E.l E.en d q1 q x hq1 (by rw [← hr2, hx])).2
          clear hr2 hd1 hq
          go_wp2_with fail
          refine (hB.out q1 r2 _ (hide2 (HD1.out.alloc G _)) hq1 HR2).mono ?_
          rintro e w2 ⟨hg2, hf2⟩
          have HG2 : Hid (w.grownBy w2 (some E.R)) := grown_tr (grown_alloc HG1.out _) hg2
          have hs2 := hg2.size
          simp only [asz] at hs2
          have HZ2 : Hid (w2.heap[w.heap.size]? = some ZS) := kept_on hg2 (by omega) ((Below.heap_alloc _ _ _ hw1).trans HZ1.out)
          have HS2 : Hid (w2.heap[w1.heap.size]? = some (sttO 4 ⟨#[]⟩ x.kind x.n x.name (.slice xa x.kids.length xc) (.slice none 0 0) (.slice none 0 0))) := kept_on hg2 (by omega) (heap_alloc_new w1 _)
          have HKX2 : Hid (Kept (w.heap.size + 1) w1.heap.size w1 w2) := ((Kept.refl _ _ w1).new (Nat.le_refl _) _).grown hg2 (by omega) (by simp)
          clear hg2
          cases r2 with
          | error er =>
            obtain ⟨e1, e2⟩ := er
            obtain ⟨rfl, hd2⟩ := hf2
            have HD2 := hide2 hd2
            have HRr : Hid (r = .error (e1, e2)) := HE2.out
            clear hd2
            go_wp2
            exact ⟨rfl, HG2.out, by rw [HRr.out]; exact ⟨rfl, HD2.out⟩⟩
          | ok qx =>
            obtain ⟨q2, b⟩ := qx
            obtain ⟨⟨v, rfl, ba, bc, m, rfl, hbl, hrow⟩, hd2⟩ := hf2
            have hq2 : q2 ≤ E.l.length := HA2.out q2 b rfl
            have HROW : Hid (RowQ (fun j => w1.heap.size < j ∧ j < w2.heap.size) w2 (StQ (fun j => w1.heap.size < j ∧ j < w2.heap.size) w2 m) b ba) :=
              have h2 : ∀ j, Mad (w1.alloc (sttO 4 ⟨#[]⟩ x.kind x.n x.name (.slice xa x.kids.length xc) (.slice none 0 0) (.slice none 0 0))) w2 j → (w1.heap.size < j ∧ j < w2.heap.size) ∧ w2.heap[j]? = w2.heap[j]? := fun j hj => ⟨⟨by have := hj.1; simp only [asz] at this; omega, hj.2⟩, rfl⟩
              RowQ.keep h2 (fun _ _ _ _ hx => StQ.keep h2 hx) hrow
            have HGU : Hid (w.grownBy (w2.setCell ⟨w1.heap.size, 6, none⟩ (.slice ba b.length bc)) (some E.R)) := grown_set' HG2.out (Nat.le_of_lt hw1) _
            have HDU : Hid (Rdy E (w2.setCell ⟨w1.heap.size, 6, none⟩ (.slice ba b.length bc)) q2 (200 - (d : Int))) := Rdy.set h.out hd2 G HG2.out (Nat.le_of_lt hw1) _
            have HSU : Hid ((w2.setCell ⟨w1.heap.size, 6, none⟩ (.slice ba b.length bc)).heap[w1.heap.size]? = some (sttO 4 ⟨#[]⟩ x.kind x.n x.name (.slice xa x.kids.length xc) (.slice ba b.length bc) (.slice none 0 0))) := st_set6 HS2.out
            have HZU : Hid ((w2.setCell ⟨w1.heap.size, 6, none⟩ (.slice ba b.length bc)).heap[w.heap.size]? = some ZS) := (Below.heap_setCell _ _ _ _ (by show w.heap.size ≠ w1.heap.size; omega)).trans HZ2.out
            have HKXU : Hid (Kept (w.heap.size + 1) w1.heap.size w1 (w2.setCell ⟨w1.heap.size, 6, none⟩ (.slice ba b.length bc))) := HKX2.out.set (.inr (Nat.le_refl _)) _
            have HKBU : Hid (Kept (w1.heap.size + 1) w2.heap.size w2 (w2.setCell ⟨w1.heap.size, 6, none⟩ (.slice ba b.length bc))) := (Kept.refl (w1.heap.size + 1) w2.heap.size w2).set (p := ⟨w1.heap.size, 6, none⟩) (.inl (Nat.lt_succ_self _)) _
            obtain ⟨⟨x0, x1, x2, x3, x4, x5, x6, x7⟩, f0, f1, f2, f3, f4, f5, f6, f7⟩ := st_cells HS2.out
            clear hd2 hrow
            have HRr : Hid (r = .ok (q2, ⟨4, ⟨#[]⟩, x, b, []⟩)) := HE2.out
            obtain ⟨⟨z0, z1, z2, z3, z4, z5, z6, z7⟩, y0, y1, y2, y3, y4, y5, y6, y7⟩ := st_cells HZ2.out
            have hne : w.heap.size ≠ w1.heap.size := by omega
            go_wp2
            refine bodyPost_ret (v := sttV ⟨4, ⟨#[]⟩, x, b, []⟩ xa xc ba bc none 0) (by simp [results, Tryz.results109, go_sem, z0, z1, z2, z3, z4, z5, z6, z7]) rfl ?_
            exact st_end G h.out HGU.out HDU.out HRr.out (full_q (by decide) HQ1.out HROW.out (RowQ.nil _ _ (StQ _ _ 0) _) hbl (Nat.zero_le _) HKXU.out HKBU.out hw1 (by omega) (by simp only [World.setCell_size]; omega))
      | false =>
        go_wp2_with fail
        refine (take_f E G p _ ⟨#[119, 104, 105, 108, 101]⟩ false p _ HD2 hp (hide2 h3.symm) rfl).mono ?_
        rintro e v3 ⟨rfl, hd3, hg3⟩
        have HG3 : Hid (w.grownBy v3 (some E.R)) := grown_tr HG2.out hg3
        have HZ3 : Hid (v3.heap[w.heap.size]? = some ZS) := kept_on hg3 (by omega) HZ2.out
        have HD3 := hide2 hd3
        have hv3 : w.heap.size < v3.heap.size := lt_of_block HZ3.out
        clear hd3 hg3
        cases h4 : tk E.l p ⟨#[115, 116, 111, 112]⟩ with
        | true =>
          have hp1 : p + 1 ≤ E.l.length := Rp.tk_step h4
          go_wp2_with fail
          refine (take_f E G p _ ⟨#[115, 116, 111, 112]⟩ true (p + 1) _ HD3 hp (hide2 h4.symm) rfl).mono ?_
          rintro e v4 ⟨rfl, hd4, hg4⟩
          have HG4 : Hid (w.grownBy v4 (some E.R)) := grown_tr HG3.out hg4
          have HZ4 : Hid (v4.heap[w.heap.size]? = some ZS) := kept_on hg4 (by omega) HZ3.out
          have HD4 := hide2 hd4
          have hv4 : w.heap.size < v4.heap.size := lt_of_block HZ4.out
          clear hd4 hg4
          obtain ⟨r9, hr9⟩ : ∃ r9, r9 = Rp.want E.l E.en ⟨#[59]⟩ (p + 1) := ⟨_, rfl⟩
          have HR9 := hide2 hr9
          have HE9 : Hid (r = Rp.andThen r9 fun q _ => .ok (q, ⟨6, ⟨#[]⟩, Rp.X0, [], []⟩)) := by unfold Hid; rw [hr.out]; unfold Rp.stat; rw [h1, h2, h3, h4, hr9]; rfl
          clear hr9
          go_wp2_with fail
          refine (want_f E G (p + 1) _ ⟨#[59]⟩ r9 _ HD4 hp1 HR9).mono ?_
          rintro e w8 ⟨hg8, hf8⟩
          have HG8 : Hid (w.grownBy w8 (some E.R)) := grown_tr HG4.out hg8
          have hZ8 : w8.heap[w.heap.size]? = some ZS := kept_on hg8 (by omega) HZ4.out
          clear hg8
          cases r9 with
          | error er =>
            clear hZ8
            obtain ⟨e1, e2⟩ := er
            obtain ⟨rfl, hd8⟩ := hf8
            have HD8 := hide2 hd8
            have HRr : Hid (r = .error (e1, e2)) := HE9.out
            clear hd8
            go_wp2
            exact ⟨rfl, HG8.out, by rw [HRr.out]; exact ⟨rfl, HD8.out⟩⟩
          | ok qx =>
            obtain ⟨q, u⟩ := qx
            obtain ⟨⟨v, rfl, rfl⟩, hd8⟩ := hf8
            have HD8 := hide2 hd8
            have HRr : Hid (r = .ok (q, ⟨6, ⟨#[]⟩, Rp.X0, [], []⟩)) := HE9.out
            obtain ⟨⟨z0, z1, z2, z3, z4, z5, z6, z7⟩, y0, y1, y2, y3, y4, y5, y6, y7⟩ := st_cells hZ8
            clear hd8 hZ8
            go_wp2
            refine bodyPost_ret (v := sttV ⟨6, ⟨#[]⟩, Rp.X0, [], []⟩ none 0 none 0 none 0) (by simp [results, Tryz.results109, go_sem, z0, z1, z2, z3, z4, z5, z6, z7]) rfl ?_
            exact st_end G h.out HG8.out HD8.out HRr.out (StQ.plain (by decide) (ExQ.leaf _ _ _ _ _ (by decide) _))
        | false =>
          go_wp2_with fail
          refine (take_f E G p _ ⟨#[115, 116, 111, 112]⟩ false p _ HD3 hp (hide2 h4.symm) rfl).mono ?_
          rintro e v4 ⟨rfl, hd4, hg4⟩
          have HG4 : Hid (w.grownBy v4 (some E.R)) := grown_tr HG3.out hg4
          have HZ4 : Hid (v4.heap[w.heap.size]? = some ZS) := kept_on hg4 (by omega) HZ3.out
          have HD4 := hide2 hd4
          have hv4 : w.heap.size < v4.heap.size := lt_of_block HZ4.out
          clear hd4 hg4
          cases h5 : tk E.l p ⟨#[115, 101, 110, 100]⟩ with
          | true =>
            have hp1 : p + 1 ≤ E.l.length := Rp.tk_step h5
            go_wp2_with fail
            refine (take_f E G p _ ⟨#[115, 101, 110, 100]⟩ true (p + 1) _ HD4 hp (hide2 h5.symm) rfl).mono ?_
            rintro e v5 ⟨rfl, hd5, hg5⟩
            have HG5 : Hid (w.grownBy v5 (some E.R)) := grown_tr HG4.out hg5
            have HZ5 : Hid (v5.heap[w.heap.size]? = some ZS) := kept_on hg5 (by omega) HZ4.out
            have HD5 := hide2 hd5
            have hv5 : w.heap.size < v5.heap.size := lt_of_block HZ5.out
            clear hd5 hg5
            obtain ⟨r1, hr1⟩ : ∃ r1, r1 = Rp.name E.l E.en (p + 1) := ⟨_, rfl⟩
            have HR1 := hide2 hr1
            have HE0 : Hid (r = Rp.andThen r1 fun q1 s => Rp.andThen (Rp.ex E.l E.en d q1) fun q2 x => Rp.andThen (Rp.want E.l E.en ⟨#[59]⟩ q2) fun q3 _ => .ok (q3, ⟨7, s, x, [], []⟩)) := by unfold Hid; rw [hr.out]; unfold Rp.stat; rw [h1, h2, h3, h4, h5, hr1]; rfl
            have HA1 : Hid (∀ q x, r1 = .ok (q, x) → q ≤ E.l.length) := fun q x hx => (Rp.name_adv E.l E.en (p + 1) q x hp1 (by rw [← hr1, hx])).2
            clear hr1
            go_wp2_with fail
            refine (name_f E G (p + 1) _ r1 _ HD5 hp1 HR1).mono ?_
            rintro e w1 ⟨hg1, hf1⟩
            have HG1 : Hid (w.grownBy w1 (some E.R)) := grown_tr HG5.out hg1
            have HZ1 : Hid (w1.heap[w.heap.size]? = some ZS) := kept_on hg1 (by omega) HZ5.out
            have hw1 : w.heap.size < w1.heap.size := lt_of_block HZ1.out
            clear hg1
            cases r1 with
            | error er =>
              obtain ⟨e1, e2⟩ := er
              obtain ⟨rfl, hd1⟩ := hf1
              have HD1 := hide2 hd1
              have HRr : Hid (r = .error (e1, e2)) := HE0.out
              clear hd1
              go_wp2
              exact ⟨rfl, HG1.out, by rw [HRr.out]; exact ⟨rfl, HD1.out⟩⟩
            | ok qx =>
              obtain ⟨q1, s⟩ := qx
              obtain ⟨⟨v, rfl, rfl, hs⟩, hd1⟩ := hf1
              have hqa : q1 ≤ E.l.length := HA1.out q1 s rfl
              have HDA : Hid (Rdy E (w1.alloc (sttO 7 s 0 0 ⟨#[]⟩ (.slice none 0 0) (.slice none 0 0) (.slice none 0 0))) q1 (200 - (d : Int))) := hd1.alloc G _
              have HGA : Hid (w.grownBy (w1.alloc (sttO 7 s 0 0 ⟨#[]⟩ (.slice none 0 0) (.slice none 0 0) (.slice none 0 0))) (some E.R)) := grown_alloc HG1.out _
              have HZA : Hid ((w1.alloc (sttO 7 s 0 0 ⟨#[]⟩ (.slice none 0 0) (.slice none 0 0) (.slice none 0 0))).heap[w.heap.size]? = some ZS) := (Below.heap_alloc _ _ _ hw1).trans HZ1.out
              have HSA : Hid ((w1.alloc (sttO 7 s 0 0 ⟨#[]⟩ (.slice none 0 0) (.slice none 0 0) (.slice none 0 0))).heap[w1.heap.size]? = some (sttO 7 s 0 0 ⟨#[]⟩ (.slice none 0 0) (.slice none 0 0) (.slice none 0 0))) := heap_alloc_new w1 _
              have HEA : Hid (r = Rp.andThen (Rp.ex E.l E.en d q1) fun q3 x => Rp.andThen (Rp.want E.l E.en ⟨#[59]⟩ q3) fun q4 _ => .ok (q4, ⟨7, s, x, [], []⟩)) := HE0.out
              clear hd1 HE0
              obtain ⟨r5, hr5⟩ : ∃ r5, r5 = Rp.ex E.l E.en d q1 := ⟨_, rfl⟩
              have HR5 := hide2 hr5
              have HE5 : Hid (r = Rp.andThen r5 fun q3 x => Rp.andThen (Rp.want E.l E.en ⟨#[59]⟩ q3) fun q4 _ => .ok (q4, ⟨7, s, x, [], []⟩)) := by rw [HEA.out, hr5]; rfl
              have HA5 : Hid (∀ q x, r5 = .ok (q, x) → q ≤ E.l.length) := fun q x hx => (Rp.ex_adv E.l E.en d q1 q x hqa (by rw [← hr5, hx])).2
              clear hr5
              go_wp2_with fail
              refine (hX.out q1 r5 _ HDA hqa HR5).mono ?_
              rintro e w5 ⟨hg5, hf5⟩
              have HG5 : Hid (w.grownBy w5 (some E.R)) := grown_tr HGA.out hg5
              have hs5 := hg5.size
              (try simp only [asz] at hs5)
              have HZ5 : Hid (w5.heap[w.heap.size]? = some ZS) := kept_on hg5 (by omega) HZA.out
              have HS5 : Hid (w5.heap[w1.heap.size]? = some (sttO 7 s 0 0 ⟨#[]⟩ (.slice none 0 0) (.slice none 0 0) (.slice none 0 0))) := kept_on hg5 (by omega) HSA.out
              clear hg5
              cases r5 with
              | error er =>
                obtain ⟨e1, e2⟩ := er
                obtain ⟨rfl, hd5⟩ := hf5
                have HD5 := hide2 hd5
                have HRr : Hid (r = .error (e1, e2)) := HE5.out
                clear hd5
                go_wp2
                exact ⟨rfl, HG5.out, by rw [HRr.out]; exact ⟨rfl, HD5.out⟩⟩
              | ok qx =>
                obtain ⟨q5, x⟩ := qx
                obtain ⟨⟨v, rfl, xa, xc, n, rfl, hq⟩, hd5⟩ := hf5
                have HD5 := hide2 hd5
                have HQ := hide2 hq
                have hq5 : q5 ≤ E.l.length := HA5.out q5 x rfl
                obtain ⟨r6, hr6⟩ : ∃ r6, r6 = Rp.want E.l E.en ⟨#[59]⟩ q5 := ⟨_, rfl⟩
                have HR6 := hide2 hr6
                have HE6 : Hid (r = Rp.andThen r6 fun q2 _ => .ok (q2, ⟨7, s, x, [], []⟩)) := by rw [HE5.out, hr6]; rfl
                have HGM : Hid (w.grownBy (mid4 w5 w1.heap.size (.int .i64 x.kind) (.int .i64 x.n) (.string x.name) (.slice xa x.kids.length xc)) (some E.R)) := grown_farS HG5.out mid4_os mid4_tape mid4_output mid4_size (Nat.le_of_lt hw1) (fun k hk => mid4_far hk)
                have HDM : Hid (Rdy E (mid4 w5 w1.heap.size (.int .i64 x.kind) (.int .i64 x.n) (.string x.name) (.slice xa x.kids.length xc)) q5 (200 - (d : Int))) := Rdy.far h.out G HD5.out HGM.out (Nat.le_of_lt hw1) (fun k hk => mid4_far hk)
                obtain ⟨⟨x0, x1, x2, x3, x4, x5, x6, x7⟩, f0, f1, f2, f3, f4, f5, f6, f7⟩ := st_cells HS5.out
                clear hr6 hd5 hq
                go_wp2_with fail
                refine (want_f E G q5 _ ⟨#[59]⟩ r6 _ HDM hq5 HR6).mono ?_
                rintro e w6 ⟨hg6, hf6⟩
                have HG6 : Hid (w.grownBy w6 (some E.R)) := grown_tr HGM.out hg6
                have hs6 := hg6.size
                rw [mid4_size] at hs6
                have hZ6 : w6.heap[w.heap.size]? = some ZS := kept_on hg6 (by omega) ((mid4_far (by omega)).trans HZ5.out)
                have hX6 : w6.heap[w1.heap.size]? = some (sttO 7 s x.kind x.n x.name (.slice xa x.kids.length xc) (.slice none 0 0) (.slice none 0 0)) := kept_on hg6 (by omega) (mid4_at HS5.out)
                have HQ6 : Hid (ExQ (fun b => w.heap.size < b ∧ b < w6.heap.size) w6 n x xa) := HQ.out.on (by (try simp only [asz]); omega) (by omega) (fun b h1 h2 => by (try simp only [asz] at h1); exact (hg6.block b (by rw [mid4_size]; omega) (by simp; omega)).trans (mid4_far (by omega)))
                clear hg6 x0 x1 x2 x3 x4 x5 x6 x7 f0 f1 f2 f3 f4 f5 f6 f7
                cases r6 with
                | error er =>
                  clear hZ6 hX6
                  obtain ⟨e1, e2⟩ := er
                  obtain ⟨rfl, hd6⟩ := hf6
                  have HD6 := hide2 hd6
                  have HRr : Hid (r = .error (e1, e2)) := HE6.out
                  clear hd6
                  go_wp2
                  exact ⟨rfl, HG6.out, by rw [HRr.out]; exact ⟨rfl, HD6.out⟩⟩
                | ok qx =>
                  obtain ⟨q6, u6⟩ := qx
                  obtain ⟨⟨v, rfl, rfl⟩, hd6⟩ := hf6
                  have HD6 := hide2 hd6
                  have HRr : Hid (r = .ok (q6, ⟨7, s, x, [], []⟩)) := HE6.out
                  obtain ⟨⟨z0, z1, z2, z3, z4, z5, z6, z7⟩, y0, y1, y2, y3, y4, y5, y6, y7⟩ := st_cells hZ6
                  obtain ⟨⟨x0, x1, x2, x3, x4, x5, x6, x7⟩, _⟩ := st_cells hX6
                  clear hd6 hZ6 hX6
                  go_wp2
                  refine bodyPost_ret (v := sttV ⟨7, s, x, [], []⟩ xa xc none 0 none 0) (by simp [results, Tryz.results109, go_sem, z0, z1, z2, z3, z4, z5, z6, z7]) rfl ?_
                  exact st_end G h.out HG6.out HD6.out HRr.out (StQ.plain hs HQ6.out)
          | false =>
            go_wp2_with fail
            refine (take_f E G p _ ⟨#[115, 101, 110, 100]⟩ false p _ HD4 hp (hide2 h5.symm) rfl).mono ?_
            rintro e v5 ⟨rfl, hd5, hg5⟩
            have HG5 : Hid (w.grownBy v5 (some E.R)) := grown_tr HG4.out hg5
            have HZ5 : Hid (v5.heap[w.heap.size]? = some ZS) := kept_on hg5 (by omega) HZ4.out
            have HD5 := hide2 hd5
            have hv5 : w.heap.size < v5.heap.size := lt_of_block HZ5.out
            clear hd5 hg5
            cases h6 : tk E.l p ⟨#[114, 101, 116, 117, 114, 110]⟩ with
            | true =>
              have hp1 : p + 1 ≤ E.l.length := Rp.tk_step h6
              go_wp2_with fail
              refine (take_f E G p _ ⟨#[114, 101, 116, 117, 114, 110]⟩ true (p + 1) _ HD5 hp (hide2 h6.symm) rfl).mono ?_
              rintro e v6 ⟨rfl, hd6, hg6⟩
              have HG6 : Hid (w.grownBy v6 (some E.R)) := grown_tr HG5.out hg6
              have HZ6 : Hid (v6.heap[w.heap.size]? = some ZS) := kept_on hg6 (by omega) HZ5.out
              have HD6 := hide2 hd6
              have hv6 : w.heap.size < v6.heap.size := lt_of_block HZ6.out
              clear hd6 hg6
              have HR9 : Hid (r = Rp.saying E.l E.en d 5 (p + 1)) := by unfold Hid; rw [hr.out]; unfold Rp.stat; rw [h1, h2, h3, h4, h5, h6]; rfl
              go_wp2_with fail
              refine (hY.out 5 (p + 1) r _ HD6 hp1 HR9).mono ?_
              rintro e w8 ⟨hg8, hf8⟩
              have HGR : Hid (w.grownBy w8 (some E.R)) := grown_tr HG6.out hg8
              have hZ8 : w8.heap[w.heap.size]? = some ZS := kept_on hg8 (by omega) HZ6.out
              cases r with
              | error er =>
                obtain ⟨e1, e2⟩ := er
                obtain ⟨rfl, hd8⟩ := hf8
                have HD8 := hide2 hd8
                clear hd8 hg8 hZ8
                go_wp2
                exact ⟨rfl, HGR.out, rfl, HD8.out⟩
              | ok qx =>
                obtain ⟨q, s⟩ := qx
                obtain ⟨⟨v, rfl, xa, xc, ba, bc, ea, ec, n, rfl, hq⟩, hd8⟩ := hf8
                have HD8 := hide2 hd8
                have HQ : Hid (StQ (fun b => w.heap.size < b ∧ b < w8.heap.size) w8 n s xa ba ea) := hq.keep (fun b hb => ⟨⟨by have := hb.1; omega, hb.2⟩, rfl⟩)
                obtain ⟨⟨z0, z1, z2, z3, z4, z5, z6, z7⟩, y0, y1, y2, y3, y4, y5, y6, y7⟩ := st_cells hZ8
                clear hd8 hg8 hq hZ8
                go_wp2
                refine bodyPost_ret (v := sttV s xa xc ba bc ea ec) (by simp [results, Tryz.results109, go_sem, z0, z1, z2, z3, z4, z5, z6, z7]) rfl ?_
                exact st_end G h.out HGR.out HD8.out rfl HQ.out
            | false =>
              go_wp2_with fail
              refine (take_f E G p _ ⟨#[114, 101, 116, 117, 114, 110]⟩ false p _ HD5 hp (hide2 h6.symm) rfl).mono ?_
              rintro e v6 ⟨rfl, hd6, hg6⟩
              have HG6 : Hid (w.grownBy v6 (some E.R)) := grown_tr HG5.out hg6
              have HZ6 : Hid (v6.heap[w.heap.size]? = some ZS) := kept_on hg6 (by omega) HZ5.out
              have HD6 := hide2 hd6
              have hv6 : w.heap.size < v6.heap.size := lt_of_block HZ6.out
              clear hd6 hg6
              cases h7 : tk E.l p ⟨#[111, 117, 116]⟩ with
              | true =>
                have hp1 : p + 1 ≤ E.l.length := Rp.tk_step h7
                go_wp2_with fail
                refine (take_f E G p _ ⟨#[111, 117, 116]⟩ true (p + 1) _ HD6 hp (hide2 h7.symm) rfl).mono ?_
                rintro e v7 ⟨rfl, hd7, hg7⟩
                have HG7 : Hid (w.grownBy v7 (some E.R)) := grown_tr HG6.out hg7
                have HZ7 : Hid (v7.heap[w.heap.size]? = some ZS) := kept_on hg7 (by omega) HZ6.out
                have HD7 := hide2 hd7
                have hv7 : w.heap.size < v7.heap.size := lt_of_block HZ7.out
                clear hd7 hg7
                have HR9 : Hid (r = Rp.saying E.l E.en d 8 (p + 1)) := by unfold Hid; rw [hr.out]; unfold Rp.stat; rw [h1, h2, h3, h4, h5, h6, h7]; rfl
                go_wp2_with fail
                refine (hY.out 8 (p + 1) r _ HD7 hp1 HR9).mono ?_
                rintro e w8 ⟨hg8, hf8⟩
                have HGR : Hid (w.grownBy w8 (some E.R)) := grown_tr HG7.out hg8
                have hZ8 : w8.heap[w.heap.size]? = some ZS := kept_on hg8 (by omega) HZ7.out
                cases r with
                | error er =>
                  obtain ⟨e1, e2⟩ := er
                  obtain ⟨rfl, hd8⟩ := hf8
                  have HD8 := hide2 hd8
                  clear hd8 hg8 hZ8
                  go_wp2
                  exact ⟨rfl, HGR.out, rfl, HD8.out⟩
                | ok qx =>
                  obtain ⟨q, s⟩ := qx
                  obtain ⟨⟨v, rfl, xa, xc, ba, bc, ea, ec, n, rfl, hq⟩, hd8⟩ := hf8
                  have HD8 := hide2 hd8
                  have HQ : Hid (StQ (fun b => w.heap.size < b ∧ b < w8.heap.size) w8 n s xa ba ea) := hq.keep (fun b hb => ⟨⟨by have := hb.1; omega, hb.2⟩, rfl⟩)
                  obtain ⟨⟨z0, z1, z2, z3, z4, z5, z6, z7⟩, y0, y1, y2, y3, y4, y5, y6, y7⟩ := st_cells hZ8
                  clear hd8 hg8 hq hZ8
                  go_wp2
                  refine bodyPost_ret (v := sttV s xa xc ba bc ea ec) (by simp [results, Tryz.results109, go_sem, z0, z1, z2, z3, z4, z5, z6, z7]) rfl ?_
                  exact st_end G h.out HGR.out HD8.out rfl HQ.out
              | false =>
                go_wp2_with fail
                refine (take_f E G p _ ⟨#[111, 117, 116]⟩ false p _ HD6 hp (hide2 h7.symm) rfl).mono ?_
                rintro e v7 ⟨rfl, hd7, hg7⟩
                have HG7 : Hid (w.grownBy v7 (some E.R)) := grown_tr HG6.out hg7
                have HZ7 : Hid (v7.heap[w.heap.size]? = some ZS) := kept_on hg7 (by omega) HZ6.out
                have HD7 := hide2 hd7
                have hv7 : w.heap.size < v7.heap.size := lt_of_block HZ7.out
                clear hd7 hg7
                cases h8 : tk E.l p ⟨#[100, 111]⟩ with
                | true =>
                  have hp1 : p + 1 ≤ E.l.length := Rp.tk_step h8
                  go_wp2_with fail
                  refine (take_f E G p _ ⟨#[100, 111]⟩ true (p + 1) _ HD7 hp (hide2 h8.symm) rfl).mono ?_
                  rintro e v8 ⟨rfl, hd8, hg8⟩
                  have HG8 : Hid (w.grownBy v8 (some E.R)) := grown_tr HG7.out hg8
                  have HZ8 : Hid (v8.heap[w.heap.size]? = some ZS) := kept_on hg8 (by omega) HZ7.out
                  have HD8 := hide2 hd8
                  have hv8 : w.heap.size < v8.heap.size := lt_of_block HZ8.out
                  clear hd8 hg8
                  have HR9 : Hid (r = Rp.saying E.l E.en d 9 (p + 1)) := by unfold Hid; rw [hr.out]; unfold Rp.stat; rw [h1, h2, h3, h4, h5, h6, h7, h8]; rfl
                  go_wp2_with fail
                  refine (hY.out 9 (p + 1) r _ HD8 hp1 HR9).mono ?_
                  rintro e w8 ⟨hg8, hf8⟩
                  have HGR : Hid (w.grownBy w8 (some E.R)) := grown_tr HG8.out hg8
                  have hZ8 : w8.heap[w.heap.size]? = some ZS := kept_on hg8 (by omega) HZ8.out
                  cases r with
                  | error er =>
                    obtain ⟨e1, e2⟩ := er
                    obtain ⟨rfl, hd8⟩ := hf8
                    have HD8 := hide2 hd8
                    clear hd8 hg8 hZ8
                    go_wp2
                    exact ⟨rfl, HGR.out, rfl, HD8.out⟩
                  | ok qx =>
                    obtain ⟨q, s⟩ := qx
                    obtain ⟨⟨v, rfl, xa, xc, ba, bc, ea, ec, n, rfl, hq⟩, hd8⟩ := hf8
                    have HD8 := hide2 hd8
                    have HQ : Hid (StQ (fun b => w.heap.size < b ∧ b < w8.heap.size) w8 n s xa ba ea) := hq.keep (fun b hb => ⟨⟨by have := hb.1; omega, hb.2⟩, rfl⟩)
                    obtain ⟨⟨z0, z1, z2, z3, z4, z5, z6, z7⟩, y0, y1, y2, y3, y4, y5, y6, y7⟩ := st_cells hZ8
                    clear hd8 hg8 hq hZ8
                    go_wp2
                    refine bodyPost_ret (v := sttV s xa xc ba bc ea ec) (by simp [results, Tryz.results109, go_sem, z0, z1, z2, z3, z4, z5, z6, z7]) rfl ?_
                    exact st_end G h.out HGR.out HD8.out rfl HQ.out
                | false =>
                  go_wp2_with fail
                  refine (take_f E G p _ ⟨#[100, 111]⟩ false p _ HD7 hp (hide2 h8.symm) rfl).mono ?_
                  rintro e v8 ⟨rfl, hd8, hg8⟩
                  have HG8 : Hid (w.grownBy v8 (some E.R)) := grown_tr HG7.out hg8
                  have HZ8 : Hid (v8.heap[w.heap.size]? = some ZS) := kept_on hg8 (by omega) HZ7.out
                  have HD8 := hide2 hd8
                  have hv8 : w.heap.size < v8.heap.size := lt_of_block HZ8.out
                  clear hd8 hg8
                  have HR9 : Hid (r = Rp.setting E.l E.en d 2 p) := by unfold Hid; rw [hr.out]; unfold Rp.stat; rw [h1, h2, h3, h4, h5, h6, h7, h8]; rfl
                  go_wp2_with fail
                  refine (hS.out 2 p r _ HD8 hp HR9).mono ?_
                  rintro e w8 ⟨hg8, hf8⟩
                  have HGR : Hid (w.grownBy w8 (some E.R)) := grown_tr HG8.out hg8
                  have hZ8 : w8.heap[w.heap.size]? = some ZS := kept_on hg8 (by omega) HZ8.out
                  cases r with
                  | error er =>
                    obtain ⟨e1, e2⟩ := er
                    obtain ⟨rfl, hd8⟩ := hf8
                    have HD8 := hide2 hd8
                    clear hd8 hg8 hZ8
                    go_wp2
                    exact ⟨rfl, HGR.out, rfl, HD8.out⟩
                  | ok qx =>
                    obtain ⟨q, s⟩ := qx
                    obtain ⟨⟨v, rfl, xa, xc, ba, bc, ea, ec, n, rfl, hq⟩, hd8⟩ := hf8
                    have HD8 := hide2 hd8
                    have HQ : Hid (StQ (fun b => w.heap.size < b ∧ b < w8.heap.size) w8 n s xa ba ea) := hq.keep (fun b hb => ⟨⟨by have := hb.1; omega, hb.2⟩, rfl⟩)
                    obtain ⟨⟨z0, z1, z2, z3, z4, z5, z6, z7⟩, y0, y1, y2, y3, y4, y5, y6, y7⟩ := st_cells hZ8
                    clear hd8 hg8 hq hZ8
                    go_wp2
                    refine bodyPost_ret (v := sttV s xa xc ba bc ea ec) (by simp [results, Tryz.results109, go_sem, z0, z1, z2, z3, z4, z5, z6, z7]) rfl ?_
                    exact st_end G h.out HGR.out HD8.out rfl HQ.out

end Go.Proofs.YtlnikpcoejpknaaGreatDoor

/- A body's row of statements as it grows. -/
namespace Go.Proofs.YtlnikpcoejpknaaGreatDoor
open Go.RowKit

theorem Tryz.info66 : (Tryz.prog.info? 66).map (fun i => (i.zero, i.size, i.bytes)) = some (some (.agg #[.int .i64 0, .string ⟨#[]⟩, .int .i64 0, .int .i64 0, .string ⟨#[]⟩, .slice none 0 0, .slice none 0 0, .slice none 0 0]), 8, 128) := by kernel_rfl

abbrev Itm8 := Sy.St × (Option Addr × Nat) × (Option Addr × Nat) × (Option Addr × Nat)
abbrev itc8 (i : Itm8) : List Value := [.int .i64 i.1.kind, .string i.1.name, .int .i64 i.1.x.kind, .int .i64 i.1.x.n, .string i.1.x.name, .slice i.2.1.1 i.1.x.kids.length i.2.1.2, .slice i.2.2.1.1 i.1.body.length i.2.2.1.2, .slice i.2.2.2.1 i.1.els.length i.2.2.2.2]
def cells8 (its : List Itm8) : List Value := its.flatMap itc8

theorem cells8_len : ∀ its, (cells8 its).length = its.length * 8
  | [] => rfl
  | i :: its => by have := cells8_len its; simp only [cells8, List.flatMap_cons, List.length_append, List.length_cons] at *; simp only [this, List.length_nil]; omega
theorem cells8_app (l : List Itm8) (i : Itm8) : cells8 (l ++ [i]) = cells8 l ++ itc8 i := by simp [cells8]
theorem cells8_get : ∀ (its : List Itm8) (i : Nat) (it : Itm8), its[i]? = some it → ∀ j, j < 8 → (cells8 its)[i * 8 + j]? = (itc8 it)[j]?
  | [], i, it, h, _, _ => by simp at h
  | x :: its, 0, it, h, j, hj => by
    simp at h; subst h
    simp only [cells8, List.flatMap_cons, Nat.zero_mul, Nat.zero_add]
    rw [List.getElem?_append_left (by simpa using hj)]
  | x :: its, i + 1, it, h, j, hj => by
    have ih := cells8_get its i it (by simpa using h) j hj
    simp only [cells8, List.flatMap_cons] at ih ⊢
    rw [List.getElem?_append_right (by simp; omega)]
    have e : (i + 1) * 8 + j - (itc8 x).length = i * 8 + j := by simp; omega
    rw [e, ih]
theorem itc8_one (it : Itm8) : ∀ u ∈ itc8 it, u.oneCell' = true := by
  intro u ho
  simp only [List.mem_cons, List.not_mem_nil, or_false] at ho
  rcases ho with rfl | rfl | rfl | rfl | rfl | rfl | rfl | rfl <;> rfl
theorem itc8_news (W : World) (it : Itm8) (t : TypeId) : ∀ j u, (itc8 it)[j]? = some u → (W.alloc (.cells (itc8 it).toArray t)).cell? ((⟨W.heap.size, 0, none⟩ : Addr).add j) = some u := by
  intro j u hu
  have hadd : (⟨W.heap.size, 0, none⟩ : Addr).add j = ⟨W.heap.size, j, none⟩ := by unfold Addr.add; split <;> simp_all
  rw [hadd, World.cell?_alloc_mark]
  simpa using hu

/-- A body's statements, out of its row. -/
theorem own_rowq {Q : Nat → Prop} {w : World} {B n h : Nat} {v : Value} {its : List Itm8} (hown : w.ownsRow B 66 8 v n (cells8 its)) (hit : ∀ it ∈ its, StQ Q w h it.1 it.2.1.1 it.2.2.1.1 it.2.2.2.1) (hQ : ∀ g, v.ownBlock = some g → Q g) :
    ∃ a c, v = .slice a its.length c ∧ RowQ Q w (StQ Q w h) (its.map (·.1)) a := by
  have hl : its.length = n := by have := hown.1; rw [cells8_len] at this; omega
  subst hl
  rcases hown.2 with ⟨rfl, h0⟩ | ⟨g, cap, cur, rfl, hg, hh, _, _, _, ht⟩
  · refine ⟨none, 0, by rw [h0], fun i k hk => ?_⟩
    have := (List.getElem?_eq_some_iff.1 hk).1
    simp at this
    omega
  · refine ⟨_, cap, rfl, fun i k hk => ?_⟩
    obtain ⟨it, hi, rfl⟩ : ∃ it, its[i]? = some it ∧ it.1 = k := by simpa using hk
    have hlt := (List.getElem?_eq_some_iff.1 hi).1
    have key : ∀ j, j < 8 → w.cell? ⟨g, 0 + i * 8 + j, none⟩ = (itc8 it)[j]? := by
      intro j hj
      have e := cells8_get its i it hi j hj
      rw [← ht, List.getElem?_take, if_pos (by omega)] at e
      rw [Nat.zero_add, ← e]
      simp [World.cell?, hh]
    exact ⟨g, 0, it.2.1.1, it.2.1.2, it.2.2.1.1, it.2.2.1.2, it.2.2.2.1, it.2.2.2.2, rfl, hQ g rfl, key 0 (by decide), key 1 (by decide), key 2 (by decide), key 3 (by decide), key 4 (by decide), key 5 (by decide), key 6 (by decide), key 7 (by decide), hit it (List.mem_of_getElem? hi)⟩

/-- What holds at the head of the body's loop. -/
structure BdAt (E : Env) (d : Nat) (w : World) (r : Res (List Sy.St)) (its : List Itm8) (q fu h : Nat) (v : Value) (W : World) : Prop where
  own : W.ownsRow w.heap.size 66 8 v its.length (cells8 its)
  sts : ∀ it ∈ its, StQ (fun b => w.heap.size ≤ b ∧ b < W.heap.size ∧ v.ownBlock ≠ some b) W h it.1 it.2.1.1 it.2.2.1.1 it.2.2.2.1
  rdy : Rdy E W q (200 - (d : Int))
  le : q ≤ E.l.length
  grown : w.grownBy W (some E.R)
  eq : r = Rp.stats E.l E.en (Rp.stat E.l E.en d (Rp.body E.l E.en d)) fu (its.map (·.1)) q
  fuel : E.l.length < q + fu
  few : its.length ≤ q

/-- The row, further on. -/
theorem BdAt.kept {E : Env} {d : Nat} {w : World} {r : Res (List Sy.St)} {its : List Itm8} {q fu h : Nat} {v : Value} {W W' : World} (b : BdAt E d w r its q fu h v W) (hR : E.R < w.heap.size) (hg : W.grownBy W' (some E.R)) :
    W'.ownsRow w.heap.size 66 8 v its.length (cells8 its) ∧ (∀ it ∈ its, StQ (fun b => w.heap.size ≤ b ∧ b < W'.heap.size ∧ v.ownBlock ≠ some b) W' h it.1 it.2.1.1 it.2.2.1.1 it.2.2.2.1) ∧ w.grownBy W' (some E.R) := by
  have hs := hg.size
  refine ⟨b.own.kept hg ?_, fun it hit => (b.sts it hit).keep (fun k hk => ⟨⟨hk.1, by omega, hk.2.2⟩, hg.block k hk.2.1 (by simp; omega)⟩), grown_tr b.grown hg⟩
  cases hv : v.ownBlock with
  | none => exact .inl rfl
  | some g => right; have := b.own.lt g hv; simp; omega

/-- One statement more. -/
theorem BdAt.next {E : Env} {d : Nat} {w : World} {r : Res (List Sy.St)} {its : List Itm8} {q fu h : Nat} {v : Value} {W Wk w3 w4 : World} {q2 hx g cap : Nat} {it : Itm8} {ob : Obj} (G : Good E) {p : Nat} {op : Int} (h0 : Rdy E w p op) (b : BdAt E d w r its q (fu + 1) h v W) (hg1 : W.grownBy Wk (some E.R)) (hg2 : Wk.grownBy w3 (some E.R)) (hd3 : Rdy E w3 q2 (200 - (d : Int)))
    (hit : StQ (Mad Wk w3) w3 hx it.1 it.2.1.1 it.2.2.1.1 it.2.2.2.1) (hq : q < q2 ∧ q2 ≤ E.l.length) (hr : r = Rp.stats E.l E.en (Rp.stat E.l E.en d (Rp.body E.l E.en d)) fu ((its.map (·.1)) ++ [it.1]) q2)
    (hown : w4.ownsRow w.heap.size 66 8 (.slice (some ⟨g, 0, none⟩) (its.length + 1) cap) (its.length + 1) (cells8 its ++ itc8 it)) (hgr : (w3.alloc ob).grownBy w4 v.ownBlock) (hw : v.ownBlock = some g ∨ g = (w3.alloc ob).heap.size) :
    BdAt E d w r (its ++ [it]) q2 fu (max h hx) (.slice (some ⟨g, 0, none⟩) (its.length + 1) cap) w4 := by
  have hR := h0.lt
  obtain ⟨o3, s3, g3⟩ := b.kept hR (grown_tr hg1 hg2)
  have hsk := hg1.size
  have hs3 := hg2.size
  have hs4 := hgr.size
  have hsw := b.grown.size
  simp only [asz] at hs4
  have hvb : ∀ k, v.ownBlock = some k → w.heap.size ≤ k ∧ k < W.heap.size := fun k hk => b.own.lt k hk
  have far : ∀ k, k < w3.heap.size → v.ownBlock ≠ some k → w4.heap[k]? = w3.heap[k]? := fun k hk hn => (hgr.block k (by simp; omega) (fun e => hn e.symm)).trans (Below.heap_alloc _ _ _ hk)
  have hgne : ∀ k, k < w3.heap.size → v.ownBlock ≠ some k → (Value.slice (some ⟨g, 0, none⟩) (its.length + 1) cap).ownBlock ≠ some k := by
    intro k hk hn e
    simp only [Value.ownBlock, Option.some.injEq] at e
    rcases hw with e2 | e2
    · exact hn (by rw [e2, e])
    · simp only [asz] at e2; omega
  have hgw : w.grownBy w4 (some E.R) := ⟨hgr.os.trans g3.os, hgr.tape.trans g3.tape, hgr.output.trans g3.output, by omega, fun k hk hn => by
    rw [far k (by omega) (fun e => by have := (hvb k e).1; omega)]; exact g3.block k hk hn⟩
  refine ⟨by rw [cells8_app]; simpa using hown, fun i hi => ?_, h0.grown G hgw ((far E.R (by omega) (fun e => by have := (hvb _ e).1; omega)).trans hd3.rd), hq.2, hgw, by rw [List.map_append]; exact hr, by have := b.fuel; omega, by have := b.few; simp; omega⟩
  rcases List.mem_append.1 hi with hi | hi
  · exact ((s3 i hi).keep (fun k hk => ⟨⟨hk.1, by omega, hgne k hk.2.1 hk.2.2⟩, far k hk.2.1 hk.2.2⟩)).up (Nat.le_max_left _ _)
  · simp only [List.mem_singleton] at hi
    subst hi
    have hn : ∀ k, Mad Wk w3 k → v.ownBlock ≠ some k := fun k hk e => by have h1 := (hvb k e).2; have h2 := hk.1; omega
    exact (hit.keep (fun k hk => ⟨⟨by have := hk.1; omega, by have := hk.2; omega, hgne k hk.2 (hn k hk)⟩, far k hk.2 (hn k hk)⟩)).up (Nat.le_max_right _ _)

/-- The body, at its end. -/
theorem BdAt.out {E : Env} {d : Nat} {w : World} {r : Res (List Sy.St)} {its : List Itm8} {q fu h : Nat} {v : Value} {W W' : World} (b : BdAt E d w r its q fu h v W) (hR : E.R < w.heap.size) (few : E.l.length ≤ 6000) (hg : W.grownBy W' (some E.R)) : BdV w W' (its.map (·.1)) v := by
  obtain ⟨o3, s3, g3⟩ := b.kept hR hg
  obtain ⟨a, c, hv, hq⟩ := own_rowq (Q := Mad w W') o3 (fun it hit => (s3 it hit).keep (fun k hk => ⟨⟨hk.1, hk.2.1⟩, rfl⟩)) (fun g hgg => o3.lt g hgg)
  exact ⟨a, c, h, by rw [hv]; simp, by have := b.few; have := b.le; simp; omega, hq⟩

def lenV : Value → Nat
  | .slice _ n _ => n
  | _ => 0

end Go.Proofs.YtlnikpcoejpknaaGreatDoor

