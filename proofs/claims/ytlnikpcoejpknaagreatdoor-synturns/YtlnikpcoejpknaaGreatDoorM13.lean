/- The walks of receiving, turned and expr. -/
import Derived.Test.YtlnikpcoejpknaaGreatDoorM12
namespace Go.Proofs.YtlnikpcoejpknaaGreatDoor
open Go.RowKit

abbrev ZE : Obj := .cells #[.int .i64 0, .int .i64 0, .string ⟨#[]⟩, .slice none 0 0] 64 (0, 0)
abbrev exO (k n : Int) (s : ByteArray) (v : Value) : Obj := .cells #[.int .i64 k, .int .i64 n, .string s, v] 64 (0, 0)

theorem ex_cells {w : World} {N : Nat} {k n : Int} {s : ByteArray} {v : Value} (h : w.heap[N]? = some (exO k n s v)) :
    (w.cell? ⟨N, 0, none⟩ = some (.int .i64 k) ∧ w.cell? ⟨N, 1, none⟩ = some (.int .i64 n) ∧ w.cell? ⟨N, 2, none⟩ = some (.string s) ∧ w.cell? ⟨N, 3, none⟩ = some v) ∧
    (w.frozen? ⟨N, 0, none⟩ = false ∧ w.frozen? ⟨N, 1, none⟩ = false ∧ w.frozen? ⟨N, 2, none⟩ = false ∧ w.frozen? ⟨N, 3, none⟩ = false) := by
  simp [World.cell?, World.frozen?, h]

/-- Four stores into a box of the call's own. -/
theorem grown_four {w u : World} {R N : Nat} (h : w.grownBy u (some R)) (hN : w.heap.size ≤ N) (a b c d : Value) : w.grownBy ((((u.setCell ⟨N, 0, none⟩ a).setCell ⟨N, 1, none⟩ b).setCell ⟨N, 2, none⟩ c).setCell ⟨N, 3, none⟩ d) (some R) :=
  grown_set' (grown_set' (grown_set' (grown_set' h hN a) hN b) hN c) hN d
theorem RD.four {w : World} {R N : Nat} {ta : Option Addr} {tc : Nat} {l : List Lx.Tk} {p en : Nat} {mv : Value} {op : Int} (h : RD w R ta tc l p en mv op) (hN : R ≠ N) (a b c d : Value) : RD ((((w.setCell ⟨N, 0, none⟩ a).setCell ⟨N, 1, none⟩ b).setCell ⟨N, 2, none⟩ c).setCell ⟨N, 3, none⟩ d) R ta tc l p en mv op :=
  (((h.set (a := ⟨N, 0, none⟩) hN a).set (a := ⟨N, 1, none⟩) hN b).set (a := ⟨N, 2, none⟩) hN c).set (a := ⟨N, 3, none⟩) hN d
theorem far_four {u : World} {N k : Nat} (hk : k ≠ N) (a b c d : Value) : ((((u.setCell ⟨N, 0, none⟩ a).setCell ⟨N, 1, none⟩ b).setCell ⟨N, 2, none⟩ c).setCell ⟨N, 3, none⟩ d).heap[k]? = u.heap[k]? := by
  rw [Below.heap_setCell _ _ _ _ hk, Below.heap_setCell _ _ _ _ hk, Below.heap_setCell _ _ _ _ hk, Below.heap_setCell _ _ _ _ hk]


set_option maxRecDepth 100000 in
set_option maxHeartbeats 1000000 in
theorem receiving_f (E : Env) (G : Good E) (p : Nat) (op : Int) (r : Res Sy.Ex) (w : World) (h : Hid (Rdy E w p op)) (hp : p ≤ E.l.length) (hr : Hid (r = Rp.receiving E.l E.en p)) :
    Calls Tryz.prog 165 #[.pointer (some ⟨E.R, 0, none⟩)] w fun e w' => Ends E op w r (ExV w) e w' := by
  have hR := h.out.lt
  obtain ⟨r1, hr1⟩ : ∃ r1, r1 = Rp.want E.l E.en ⟨#[40]⟩ p := ⟨_, rfl⟩
  have HR1 := hide2 hr1
  have HE0 : Hid (r = Rp.andThen r1 fun q1 _ => Rp.andThen (Rp.name E.l E.en q1) fun q2 s => Rp.andThen (Rp.want E.l E.en ⟨#[41]⟩ q2) fun q3 _ => .ok (q3, ⟨20, 0, s, []⟩)) := by rw [hr.out, hr1]; rfl
  have HA1 : Hid (∀ q x, r1 = .ok (q, x) → q ≤ E.l.length) := fun q x hx => (Rp.want_adv E.l E.en _ p q x hp (by rw [← hr1, hx])).2
  clear hr1
  go_enter Tryz.func165, Tryz.ntmps165
  go_wp2_with fail
  refine (want_f E G p op ⟨#[40]⟩ r1 _ (h.out.alloc G _) hp HR1).mono ?_
  rintro e w1 ⟨hg1, hf1⟩
  have HG1 : Hid (w.grownBy w1 (some E.R)) := grown_tr (grown_alloc (grown_bel (Below.refl _ w)) _) hg1
  have HZ1 : Hid (w1.heap[w.heap.size]? = some ZE) := kept_on hg1 (by omega) (heap_alloc_new w ZE)
  clear hg1
  cases r1 with
  | error er =>
    obtain ⟨e1, e2⟩ := er
    obtain ⟨rfl, hd1⟩ := hf1
    have HD1 := hide2 hd1
    have HRr : Hid (r = .error (e1, e2)) := HE0.out
    clear hd1
    go_wp2
    exact ⟨rfl, HG1.out, by rw [HRr.out]; exact ⟨rfl, HD1.out⟩⟩
  | ok qx =>
    obtain ⟨q1, u1⟩ := qx
    obtain ⟨⟨v, rfl, rfl⟩, hd1⟩ := hf1
    have HD1 := hide2 hd1
    have hq1 : q1 ≤ E.l.length := HA1.out q1 u1 rfl
    clear hd1
    obtain ⟨r2, hr2⟩ : ∃ r2, r2 = Rp.name E.l E.en q1 := ⟨_, rfl⟩
    have HR2 := hide2 hr2
    have HE1 : Hid (r = Rp.andThen r2 fun q2 s => Rp.andThen (Rp.want E.l E.en ⟨#[41]⟩ q2) fun q3 _ => .ok (q3, ⟨20, 0, s, []⟩)) := by rw [HE0.out, hr2]; rfl
    have HA2 : Hid (∀ q x, r2 = .ok (q, x) → q ≤ E.l.length) := fun q x hx => (Rp.name_adv E.l E.en q1 q x hq1 (by rw [← hr2, hx])).2
    clear hr2
    go_wp2_with fail
    refine (name_f E G q1 op r2 _ HD1 hq1 HR2).mono ?_
    rintro e w2 ⟨hg2, hf2⟩
    have HG2 : Hid (w.grownBy w2 (some E.R)) := grown_tr HG1.out hg2
    have HZ2 : Hid (w2.heap[w.heap.size]? = some ZE) := kept_on hg2 (by omega) HZ1.out
    clear hg2
    cases r2 with
    | error er =>
      obtain ⟨e1, e2⟩ := er
      obtain ⟨rfl, hd2⟩ := hf2
      have HD2 := hide2 hd2
      have HRr : Hid (r = .error (e1, e2)) := HE1.out
      clear hd2
      go_wp2
      exact ⟨rfl, HG2.out, by rw [HRr.out]; exact ⟨rfl, HD2.out⟩⟩
    | ok qx =>
      obtain ⟨q2, s⟩ := qx
      obtain ⟨⟨v, rfl, rfl, hs⟩, hd2⟩ := hf2
      have HD2 := hide2 hd2
      have hq2 : q2 ≤ E.l.length := HA2.out q2 s rfl
      clear hd2
      obtain ⟨r3, hr3⟩ : ∃ r3, r3 = Rp.want E.l E.en ⟨#[41]⟩ q2 := ⟨_, rfl⟩
      have HR3 := hide2 hr3
      have HE2 : Hid (r = Rp.andThen r3 fun q3 _ => .ok (q3, ⟨20, 0, s, []⟩)) := by rw [HE1.out, hr3]; rfl
      clear hr3
      go_wp2_with fail
      refine (want_f E G q2 op ⟨#[41]⟩ r3 _ (HD2.out.alloc G _) hq2 HR3).mono ?_
      rintro e w3 ⟨hg3, hf3⟩
      have HG3 : Hid (w.grownBy w3 (some E.R)) := grown_tr (grown_alloc HG2.out _) hg3
      have hw2 := HG2.out.size
      have hZ3 : w3.heap[w.heap.size]? = some ZE := kept_on hg3 (by omega) ((Below.heap_alloc _ _ _ (lt_of_block HZ2.out)).trans HZ2.out)
      have hX3 : w3.heap[w2.heap.size]? = some (exO 20 0 s (.slice none 0 0)) := kept_on hg3 (by omega) (heap_alloc_new w2 _)
      cases r3 with
      | error er =>
        obtain ⟨e1, e2⟩ := er
        obtain ⟨rfl, hd3⟩ := hf3
        have HD3 := hide2 hd3
        have HRr : Hid (r = .error (e1, e2)) := HE2.out
        clear hd3 hg3 hZ3 hX3
        go_wp2
        exact ⟨rfl, HG3.out, by rw [HRr.out]; exact ⟨rfl, HD3.out⟩⟩
      | ok qx =>
        obtain ⟨q3, u3⟩ := qx
        obtain ⟨⟨v, rfl, rfl⟩, hd3⟩ := hf3
        have HD3 := hide2 hd3
        have HRr : Hid (r = .ok (q3, ⟨20, 0, s, []⟩)) := HE2.out
        obtain ⟨⟨z0, z1, z2, z3⟩, y0, y1, y2, y3⟩ := ex_cells hZ3
        obtain ⟨⟨x0, x1, x2, x3⟩, _⟩ := ex_cells hX3
        clear hd3 hg3 hZ3 hX3
        go_wp2
        refine bodyPost_ret (v := exV ⟨20, 0, s, []⟩ none 0) (by simp [results, Tryz.results165, go_sem, z0, z1, z2, z3]) rfl ?_
        exact ⟨grown_four HG3.out (Nat.le_refl _) _ _ _ _, by rw [HRr.out]; exact ⟨⟨_, rfl, none, 0, 1, rfl, ExQ.leaf _ _ _ _ _ hs _⟩, h.out.grown G (grown_four HG3.out (Nat.le_refl _) _ _ _ _) (HD3.out.rd.four (by omega) _ _ _ _)⟩⟩

end Go.Proofs.YtlnikpcoejpknaaGreatDoor

/- The walks of leave as a deferred call, of expr and of turned. -/
namespace Go.Proofs.YtlnikpcoejpknaaGreatDoor
open Go.RowKit

set_option maxRecDepth 100000 in
set_option maxHeartbeats 400000 in
theorem leave_d (E : Env) (G : Good E) (p : Nat) (op : Int) (u : FrameMode) (w : World) (h : Hid (Rdy E w p op)) (h0 : 0 ≤ op) (h1 : op ≤ 1000) :
    CallsD Tryz.prog 107 #[.pointer (some ⟨E.R, 0, none⟩)] u w fun e u' w' => u' = u ∧ (e = .returned (.tuple #[]) ∧ Rdy E w' p (op - 1) ∧ w.grownBy w' (some E.R)) := by
  obtain ⟨c4, f4⟩ := h.out.rd.cell4
  go_enter_d Tryz.func107, Tryz.ntmps107
  go_wp2
  go_end0
  exact ⟨rfl, h.out.grown G (grown_at _ _ _ _) (h.out.rd.set4 (by go_num)), grown_at _ _ _ _⟩

def CFrom (E : Env) (d k : Nat) : Prop := ∀ (p : Nat) (r : Res Sy.Ex) (w : World), Hid (Rdy E w p (200 - (d : Int))) → p ≤ E.l.length → Hid (r = Rp.from' E.l E.en (Rp.ahead E.l E.en d) k p) →
  Calls Tryz.prog 146 #[.pointer (some ⟨E.R, 0, none⟩), .int .i64 (6 - (k : Int))] w fun e w' => Ends E (200 - (d : Int)) w r (ExV w) e w'
def CAhead (E : Env) (d : Nat) : Prop := ∀ (p : Nat) (r : Res Sy.Ex) (w : World), Hid (Rdy E w p (200 - (d : Int))) → p ≤ E.l.length → Hid (r = Rp.ahead E.l E.en d p) →
  Calls Tryz.prog 156 #[.pointer (some ⟨E.R, 0, none⟩)] w fun e w' => Ends E (200 - (d : Int)) w r (ExV w) e w'
def CExpr (E : Env) (d : Nat) : Prop := ∀ (p : Nat) (r : Res Sy.Ex) (w : World), Hid (Rdy E w p (200 - (d : Int))) → p ≤ E.l.length → Hid (r = Rp.expr E.l E.en d (Rp.prevOf E.l E.en d) p) →
  Calls Tryz.prog 128 #[.pointer (some ⟨E.R, 0, none⟩)] w fun e w' => Ends E (200 - (d : Int)) w r (ExV w) e w'
def CTurned (E : Env) (d : Nat) : Prop := ∀ (kind : Int) (p : Nat) (r : Res Sy.Ex) (w : World), Hid (Rdy E w p (200 - (d : Int))) → p ≤ E.l.length → Hid (r = Rp.turned E.l E.en d (Rp.prevOf E.l E.en d) kind p) →
  Calls Tryz.prog 161 #[.pointer (some ⟨E.R, 0, none⟩), .int .i64 kind] w fun e w' => Ends E (200 - (d : Int)) w r (ExV w) e w'

theorem World.setCell_size (w : World) (a : Addr) (v : Value) : (w.setCell a v).heap.size = w.heap.size := by simp [World.setCell]
theorem four_block {w : World} {N : Nat} {k n : Int} {s : ByteArray} {v : Value} (h : w.heap[N]? = some (exO k n s v)) (a b c d : Value) :
    ((((w.setCell ⟨N, 0, none⟩ a).setCell ⟨N, 1, none⟩ b).setCell ⟨N, 2, none⟩ c).setCell ⟨N, 3, none⟩ d).heap[N]? = some (.cells #[a, b, c, d] 64 (0, 0)) := by
  simp only [World.setCell, Array.getElem?_modify, if_true, h, Option.map_some]
  rfl

/-- An expression that was made earlier, in a later world. -/
theorem ExV.later {w0 w u u' : World} {x : Sy.Ex} {v : Value} (h : ExV w0 u x v) (hw : w.heap.size ≤ w0.heap.size) (hs : u.heap.size ≤ u'.heap.size) (hk : ∀ b, w0.heap.size ≤ b → b < u.heap.size → u'.heap[b]? = u.heap[b]?) : ExV w u' x v := by
  obtain ⟨a, c, n, hv, hq⟩ := h
  exact ⟨a, c, n, hv, hq.keep (fun b hb => ⟨⟨by omega, by omega⟩, hk b hb.1 hb.2⟩)⟩

set_option maxRecDepth 100000 in
set_option maxHeartbeats 1000000 in
theorem expr_none (E : Env) (G : Good E) : CExpr E 0 := by
  intro p r w h hp hr
  have hR := h.out.lt
  have HRr : Hid (r = .error (4, (pk E.l p E.en).pos)) := hr.out
  go_enter_defers Tryz.func128, Tryz.ntmps128
  go_wp2_with fail
  refine (enter_no E G p _ (h.out.alloc G _) hp).mono ?_
  rintro e w1 ⟨rfl, hg1, hd1⟩
  have HG1 : Hid (w.grownBy w1 (some E.R)) := grown_tr (grown_alloc (grown_bel (Below.refl _ w)) _) hg1
  have HD1 := hide2 hd1
  clear hg1 hd1
  go_wp2
  refine ⟨HG1.out, ?_⟩
  rw [HRr.out]
  exact ⟨rfl, HD1.out⟩

set_option maxRecDepth 100000 in
set_option maxHeartbeats 1000000 in
theorem turned_none (E : Env) (G : Good E) : CTurned E 0 := by
  intro kind p r w h hp hr
  have hR := h.out.lt
  have HRr : Hid (r = .error (4, (pk E.l p E.en).pos)) := hr.out
  go_enter_defers Tryz.func161, Tryz.ntmps161
  go_wp2_with fail
  refine (enter_no E G p _ (h.out.alloc G _) hp).mono ?_
  rintro e w1 ⟨rfl, hg1, hd1⟩
  have HG1 : Hid (w.grownBy w1 (some E.R)) := grown_tr (grown_alloc (grown_bel (Below.refl _ w)) _) hg1
  have HD1 := hide2 hd1
  clear hg1 hd1
  go_wp2
  refine ⟨HG1.out, ?_⟩
  rw [HRr.out]
  exact ⟨rfl, HD1.out⟩

set_option maxRecDepth 100000 in
set_option maxHeartbeats 1000000 in
theorem expr_more (E : Env) (G : Good E) (d : Nat) (hd : d < 200) (hF : Hid (CFrom E d 5)) : CExpr E (d + 1) := by
  intro p r w h hp hr
  have hR := h.out.lt
  have hR2 : Hid (r = Rp.from' E.l E.en (Rp.ahead E.l E.en d) 5 p) := hr.out
  have HOP : Hid ((200 : Int) - ((d + 1 : Nat) : Int) + 1 = 200 - (d : Int)) := by unfold Hid; omega
  go_enter_defers Tryz.func128, Tryz.ntmps128
  go_wp2_with fail
  refine (enter_yes E G p _ _ (h.out.alloc G _) hp (by omega) (by omega)).mono ?_
  rintro e w1 ⟨rfl, hd1, hg1⟩
  rw [HOP.out] at hd1
  have HG1 : Hid (w.grownBy w1 (some E.R)) := grown_tr (grown_alloc (grown_bel (Below.refl _ w)) _) hg1
  have HZ1 : Hid (w1.heap[w.heap.size]? = some ZE) := kept_on hg1 (by omega) (heap_alloc_new w ZE)
  have HD1 := hide2 hd1
  clear hg1 hd1
  go_wp2_with fail
  refine (hF.out p r _ HD1 hp hR2).mono ?_
  rintro e w2 ⟨hg2, hf2⟩
  have HG2 : Hid (w.grownBy w2 (some E.R)) := grown_tr HG1.out hg2
  have hZ2 : w2.heap[w.heap.size]? = some ZE := kept_on hg2 (by omega) HZ1.out
  have hw1 : w.heap.size < w1.heap.size := lt_of_block HZ1.out
  cases r with
  | error er =>
    obtain ⟨e1, e2⟩ := er
    obtain ⟨rfl, q, o, hd2, ho1, ho2⟩ := hf2
    have HD2 := hide2 hd2
    clear hd2 hg2 hZ2
    go_wp2
    refine leaves_cons (f := 107) (args := #[.pointer (some ⟨E.R, 0, none⟩)]) (by simp) (by simp [go_sem]) ?_
    refine (leave_d E G q o _ _ HD2 (by omega) (by omega)).mono ?_
    rintro e u' w3 ⟨rfl, rfl, hd3, hg3⟩
    exact ⟨grown_tr HG2.out hg3, rfl, q, o - 1, hd3, by omega, by omega⟩
  | ok qx =>
    obtain ⟨q, x⟩ := qx
    obtain ⟨⟨v, rfl, a, c, n, rfl, hq⟩, hd2⟩ := hf2
    have HD2 := hide2 hd2
    have HQ := hide2 hq
    obtain ⟨⟨z0, z1, z2, z3⟩, y0, y1, y2, y3⟩ := ex_cells hZ2
    have hRw : E.R < w.heap.size := hR
    have hW := four_block hZ2 (.int .i64 x.kind) (.int .i64 x.n) (.string x.name) (.slice a x.kids.length c)
    have HWb := hide2 hW
    have HGW := hide2 (grown_four HG2.out (Nat.le_refl _) (.int .i64 x.kind) (.int .i64 x.n) (.string x.name) (.slice a x.kids.length c))
    have HDW : Hid (Rdy E ((((w2.setCell ⟨w.heap.size, 0, none⟩ (.int .i64 x.kind)).setCell ⟨w.heap.size, 1, none⟩ (.int .i64 x.n)).setCell ⟨w.heap.size, 2, none⟩ (.string x.name)).setCell ⟨w.heap.size, 3, none⟩ (.slice a x.kids.length c)) q (200 - (d : Int))) := h.out.grown G HGW.out (HD2.out.rd.four (by omega) _ _ _ _)
    have hz2 := HG2.out.size
    have hz21 : w1.heap.size ≤ w2.heap.size := hg2.size
    clear hd2 hg2 hq hW hZ2
    go_wp2
    refine leaves_cons (f := 107) (args := #[.pointer (some ⟨E.R, 0, none⟩)]) (by simp) (by simp [go_sem]) ?_
    refine (leave_d E G q _ _ _ HDW (by omega) (by omega)).mono ?_
    rintro e u' w3 ⟨rfl, rfl, hd3, hg3⟩
    obtain ⟨⟨t0, t1, t2, t3⟩, _⟩ := ex_cells (kept_on hg3 (by omega) HWb.out)
    rw [show (200 : Int) - (d : Int) - 1 = 200 - ((d + 1 : Nat) : Int) by omega] at hd3
    show Leaves _ _ _ _ [] .returning _
    have hs3 := hg3.size
    simp only [World.setCell_size] at hs3
    refine ⟨exV x a c, by simp [results, Tryz.results128, go_sem, t0, t1, t2, t3], grown_tr HGW.out hg3, ⟨_, rfl, a, c, n, rfl, HQ.out.keep (fun b hb => ⟨⟨by omega, by omega⟩, ?_⟩)⟩, hd3⟩
    rw [hg3.block b (by simp only [World.setCell_size]; omega) (by simp; omega), far_four (by omega)]

end Go.Proofs.YtlnikpcoejpknaaGreatDoor

/- The walks of turned, of exactly, and of ahead. -/
namespace Go.Proofs.YtlnikpcoejpknaaGreatDoor
open Go.RowKit

/-- One kid in a new row. -/
theorem ExQ.one {Q : Nat → Prop} {w : World} {n b : Nat} {kd nn : Int} {s : ByteArray} {y : Sy.Ex} {a : Option Addr} {c : Nat} (hq : ExQ Q w n y a) (hb : Q b) (hs : s.size ≤ 6000) (hw : w.heap[b]? = some (exO y.kind y.n y.name (.slice a y.kids.length c))) : ExQ Q w (n + 1) ⟨kd, nn, s, [y]⟩ (some ⟨b, 0, none⟩) := by
  obtain ⟨⟨x0, x1, x2, x3⟩, _⟩ := ex_cells hw
  refine ⟨hs, by simp, fun i k hk => ?_⟩
  match i, hk with
  | 0, hk =>
    simp at hk
    subst hk
    exact ⟨b, 0, a, c, rfl, hb, x0, x1, x2, x3, hq⟩
  | i + 1, hk => simp at hk

set_option maxRecDepth 100000 in
set_option maxHeartbeats 1000000 in
theorem turned_more (E : Env) (G : Good E) (d : Nat) (hd : d < 200) (hF : Hid (CAhead E d)) : CTurned E (d + 1) := by
  intro kind p r w h hp hr
  have hR := h.out.lt
  obtain ⟨r1, hr1⟩ : ∃ r1, r1 = Rp.ahead E.l E.en d p := ⟨_, rfl⟩
  have HR1 := hide2 hr1
  have HE1 : Hid (r = Rp.andThen r1 fun q y => .ok (q, ⟨kind, 0, ⟨#[]⟩, [y]⟩)) := by rw [hr.out, hr1]; rfl
  have HOP : Hid ((200 : Int) - ((d + 1 : Nat) : Int) + 1 = 200 - (d : Int)) := by unfold Hid; omega
  clear hr1
  go_enter_defers Tryz.func161, Tryz.ntmps161
  go_wp2_with fail
  refine (enter_yes E G p _ _ (h.out.alloc G _) hp (by omega) (by omega)).mono ?_
  rintro e w1 ⟨rfl, hd1, hg1⟩
  rw [HOP.out] at hd1
  have HG1 : Hid (w.grownBy w1 (some E.R)) := grown_tr (grown_alloc (grown_bel (Below.refl _ w)) _) hg1
  have HZ1 : Hid (w1.heap[w.heap.size]? = some ZE) := kept_on hg1 (by omega) (heap_alloc_new w ZE)
  have HD1 := hide2 hd1
  clear hg1 hd1
  go_wp2_with fail
  refine (hF.out p r1 _ HD1 hp HR1).mono ?_
  rintro e w2 ⟨hg2, hf2⟩
  have HG2 : Hid (w.grownBy w2 (some E.R)) := grown_tr HG1.out hg2
  have hZ2 : w2.heap[w.heap.size]? = some ZE := kept_on hg2 (by omega) HZ1.out
  have hw1 : w.heap.size < w1.heap.size := lt_of_block HZ1.out
  cases r1 with
  | error er =>
    obtain ⟨e1, e2⟩ := er
    obtain ⟨rfl, q, o, hd2, ho1, ho2⟩ := hf2
    have HD2 := hide2 hd2
    have HRr : Hid (r = .error (e1, e2)) := HE1.out
    clear hd2 hg2 hZ2
    go_wp2
    refine leaves_cons (f := 107) (args := #[.pointer (some ⟨E.R, 0, none⟩)]) (by simp) (by simp [go_sem]) ?_
    refine (leave_d E G q o _ _ HD2 (by omega) (by omega)).mono ?_
    rintro e u' w3 ⟨rfl, rfl, hd3, hg3⟩
    refine ⟨grown_tr HG2.out hg3, ?_⟩
    rw [HRr.out]
    exact ⟨rfl, q, o - 1, hd3, by omega, by omega⟩
  | ok qx =>
    obtain ⟨q, y⟩ := qx
    obtain ⟨⟨v, rfl, a, c, n, rfl, hq⟩, hd2⟩ := hf2
    have HRr : Hid (r = .ok (q, ⟨kind, 0, ⟨#[]⟩, [y]⟩)) := HE1.out
    have HD2 := hide2 hd2
    have HQ := hide2 hq
    obtain ⟨⟨z0, z1, z2, z3⟩, y0, y1, y2, y3⟩ := ex_cells hZ2
    have hz2 := HG2.out.size
    have hz21 : w1.heap.size ≤ w2.heap.size := hg2.size
    obtain ⟨W, hWd⟩ : ∃ W, W = ((((w2.setCell ⟨w.heap.size, 0, none⟩ (.int .i64 kind)).setCell ⟨w.heap.size, 1, none⟩ (.int .i64 0)).setCell ⟨w.heap.size, 2, none⟩ (.string ⟨#[]⟩)).setCell ⟨w.heap.size, 3, none⟩ (.slice (some ⟨w2.heap.size, 0, none⟩) 1 1)).alloc (exO y.kind y.n y.name (.slice a y.kids.length c)) := ⟨_, rfl⟩
    have HWz : Hid (W.heap.size = w2.heap.size + 1) := by unfold Hid; rw [hWd]; simp
    have HGW : Hid (w.grownBy W (some E.R)) := by unfold Hid; rw [hWd]; exact grown_alloc (grown_four HG2.out (Nat.le_refl _) _ _ _ _) _
    have HDW : Hid (Rdy E W q (200 - (d : Int))) := by
      refine h.out.grown G HGW.out ?_
      rw [hWd]
      exact ((HD2.out.rd.four (by omega) _ _ _ _).on ((Below.refl _ _).alloc (Nat.le_refl _) _))
    have HWb : Hid (W.heap[w.heap.size]? = some (exO kind 0 ⟨#[]⟩ (.slice (some ⟨w2.heap.size, 0, none⟩) 1 1))) := by
      unfold Hid
      rw [hWd, Below.heap_alloc _ _ _ (by simp only [World.setCell_size]; omega)]
      exact four_block hZ2 _ _ _ _
    have HWk : Hid (W.heap[w2.heap.size]? = some (exO y.kind y.n y.name (.slice a y.kids.length c))) := by
      unfold Hid
      rw [hWd]
      have := heap_alloc_new ((((w2.setCell ⟨w.heap.size, 0, none⟩ (.int .i64 kind)).setCell ⟨w.heap.size, 1, none⟩ (.int .i64 0)).setCell ⟨w.heap.size, 2, none⟩ (.string ⟨#[]⟩)).setCell ⟨w.heap.size, 3, none⟩ (.slice (some ⟨w2.heap.size, 0, none⟩) 1 1)) (exO y.kind y.n y.name (.slice a y.kids.length c))
      simpa only [World.setCell_size] using this
    have HWf : Hid (∀ b, w1.heap.size ≤ b → b < w2.heap.size → W.heap[b]? = w2.heap[b]?) := by
      intro b hb1 hb2
      rw [hWd, Below.heap_alloc _ _ _ (by simp only [World.setCell_size]; omega), far_four (by omega)]
    have HWe := hide2 hWd.symm
    have hlt2 : w.heap.size < w2.heap.size := by omega
    clear hd2 hg2 hq hZ2 hWd
    go_wp2
    rw [HWe.out]
    refine leaves_cons (f := 107) (args := #[.pointer (some ⟨E.R, 0, none⟩)]) (by simp) (by simp [go_sem]) ?_
    refine (leave_d E G q _ _ _ HDW (by omega) (by omega)).mono ?_
    rintro e u' w3 ⟨rfl, rfl, hd3, hg3⟩
    have hs3 := hg3.size
    have hWz := HWz.out
    obtain ⟨⟨t0, t1, t2, t3⟩, _⟩ := ex_cells (kept_on hg3 (by omega) HWb.out)
    rw [show (200 : Int) - (d : Int) - 1 = 200 - ((d + 1 : Nat) : Int) by omega] at hd3
    show Leaves _ _ _ _ [] .returning _
    refine ⟨exV ⟨kind, 0, ⟨#[]⟩, [y]⟩ (some ⟨w2.heap.size, 0, none⟩) 1, by simp [results, Tryz.results161, go_sem, t0, t1, t2, t3], grown_tr HGW.out hg3, ?_⟩
    rw [HRr.out]
    refine ⟨⟨_, rfl, _, 1, n + 1, rfl, ExQ.one (HQ.out.keep (fun b hb => ⟨⟨by omega, by omega⟩, ?_⟩)) ⟨by omega, by omega⟩ (by decide) (kept_on hg3 (by omega) HWk.out)⟩, hd3⟩
    rw [hg3.block b (by omega) (by simp; omega), HWf.out b hb.1 hb.2]

end Go.Proofs.YtlnikpcoejpknaaGreatDoor

