/- The walk of ahead. -/
import Derived.Test.YtlnikpcoejpknaaGreatDoorM13
import Derived.Deep.RegionWith
import Derived.Deep.DeepCutAuto
namespace Go.Proofs.YtlnikpcoejpknaaGreatDoor
open Go.RowKit


def CPiece (E : Env) (d : Nat) : Prop := ∀ (p : Nat) (r : Res Sy.Ex) (w : World), Hid (Rdy E w p (200 - (d : Int))) → p ≤ E.l.length → Hid (r = Rp.piece E.l E.en d (Rp.prevOf E.l E.en d) p) →
  Calls Tryz.prog 162 #[.pointer (some ⟨E.R, 0, none⟩)] w fun e w' => Ends E (200 - (d : Int)) w r (ExV w) e w'


set_option maxRecDepth 100000 in
set_option maxHeartbeats 1000000 in
theorem ahead_f (E : Env) (G : Good E) (d : Nat) (hT : Hid (CTurned E d)) (hP : Hid (CPiece E d)) : CAhead E d := by
  intro p r w h hp hr
  have hR := h.out.lt
  have hr0 : r = Rp.aheadS E.l E.en d (Rp.prevOf E.l E.en d) p := by rw [hr.out, Rp.ahead_eq]
  have HGa : Hid (w.grownBy (w.alloc ZE) (some E.R)) := grown_alloc (grown_bel (Below.refl _ w)) _
  have HD0 : Hid (Rdy E (w.alloc ZE) p (200 - (d : Int))) := h.out.alloc G _
  cases h1 : tk E.l p ⟨#[45]⟩ with
  | true =>
    have HRt : Hid (r = Rp.turned E.l E.en d (Rp.prevOf E.l E.en d) 4 (p + 1)) := by rw [hr0]; unfold Rp.aheadS; rw [h1]; rfl
    have hp1 : p + 1 ≤ E.l.length := Rp.tk_step h1
    clear hr0
    go_enter Tryz.func156, Tryz.ntmps156
    go_wp2_with fail
    refine (take_f E G p _ ⟨#[45]⟩ true (p + 1) _ HD0 hp h1.symm rfl).mono ?_
    rintro e w1 ⟨rfl, hd1, hg1⟩
    have HG1 : Hid (w.grownBy w1 (some E.R)) := grown_tr HGa.out hg1
    have HZ1 : Hid (w1.heap[w.heap.size]? = some ZE) := kept_on hg1 (by omega) (heap_alloc_new w ZE)
    have HD1 := hide2 hd1
    clear hd1 hg1
    go_wp2_with fail
    refine (hT.out 4 (p + 1) r _ HD1 hp1 HRt).mono ?_
    rintro e w8 ⟨hg8, hf8⟩
    have HG8 : Hid (w.grownBy w8 (some E.R)) := grown_tr HG1.out hg8
    have hZ8 : w8.heap[w.heap.size]? = some ZE := kept_on hg8 (by omega) HZ1.out
    have hwj : w.heap.size < w1.heap.size := lt_of_block HZ1.out
    cases r with
    | error er =>
      obtain ⟨e1, e2⟩ := er
      obtain ⟨rfl, hd8⟩ := hf8
      have HD8 := hide2 hd8
      clear hd8 hg8 hZ8
      go_wp2
      exact ⟨rfl, HG8.out, rfl, HD8.out⟩
    | ok qx =>
      obtain ⟨q, x⟩ := qx
      obtain ⟨⟨v, rfl, a, c, n, rfl, hq⟩, hd8⟩ := hf8
      have HD8 := hide2 hd8
      have HQ := hide2 hq
      obtain ⟨⟨z0, z1, z2, z3⟩, y0, y1, y2, y3⟩ := ex_cells hZ8
      clear hd8 hg8 hq hZ8
      go_wp2
      refine bodyPost_ret (v := exV x a c) (by simp [results, Tryz.results156, go_sem, z0, z1, z2, z3]) rfl ?_
      refine ⟨grown_four HG8.out (Nat.le_refl _) _ _ _ _, ⟨_, rfl, a, c, n, rfl, HQ.out.keep (fun b hb => ⟨⟨by omega, by simp only [World.setCell_size]; omega⟩, far_four (by omega) _ _ _ _⟩)⟩, h.out.grown G (grown_four HG8.out (Nat.le_refl _) _ _ _ _) (HD8.out.rd.four (by omega) _ _ _ _)⟩
  | false =>
    cases h2 : tk E.l p ⟨#[110, 111, 116]⟩ with
    | true =>
      have HRt : Hid (r = Rp.turned E.l E.en d (Rp.prevOf E.l E.en d) 5 (p + 1)) := by rw [hr0]; unfold Rp.aheadS; rw [h1, h2]; rfl
      have hp1 : p + 1 ≤ E.l.length := Rp.tk_step h2
      clear hr0
      go_enter Tryz.func156, Tryz.ntmps156
      go_wp2_with fail
      refine (take_f E G p _ ⟨#[45]⟩ false p _ HD0 hp h1.symm rfl).mono ?_
      rintro e w1 ⟨rfl, hd1, hg1⟩
      have HG1 : Hid (w.grownBy w1 (some E.R)) := grown_tr HGa.out hg1
      have HZ1 : Hid (w1.heap[w.heap.size]? = some ZE) := kept_on hg1 (by omega) (heap_alloc_new w ZE)
      have HD1 := hide2 hd1
      clear hd1 hg1
      go_wp2_with fail
      refine (take_f E G p _ ⟨#[110, 111, 116]⟩ true (p + 1) _ HD1 hp h2.symm rfl).mono ?_
      rintro e w2 ⟨rfl, hd2, hg2⟩
      have HG2 : Hid (w.grownBy w2 (some E.R)) := grown_tr HG1.out hg2
      have HZ2 : Hid (w2.heap[w.heap.size]? = some ZE) := kept_on hg2 (by omega) HZ1.out
      have HD2 := hide2 hd2
      clear hd2 hg2
      go_wp2_with fail
      refine (hT.out 5 (p + 1) r _ HD2 hp1 HRt).mono ?_
      rintro e w8 ⟨hg8, hf8⟩
      have HG8 : Hid (w.grownBy w8 (some E.R)) := grown_tr HG2.out hg8
      have hZ8 : w8.heap[w.heap.size]? = some ZE := kept_on hg8 (by omega) HZ2.out
      have hwj : w.heap.size < w2.heap.size := lt_of_block HZ2.out
      cases r with
      | error er =>
        obtain ⟨e1, e2⟩ := er
        obtain ⟨rfl, hd8⟩ := hf8
        have HD8 := hide2 hd8
        clear hd8 hg8 hZ8
        go_wp2
        exact ⟨rfl, HG8.out, rfl, HD8.out⟩
      | ok qx =>
        obtain ⟨q, x⟩ := qx
        obtain ⟨⟨v, rfl, a, c, n, rfl, hq⟩, hd8⟩ := hf8
        have HD8 := hide2 hd8
        have HQ := hide2 hq
        obtain ⟨⟨z0, z1, z2, z3⟩, y0, y1, y2, y3⟩ := ex_cells hZ8
        clear hd8 hg8 hq hZ8
        go_wp2
        refine bodyPost_ret (v := exV x a c) (by simp [results, Tryz.results156, go_sem, z0, z1, z2, z3]) rfl ?_
        refine ⟨grown_four HG8.out (Nat.le_refl _) _ _ _ _, ⟨_, rfl, a, c, n, rfl, HQ.out.keep (fun b hb => ⟨⟨by omega, by simp only [World.setCell_size]; omega⟩, far_four (by omega) _ _ _ _⟩)⟩, h.out.grown G (grown_four HG8.out (Nat.le_refl _) _ _ _ _) (HD8.out.rd.four (by omega) _ _ _ _)⟩
    | false =>
      have HRt : Hid (r = Rp.piece E.l E.en d (Rp.prevOf E.l E.en d) p) := by rw [hr0]; unfold Rp.aheadS; rw [h1, h2]; rfl
      clear hr0
      go_enter Tryz.func156, Tryz.ntmps156
      go_wp2_with fail
      refine (take_f E G p _ ⟨#[45]⟩ false p _ HD0 hp h1.symm rfl).mono ?_
      rintro e w1 ⟨rfl, hd1, hg1⟩
      have HG1 : Hid (w.grownBy w1 (some E.R)) := grown_tr HGa.out hg1
      have HZ1 : Hid (w1.heap[w.heap.size]? = some ZE) := kept_on hg1 (by omega) (heap_alloc_new w ZE)
      have HD1 := hide2 hd1
      clear hd1 hg1
      go_wp2_with fail
      refine (take_f E G p _ ⟨#[110, 111, 116]⟩ false p _ HD1 hp h2.symm rfl).mono ?_
      rintro e w2 ⟨rfl, hd2, hg2⟩
      have HG2 : Hid (w.grownBy w2 (some E.R)) := grown_tr HG1.out hg2
      have HZ2 : Hid (w2.heap[w.heap.size]? = some ZE) := kept_on hg2 (by omega) HZ1.out
      have HD2 := hide2 hd2
      clear hd2 hg2
      go_wp2_with fail
      refine (hP.out p r _ HD2 hp HRt).mono ?_
      rintro e w8 ⟨hg8, hf8⟩
      have HG8 : Hid (w.grownBy w8 (some E.R)) := grown_tr HG2.out hg8
      have hZ8 : w8.heap[w.heap.size]? = some ZE := kept_on hg8 (by omega) HZ2.out
      have hwj : w.heap.size < w2.heap.size := lt_of_block HZ2.out
      cases r with
      | error er =>
        obtain ⟨e1, e2⟩ := er
        obtain ⟨rfl, hd8⟩ := hf8
        have HD8 := hide2 hd8
        clear hd8 hg8 hZ8
        go_wp2
        exact ⟨rfl, HG8.out, rfl, HD8.out⟩
      | ok qx =>
        obtain ⟨q, x⟩ := qx
        obtain ⟨⟨v, rfl, a, c, n, rfl, hq⟩, hd8⟩ := hf8
        have HD8 := hide2 hd8
        have HQ := hide2 hq
        obtain ⟨⟨z0, z1, z2, z3⟩, y0, y1, y2, y3⟩ := ex_cells hZ8
        clear hd8 hg8 hq hZ8
        go_wp2
        refine bodyPost_ret (v := exV x a c) (by simp [results, Tryz.results156, go_sem, z0, z1, z2, z3]) rfl ?_
        refine ⟨grown_four HG8.out (Nat.le_refl _) _ _ _ _, ⟨_, rfl, a, c, n, rfl, HQ.out.keep (fun b hb => ⟨⟨by omega, by simp only [World.setCell_size]; omega⟩, far_four (by omega) _ _ _ _⟩)⟩, h.out.grown G (grown_four HG8.out (Nat.le_refl _) _ _ _ _) (HD8.out.rd.four (by omega) _ _ _ _)⟩

end Go.Proofs.YtlnikpcoejpknaaGreatDoor

/- Looks into the map of signs by text; the walk of from. -/
namespace Go.Proofs.YtlnikpcoejpknaaGreatDoor
open Go.RowKit

def txtT (t : ByteArray) : ByteArray := match Sy.table.find? (fun x => decide (x.2.1 = t)) with
  | some x => x.2.1
  | none => ⟨#[]⟩
/-- What a look into the map of signs by text gives. -/
abbrev lookT (t : ByteArray) : Value := .agg #[.int .i64 (Rp.sign t).1, .string (txtT t), .int .i64 (Rp.sign t).2]

theorem ba_beq (a b : ByteArray) : (a == b) = decide (a = b) := by
  cases a with
  | mk x =>
    cases b with
    | mk y =>
      show (x == y) = _
      rw [Bool.eq_iff_iff]
      simp

theorem find_text (t : ByteArray) : ∀ (T : List (Int × ByteArray × Int)) (k i : Nat), (∃ p j, T.find? (fun x => decide (x.2.1 = t)) = some p ∧ Instr.findNow .string (.string t) ((T.zipIdx k).map fun (p, i) => { key := .string p.2.1, val := pairV p, born := i }) i = some (some (j, pairV p))) ∨
    (T.find? (fun x => decide (x.2.1 = t)) = none ∧ Instr.findNow .string (.string t) ((T.zipIdx k).map fun (p, i) => { key := .string p.2.1, val := pairV p, born := i }) i = some none)
  | [], k, i => .inr ⟨rfl, rfl⟩
  | p :: T, k, i => by
    by_cases h : p.2.1 = t
    · refine .inl ⟨p, i, by simp [h], ?_⟩
      have h' : (t == p.2.1) = true := by rw [ba_beq]; simp [h]
      simp only [List.zipIdx_cons, List.map_cons, Instr.findNow, Instr.sameNow, h']
    · have h' : (t == p.2.1) = false := by rw [ba_beq]; simp; exact fun e => h e.symm
      rcases find_text t T (k + 1) (i + 1) with ⟨q, j, h1, h2⟩ | ⟨h1, h2⟩
      · refine .inl ⟨q, j, by simp [h, h1], ?_⟩
        simp only [List.zipIdx_cons, List.map_cons, Instr.findNow, Instr.sameNow, h']
        exact h2
      · refine .inr ⟨by simp [h, h1], ?_⟩
        simp only [List.zipIdx_cons, List.map_cons, Instr.findNow, Instr.sameNow, h']
        exact h2

theorem run_lookT (M : Nat) (t : ByteArray) (w : World) (h : w.heap[M]? = some (.map entriesT.toArray 13)) : (Instr.lookup 41 (.map (some M)) (.string t) false).run Tryz.prog w = .ok (lookT t) w := by
  have hg : (getObj M).run Tryz.prog w = .ok (.map entriesT.toArray 13) w := by simp [getObj, Sem.run, h]
  have hc : ∀ b, (Instr.checkKey b 10000 9 (.string t)).run Tryz.prog w = .ok () w := fun b => MapKept.run_checkKey (n := 9999) Tryz.underlying9 (by simp [MapKept.IsKey]) b
  have hu := run_underlying (w := w) Tryz.underlying41
  rcases find_text t Sy.table 0 0 with ⟨p, j, h1, h2⟩ | ⟨h1, h2⟩
  · have hk := MapKept.run_findKey (P := Tryz.prog) (w := w) (kt := 9) Tryz.underlying9 h2
    have hl : pairV p = lookT t := by unfold lookT txtT Rp.sign; rw [h1]
    rw [hl] at hk
    have hk' : (Instr.findKey 9 (.string t) entriesT).run Tryz.prog w = .ok (some (j, lookT t)) w := hk
    simp [Instr.lookup, hu, hg, hc, hk']
  · have hk := MapKept.run_findKey (P := Tryz.prog) (w := w) (kt := 9) Tryz.underlying9 h2
    have hk' : (Instr.findKey 9 (.string t) entriesT).run Tryz.prog w = .ok none w := hk
    have hz : lookT t = .agg #[.int .i64 0, .string ⟨#[]⟩, .int .i64 0] := by unfold lookT txtT Rp.sign; rw [h1]
    have hzv : (zeroValue 87).run Tryz.prog w = .ok (lookT t) w := by rw [hz]; kernel_rfl
    simp [Instr.lookup, hu, hg, hc, hk', hzv]

end Go.Proofs.YtlnikpcoejpknaaGreatDoor

/- The walk of from. -/
namespace Go.Proofs.YtlnikpcoejpknaaGreatDoor
open Go.RowKit


set_option maxRecDepth 100000 in
set_option maxHeartbeats 1000000 in
theorem from_zero (E : Env) (G : Good E) (d : Nat) (hA : Hid (CAhead E d)) : CFrom E d 0 := by
  intro p r w h hp hr
  have hR := h.out.lt
  have HRt : Hid (r = Rp.ahead E.l E.en d p) := hr.out
  have HG0 : Hid (w.grownBy (w.alloc ZE) (some E.R)) := grown_alloc (grown_bel (Below.refl _ w)) _
  have HZ0 : Hid ((w.alloc ZE).heap[w.heap.size]? = some ZE) := heap_alloc_new w ZE
  have HD0 : Hid (Rdy E (w.alloc ZE) p (200 - (d : Int))) := h.out.alloc G _
  obtain ⟨lv, hlv⟩ : ∃ lv : Int, (6 - ((0 : Nat) : Int)) = lv := ⟨_, rfl⟩
  rw [hlv]
  have e0 : (lv == 6) = true := by simp; omega
  clear hlv
  obtain ⟨w0, hw0⟩ : ∃ w0, w0 = w.alloc ZE := ⟨_, rfl⟩
  rw [← hw0] at HG0 HZ0 HD0
  have HW0 := hide2 hw0.symm
  clear hw0
  go_enter Tryz.func146, Tryz.ntmps146
  go_wp2_with fail
  rw [HW0.out]
  refine (hA.out p r _ HD0 hp HRt).mono ?_
  rintro e w8 ⟨hg8, hf8⟩
  have HG8 : Hid (w.grownBy w8 (some E.R)) := grown_tr HG0.out hg8
  have hZ8 : w8.heap[w.heap.size]? = some ZE := kept_on hg8 (by omega) HZ0.out
  have hwj : w.heap.size < w0.heap.size := lt_of_block HZ0.out
  cases r with
  | error er =>
    obtain ⟨e1, e2⟩ := er
    obtain ⟨rfl, hd8⟩ := hf8
    have HD8 := hide2 hd8
    clear hd8 hg8 hZ8
    go_wp2
    exact ⟨rfl, HG8.out, rfl, HD8.out⟩
  | ok qx =>
    obtain ⟨q, x⟩ := qx
    obtain ⟨⟨v, rfl, a, c, n, rfl, hq⟩, hd8⟩ := hf8
    have HD8 := hide2 hd8
    have HQ := hide2 hq
    obtain ⟨⟨z0, z1, z2, z3⟩, y0, y1, y2, y3⟩ := ex_cells hZ8
    clear hd8 hg8 hq hZ8
    go_wp2
    refine bodyPost_ret (v := exV x a c) (by simp [results, Tryz.results146, go_sem, z0, z1, z2, z3]) rfl ?_
    refine ⟨grown_four HG8.out (Nat.le_refl _) _ _ _ _, ⟨_, rfl, a, c, n, rfl, HQ.out.keep (fun b hb => ⟨⟨by omega, by simp only [World.setCell_size]; omega⟩, far_four (by omega) _ _ _ _⟩)⟩, h.out.grown G (grown_four HG8.out (Nat.le_refl _) _ _ _ _) (HD8.out.rd.four (by omega) _ _ _ _)⟩

/-- What holds at the head of from's loop. -/
structure FrAt (E : Env) (op : Int) (w : World) (N : Nat) (q n : Nat) (x : Sy.Ex) (a : Option Addr) (c : Nat) (u : World) : Prop where
  rdy : Rdy E u q op
  grown : w.grownBy u (some E.R)
  zero : u.heap[w.heap.size]? = some ZE
  box : u.heap[N]? = some (exO x.kind x.n x.name (.slice a x.kids.length c))
  kids : ExQ (fun b => w.heap.size < b ∧ b ≠ N ∧ b < u.heap.size) u n x a
  le : q ≤ E.l.length

def FrRel (E : Env) (op : Int) (w : World) (N : Nat) (next : Nat → Res Sy.Ex) (lv : Int) (r : Res Sy.Ex) (k : Nat) (u : World) : Prop :=
  ∃ q n x a c, FrAt E op w N q n x a c u ∧ E.l.length + 1 - q ≤ k ∧ r = Rp.loop E.l E.en next lv k x q

theorem Rdy.drew {E : Env} {w : World} {p : Nat} {op : Int} (h : Rdy E w p op) : Rdy E w.drew p op := ⟨h.rd, h.tk, h.mp⟩
theorem drew_below {w w' : World} (h : Below w.drew.heap.size w.drew w') : Below w.heap.size w w' := ⟨h.os, h.tape, h.output, h.size, h.block⟩
abbrev PZ : Obj := .cells #[.int .i64 0, .string ⟨#[]⟩, .int .i64 0] 87 (0, 0)
theorem pz_cells {w : World} {N : Nat} {k l : Int} {s : ByteArray} (h : w.heap[N]? = some (.cells #[.int .i64 k, .string s, .int .i64 l] 87 (0, 0))) :
    (w.cell? ⟨N, 0, none⟩ = some (.int .i64 k) ∧ w.cell? ⟨N, 1, none⟩ = some (.string s) ∧ w.cell? ⟨N, 2, none⟩ = some (.int .i64 l)) ∧ w.frozen? ⟨N, 0, none⟩ = false ∧ w.frozen? ⟨N, 1, none⟩ = false ∧ w.frozen? ⟨N, 2, none⟩ = false := by
  simp [World.cell?, World.frozen?, h]

theorem three_block {w : World} {N : Nat} {o1 o2 o3 : Value} (h : w.heap[N]? = some (.cells #[o1, o2, o3] 87 (0, 0))) (a b c : Value) :
    (((w.setCell ⟨N, 0, none⟩ a).setCell ⟨N, 1, none⟩ b).setCell ⟨N, 2, none⟩ c).heap[N]? = some (.cells #[a, b, c] 87 (0, 0)) := by
  simp only [World.setCell, Array.getElem?_modify, if_true, h, Option.map_some]
  rfl

/-- Behind the look at the next sign. -/
structure PrAt (E : Env) (op : Int) (w : World) (N : Nat) (q n : Nat) (x : Sy.Ex) (a : Option Addr) (c : Nat) (t : Lx.Tk) (pv : Value) (wr u : World) : Prop where
  fr : FrAt E op w N q n x a c u
  pair : ∃ NP, pv = .pointer (some ⟨NP, 0, none⟩) ∧ wr.heap.size ≤ NP ∧ u.heap[NP]? = some (.cells #[.int .i64 (Rp.sign t.text).1, .string (txtT t.text), .int .i64 (Rp.sign t.text).2] 87 (0, 0))

theorem RD.cell3 {w : World} {R : Nat} {ta : Option Addr} {tc : Nat} {l : List Lx.Tk} {p en : Nat} {mv : Value} {op : Int} (h : RD w R ta tc l p en mv op) : w.cell? ⟨R, 3, none⟩ = some mv := by
  unfold RD at h
  simp [World.cell?, h]

theorem FrAt.on {E : Env} {op : Int} {w : World} {N q n : Nat} {x : Sy.Ex} {a : Option Addr} {c : Nat} {u u' : World} (h : FrAt E op w N q n x a c u) (G : Good E) (hb : Below u.heap.size u u') : FrAt E op w N q n x a c u' :=
  ⟨h.rdy.on G hb, grown_on h.grown hb, (hb.block _ (lt_of_block h.zero)).trans h.zero, (hb.block _ (lt_of_block h.box)).trans h.box, h.kids.keep (fun b hq => ⟨⟨hq.1, hq.2.1, by have := hb.size; omega⟩, hb.block b hq.2.2⟩), h.le⟩

theorem grown_undrew {w w' : World} {R : Option Nat} (h : w.drew.grownBy w' R) : w.grownBy w' R := ⟨h.os, h.tape, h.output, h.size, h.block⟩

/-- Two kids in a new row. -/
theorem ExQ.two {Q : Nat → Prop} {w : World} {n b : Nat} {kd nn : Int} {s : ByteArray} {x y : Sy.Ex} {a a4 : Option Addr} {c c4 : Nat} (hx : ExQ Q w n x a) (hy : ExQ Q w n y a4) (hb : Q b) (hs : s.size ≤ 6000)
    (hw : w.heap[b]? = some (.cells #[.int .i64 x.kind, .int .i64 x.n, .string x.name, .slice a x.kids.length c, .int .i64 y.kind, .int .i64 y.n, .string y.name, .slice a4 y.kids.length c4] 64 (0, 0))) : ExQ Q w (n + 1) ⟨kd, nn, s, [x, y]⟩ (some ⟨b, 0, none⟩) := by
  refine ⟨hs, by simp, fun i k hk => ?_⟩
  match i, hk with
  | 0, hk =>
    simp at hk
    subst hk
    exact ⟨b, 0, a, c, rfl, hb, by simp [World.cell?, hw], by simp [World.cell?, hw], by simp [World.cell?, hw], by simp [World.cell?, hw], hx⟩
  | 1, hk =>
    simp at hk
    subst hk
    exact ⟨b, 0, a4, c4, rfl, hb, by simp [World.cell?, hw], by simp [World.cell?, hw], by simp [World.cell?, hw], by simp [World.cell?, hw], hy⟩
  | i + 2, hk => simp at hk

/-- A sign and what stands behind it, gathered. -/
theorem FrAt.paired {E : Env} {op : Int} {w : World} {N q q2 p n n4 : Nat} {x y : Sy.Ex} {a a4 : Option Addr} {c c4 : Nat} {u u4 : World} {K : Int} (h : FrAt E op w N q n x a c u) (G : Good E) (h0 : Rdy E w p op) (hR : E.R < w.heap.size) (hNw : w.heap.size < N) (hg : u.grownBy u4 (some E.R)) (hd : Rdy E u4 q2 op) (hy : ExQ (fun b => u.heap.size ≤ b ∧ b < u4.heap.size) u4 n4 y a4) (hN : N < u.heap.size) (hq : q2 ≤ E.l.length) :
    FrAt E op w N q2 (max n n4 + 1) ⟨K, 0, ⟨#[]⟩, [x, y]⟩ (some ⟨u4.heap.size, 0, none⟩) 2 (((((u4.setCell ⟨N, 0, none⟩ (.int .i64 K)).setCell ⟨N, 1, none⟩ (.int .i64 0)).setCell ⟨N, 2, none⟩ (.string ⟨#[]⟩)).setCell ⟨N, 3, none⟩ (.slice (some ⟨u4.heap.size, 0, none⟩) 2 2)).alloc (.cells #[.int .i64 x.kind, .int .i64 x.n, .string x.name, .slice a x.kids.length c, .int .i64 y.kind, .int .i64 y.n, .string y.name, .slice a4 y.kids.length c4] 64)) := by
  have hs := hg.size
  have hgr := grown_tr h.grown hg
  have hgs := hgr.size
  have hG5 := grown_alloc (grown_four hgr (Nat.le_of_lt hNw) (.int .i64 K) (.int .i64 0) (.string ⟨#[]⟩) (.slice (some ⟨u4.heap.size, 0, none⟩) 2 2)) (.cells #[.int .i64 x.kind, .int .i64 x.n, .string x.name, .slice a x.kids.length c, .int .i64 y.kind, .int .i64 y.n, .string y.name, .slice a4 y.kids.length c4] 64)
  have hz5 : ((((u4.setCell ⟨N, 0, none⟩ (.int .i64 K)).setCell ⟨N, 1, none⟩ (.int .i64 0)).setCell ⟨N, 2, none⟩ (.string ⟨#[]⟩)).setCell ⟨N, 3, none⟩ (.slice (some ⟨u4.heap.size, 0, none⟩) 2 2)).heap.size = u4.heap.size := by simp only [World.setCell_size]
  have hbx := four_block (kept_on hg (by omega) h.box) (.int .i64 K) (.int .i64 0) (.string ⟨#[]⟩) (.slice (some ⟨u4.heap.size, 0, none⟩) 2 2)
  refine ⟨h0.grown G hG5 ((hd.rd.four (by omega) _ _ _ _).on ((Below.refl _ _).alloc (Nat.le_refl _) _)), hG5, ?_, ?_, ?_, hq⟩
  · rw [Below.heap_alloc _ _ _ (by rw [hz5]; omega), far_four (by omega)]
    exact kept_on hg (by omega) h.zero
  · rw [Below.heap_alloc _ _ _ (by rw [hz5]; omega)]
    exact hbx
  · have hz6 : (((((u4.setCell ⟨N, 0, none⟩ (.int .i64 K)).setCell ⟨N, 1, none⟩ (.int .i64 0)).setCell ⟨N, 2, none⟩ (.string ⟨#[]⟩)).setCell ⟨N, 3, none⟩ (.slice (some ⟨u4.heap.size, 0, none⟩) 2 2)).alloc (.cells #[.int .i64 x.kind, .int .i64 x.n, .string x.name, .slice a x.kids.length c, .int .i64 y.kind, .int .i64 y.n, .string y.name, .slice a4 y.kids.length c4] 64)).heap.size = u4.heap.size + 1 := by rw [World.size_alloc, hz5]
    rw [hz6]
    have hnew := heap_alloc_new ((((u4.setCell ⟨N, 0, none⟩ (.int .i64 K)).setCell ⟨N, 1, none⟩ (.int .i64 0)).setCell ⟨N, 2, none⟩ (.string ⟨#[]⟩)).setCell ⟨N, 3, none⟩ (.slice (some ⟨u4.heap.size, 0, none⟩) 2 2)) (.cells #[.int .i64 x.kind, .int .i64 x.n, .string x.name, .slice a x.kids.length c, .int .i64 y.kind, .int .i64 y.n, .string y.name, .slice a4 y.kids.length c4] 64)
    rw [hz5] at hnew
    refine ExQ.two (c := c) (c4 := c4) ((h.kids.keep (fun b hb => ⟨⟨hb.1, hb.2.1, by omega⟩, ?_⟩)).up (by omega)) ((hy.keep (fun b hb => ⟨⟨by omega, by omega, by omega⟩, ?_⟩)).up (by omega)) ⟨by omega, by omega, by omega⟩ (by decide) hnew
    · rw [Below.heap_alloc _ _ _ (by rw [hz5]; omega), far_four hb.2.1]
      exact hg.block b hb.2.2 (by simp; omega)
    · rw [Below.heap_alloc _ _ _ (by rw [hz5]; omega), far_four (by omega)]


theorem sign_lt {l : List Lx.Tk} {q en : Nat} (h : (Rp.sign (pk l q en).text).2 ≠ 0) : q + 1 ≤ l.length := by
  by_cases hlt : q < l.length
  · exact hlt
  · exfalso
    apply h
    have e : (pk l q en).text = ⟨#[]⟩ := by unfold pk; rw [List.getElem?_eq_none (by omega)]; rfl
    rw [e]
    decide

/-- One token further on. -/
theorem FrAt.skipped {E : Env} {op : Int} {w : World} {N q q' n : Nat} {x : Sy.Ex} {a : Option Addr} {c : Nat} {u u' : World} (h : FrAt E op w N q n x a c u) (hg : u.grownBy u' (some E.R)) (hd : Rdy E u' q' op) (hq : q' ≤ E.l.length) (hR : E.R < w.heap.size) (hNw : w.heap.size < N) : FrAt E op w N q' n x a c u' :=
  ⟨hd, grown_tr h.grown hg, kept_on hg (by omega) h.zero, kept_on hg (by omega) h.box, h.kids.keep (fun b hb => ⟨⟨hb.1, hb.2.1, by have := hg.size; omega⟩, hg.block b hb.2.2 (by simp; omega)⟩), hq⟩

set_option maxRecDepth 100000 in
set_option maxHeartbeats 2000000 in
theorem from_succ (E : Env) (G : Good E) (d k : Nat) (hk : k ≤ 4) (hF : Hid (CFrom E d k)) : CFrom E d (k + 1) := by
  intro p r w h hp hr
  have hR := h.out.lt
  obtain ⟨next, hnx⟩ : ∃ next, next = Rp.from' E.l E.en (Rp.ahead E.l E.en d) k := ⟨_, rfl⟩
  have HNX : Hid (∀ p, next p = Rp.from' E.l E.en (Rp.ahead E.l E.en d) k p) := fun p => by rw [hnx]
  have HAD : Hid (Rp.Adv E.l next) := by unfold Hid; rw [hnx]; exact Rp.from_adv (Rp.ahead_adv E.l E.en d) k (by omega)
  obtain ⟨r1, hr1⟩ : ∃ r1, r1 = next p := ⟨_, rfl⟩
  obtain ⟨lv, hlv⟩ : ∃ lv : Int, (6 - ((k + 1 : Nat) : Int)) = lv := ⟨_, rfl⟩
  have HE1 : Hid (r = Rp.andThen r1 fun q x => Rp.loop E.l E.en next lv (E.l.length + 1) x q) := by
    rw [hr.out, hr1, hnx, ← hlv, show (6 : Int) - ((k + 1 : Nat) : Int) = 5 - (k : Int) by omega]; rfl
  have HR1 : Hid (r1 = Rp.from' E.l E.en (Rp.ahead E.l E.en d) k p) := by rw [hr1, hnx]; rfl
  have HA1 : Hid (∀ q x, r1 = .ok (q, x) → q ≤ E.l.length) := fun q x hx => (HAD.out p q x hp (by rw [← hr1, hx])).2
  rw [hlv]
  have e0 : (lv == 6) = false := by simp; omega
  have HLV : Hid (lv + 1 = 6 - (k : Int)) := by unfold Hid; omega
  have l1 : 1 ≤ lv := by omega
  have l2 : lv ≤ 5 := by omega
  clear hnx hr1 hlv
  go_enter Tryz.func146, Tryz.ntmps146
  go_wp2_with fail
  rw [HLV.out]
  refine (hF.out p r1 _ (h.out.alloc G _) hp HR1).mono ?_
  rintro e w1 ⟨hg1, hf1⟩
  have HG1 : Hid (w.grownBy w1 (some E.R)) := grown_tr (grown_alloc (grown_bel (Below.refl _ w)) _) hg1
  have HZ1 : Hid (w1.heap[w.heap.size]? = some ZE) := kept_on hg1 (by omega) (heap_alloc_new w ZE)
  have hw1 : w.heap.size < w1.heap.size := lt_of_block HZ1.out
  clear hg1
  cases r1 with
  | error er =>
    obtain ⟨e1, e2⟩ := er
    obtain ⟨rfl, hd1⟩ := hf1
    have HD1 := hide2 hd1
    have HRr : Hid (r = .error (e1, e2)) := HE1.out
    clear hd1
    go_wp2
    exact ⟨rfl, HG1.out, by rw [HRr.out]; exact ⟨rfl, HD1.out⟩⟩
  | ok qx =>
    obtain ⟨q0, x0⟩ := qx
    obtain ⟨⟨v, rfl, a0, c0, n0, rfl, hq0⟩, hd1⟩ := hf1
    have HE2 : Hid (r = Rp.loop E.l E.en next lv (E.l.length + 1) x0 q0) := HE1.out
    have HST : Hid (FrRel E (200 - (d : Int)) w w1.heap.size next lv r (E.l.length + 1) (w1.alloc (exO x0.kind x0.n x0.name (.slice a0 x0.kids.length c0)))) :=
      ⟨q0, n0, x0, a0, c0, ⟨hd1.alloc G _, grown_alloc HG1.out _, (Below.heap_alloc _ _ _ (by omega)).trans HZ1.out, heap_alloc_new w1 _, hq0.keep (fun b hb => ⟨⟨by have := hb.1; simp at this; omega, by omega, by simp; omega⟩, Below.heap_alloc _ _ _ hb.2⟩), HA1.out q0 x0 rfl⟩, by omega, HE2.out⟩
    clear hd1 hq0
    go_wp2
    go_loopg [] (E.l.length + 1) (fun kk wr => FrRel E (200 - (d : Int)) w w1.heap.size next lv r kk wr)
    case atStart => exact HST.out
    case round =>
      obtain ⟨q, n, x, a, c, hA, hkk, hrr⟩ := hrel
      clear HST
      have HA := hide2 hA
      have HKK := hide2 hkk
      have HRR := hide2 hrr
      obtain ⟨t, ht⟩ : ∃ t, t = pk E.l q E.en := ⟨_, rfl⟩
      have HT := hide2 ht
      have cR3 : wr.cell? ⟨E.R, 3, none⟩ = some (.map (some E.M)) := hA.rdy.rd.cell3
      have hql := hA.le
      have hRw := hA.rdy.lt
      clear hA hkk hrr ht
      go_upto_region 4 with fail
      go_cut [6] (fun pv wx => PrAt E (200 - (d : Int)) w w1.heap.size q n x a c t pv wr wx)
      case first =>
        have hf := tok_text t.kind t.num t.pos t.text
        have hne : ¬ wr.heap.size = E.R := by omega
        go_region_held3 (fun w' => w'.cell? ⟨E.R, 3, none⟩ = some (.map (some E.M))) (go_keep) ((go_at_call 66; first | (refine (peek_f E G q (200 - (d : Int)) t _ (by exact HA.out.rdy.drew) hql HT).mono ?_; rintro e w2 ⟨rfl, hb2⟩; have HB2 : Hid (Below wr.heap.size wr w2) := drew_below hb2; have HF2 := hide2 (HA.out.on G HB2.out); have HS2 : Hid (wr.heap.size ≤ w2.heap.size) := hb2.size; have cR2 : w2.cell? ⟨E.R, 3, none⟩ = some (.map (some E.M)) := HF2.out.rdy.rd.cell3; have k1 := run_lookT E.M t.text w2 HF2.out.rdy.mp; have k2 := run_lookT E.M t.text (w2.alloc PZ) (HF2.out.rdy.alloc G _).mp; have hRw2 : E.R < w2.heap.size := HF2.out.rdy.lt; clear hb2) | (refine (peek_f E G q (200 - (d : Int)) t _ (by exact (HA.out.rdy.alloc G PZ).drew) hql HT).mono ?_; rintro e w2 ⟨rfl, hb2⟩; have HB2 : Hid (Below wr.heap.size wr w2) := ((Below.refl _ wr).alloc (Nat.le_refl _) PZ).trans ((drew_below hb2).mono (by simp)); have HF2 := hide2 (HA.out.on G HB2.out); have HP2 : Hid (w2.heap[wr.heap.size]? = some PZ) := (hb2.block _ (by simp)).trans (heap_alloc_new wr PZ); have HS2 : Hid (wr.heap.size ≤ w2.heap.size) := (Nat.le_of_lt (lt_of_block HP2.out)); have cR2 : w2.cell? ⟨E.R, 3, none⟩ = some (.map (some E.M)) := HF2.out.rdy.rd.cell3; have k1 := run_lookT E.M t.text w2 HF2.out.rdy.mp; obtain ⟨⟨p0, p1, p2⟩, p3, p4, p5⟩ := pz_cells HP2.out; have hRw2 : E.R < w2.heap.size := HF2.out.rdy.lt; clear hb2)))
        all_goals
          go_wp2_with fail
          go_meet
          first | exact ⟨HA.out.on G (HB2.out.alloc HB2.out.size _), w2.heap.size, rfl, HB2.out.size, heap_alloc_new w2 _⟩ | exact ⟨HA.out.on G (((HB2.out.setCell (p := ⟨wr.heap.size, 0, none⟩) (Nat.le_refl _) _).setCell (p := ⟨wr.heap.size, 1, none⟩) (Nat.le_refl _) _).setCell (p := ⟨wr.heap.size, 2, none⟩) (Nat.le_refl _) _), wr.heap.size, rfl, Nat.le_refl _, three_block HP2.out _ _ _⟩
      case rest =>
        obtain ⟨hfr, NP, rfl, hNP, hpb⟩ := hcut
        obtain ⟨f, rfl⟩ : ∃ f, gk = f + 1 := ⟨gk - 1, by have := HKK.out; omega⟩
        have HFR := hide2 hfr
        have HPB := hide2 hpb
        have hqx := HRR.out
        rw [Rp.loop, ← HT.out] at hqx
        obtain ⟨K1, hK1⟩ : ∃ K1, (Rp.sign t.text).1 = K1 := ⟨_, rfl⟩
        obtain ⟨K2, hK2⟩ : ∃ K2, (Rp.sign t.text).2 = K2 := ⟨_, rfl⟩
        rw [hK1, hK2] at hqx hpb
        have HQX := hide2 hqx
        have HPB2 := hide2 hpb
        obtain ⟨⟨p0, p1, p2⟩, _⟩ := pz_cells hpb
        have hwc := lt_of_block hpb
        have hzero := hfr.zero
        have hbox := hfr.box
        have hszw : w.heap.size < wc.heap.size := lt_of_block hfr.zero
        have hszN : w1.heap.size < wc.heap.size := lt_of_block hfr.box
        have hwr : w1.heap.size < wr.heap.size := lt_of_block HA.out.box
        clear hK1 hqx HRR HA HPB cR3 hRw
        by_cases hs : K2 = lv
        · have e1 : (K2 != lv) = false := by simp; exact hs
          have HS := hide2 hs
          have hql2 : q + 1 ≤ E.l.length := by
            have hne0 : (Rp.sign (pk E.l q E.en).text).2 ≠ 0 := by rw [← HT.out, hK2]; omega
            exact sign_lt hne0
          obtain ⟨r2, hr2⟩ : ∃ r2, r2 = next (q + 1) := ⟨_, rfl⟩
          have HR2 : Hid (r2 = Rp.from' E.l E.en (Rp.ahead E.l E.en d) k (q + 1)) := by rw [hr2]; exact HNX.out (q + 1)
          have HA2 : Hid (∀ q2 y, r2 = .ok (q2, y) → q + 1 < q2 ∧ q2 ≤ E.l.length) := fun q2 y hx => HAD.out (q + 1) q2 y hql2 (by rw [← hr2, hx])
          have HEr : Hid (r = Rp.andThen r2 fun q2 y => if lv = 3 then .ok (q2, ⟨K1, 0, ⟨#[]⟩, [x, y]⟩) else Rp.loop E.l E.en next lv f ⟨K1, 0, ⟨#[]⟩, [x, y]⟩ q2) := by
            have := HQX.out
            rw [if_neg (by simpa using hs), ← hr2] at this
            exact this
          clear hs hfr hpb p1 hzero hbox hK2 hr2 HQX
          go_wp2_with fail
          refine (skip_f E G q _ _ HFR.out.rdy hql).mono ?_
          rintro e w3 ⟨rfl, hd3, hg3⟩
          have HF3 := hide2 (HFR.out.skipped hg3 hd3 hql2 hR hw1)
          have HP3 : Hid (w3.heap[NP]? = some (.cells #[.int .i64 K1, .string (txtT t.text), .int .i64 K2] 87 (0, 0))) := kept_on hg3 (by omega) HPB2.out
          have hs3 := hg3.size
          obtain ⟨⟨p0', _, _⟩, _⟩ := pz_cells HP3.out
          obtain ⟨⟨b0, b1, b2, b3⟩, g0, g1, g2, g3⟩ := ex_cells HF3.out.box
          clear hd3 hg3 p0 p2
          have wL : IntKind.i64.wrap (lv + 1) = lv + 1 := IntWalk.i64_in _ ⟨by omega, by omega⟩
          cases r2 with
          | error er =>
            obtain ⟨e1', e2'⟩ := er
            have HRr : Hid (r = .error (e1', e2')) := HEr.out
            go_upto_region 8 with fail
            refine wp_region_held_drew (S := fun w' => w'.cell? ⟨NP, 0, none⟩ = some (.int .i64 K1) ∧ w'.cell? ⟨w1.heap.size, 0, none⟩ = some (.int .i64 x.kind) ∧ w'.cell? ⟨w1.heap.size, 1, none⟩ = some (.int .i64 x.n) ∧ w'.cell? ⟨w1.heap.size, 2, none⟩ = some (.string x.name) ∧ w'.cell? ⟨w1.heap.size, 3, none⟩ = some (.slice a x.kids.length c)) (by kernel_rfl) ⟨p0', b0, b1, b2, b3⟩ (fun hHeld => ?_)
            refine wpAnyH_take (i := 0) (oi := _) (v := ?_) rfl (by kernel_rfl) (by kernel_rfl) (by kernel_rfl) (fun _ _ _ h => h) (Or.inl ⟨by rfl, ?_⟩) (by assumption) ?_
            rotate_left
            · intro w hSw
              (try dsimp only at hSw)
              go_simp
              (try with_reducible rfl)
            refine wpAnyH_take (i := 1) (oi := _) (v := ?_) rfl (by kernel_rfl) (by kernel_rfl) (by kernel_rfl) (fun _ _ _ h => h) (Or.inl ⟨by rfl, ?_⟩) (by assumption) ?_
            rotate_left
            · intro w hSw
              (try dsimp only at hSw)
              go_simp
              (try with_reducible rfl)
            refine wpAnyH_take (i := 2) (oi := _) (v := ?_) rfl (by kernel_rfl) (by kernel_rfl) (by kernel_rfl) (fun _ _ _ h => h) (Or.inl ⟨by rfl, ?_⟩) (by assumption) ?_
            rotate_left
            · intro w hSw
              (try dsimp only at hSw)
              go_simp
              (try with_reducible rfl)
            refine wpAnyH_take (i := 3) (oi := _) (v := ?_) rfl (by kernel_rfl) (by kernel_rfl) (by kernel_rfl) (fun _ _ _ h => h) (Or.inl ⟨by rfl, ?_⟩) (by assumption) ?_
            rotate_left
            · intro w hSw
              (try dsimp only at hSw)
              go_simp
              (try with_reducible rfl)
            refine wpAnyH_take (i := 4) (oi := _) (v := ?_) rfl (by kernel_rfl) (by kernel_rfl) (by kernel_rfl) (fun _ _ _ h => h) (Or.inl ⟨by rfl, ?_⟩) (by assumption) ?_
            rotate_left
            · intro w hSw
              (try dsimp only at hSw)
              go_simp
              (try with_reducible rfl)
            refine wpAnyH_take (i := 5) (oi := _) (v := ?_) rfl (by kernel_rfl) (by kernel_rfl) (by kernel_rfl) (fun _ _ _ h => h) (Or.inl ⟨by rfl, ?_⟩) (by assumption) ?_
            rotate_left
            · intro w hSw
              (try dsimp only at hSw)
              go_simp
              (try with_reducible rfl)
            refine wpAnyH_ready (rs := [6]) (by kernel_rfl) (by simp) ?_
            refine AllReadyH.cons (o := _) rfl (fun K hK => ?_) AllReadyH.nil
            go_simp
            rw [HLV.out]
            refine (hF.out (q + 1) (.error (e1', e2')) _ (by exact HF3.out.rdy.drew) hql2 HR2).mono ?_
            rintro e w4 ⟨hg4, rfl, hd4⟩
            have HG4 := hide2 (grown_tr HF3.out.grown (grown_undrew hg4))
            have HD4 := hide2 hd4
            clear hg4 hd4 hK
            go_wp2
            exact ⟨rfl, HG4.out, by rw [HRr.out]; exact ⟨rfl, HD4.out⟩⟩
          | ok qx =>
            obtain ⟨q2, y⟩ := qx
            have HRr : Hid (r = if lv = 3 then .ok (q2, ⟨K1, 0, ⟨#[]⟩, [x, y]⟩) else Rp.loop E.l E.en next lv f ⟨K1, 0, ⟨#[]⟩, [x, y]⟩ q2) := HEr.out
            obtain ⟨hq21, hq22⟩ := HA2.out q2 y rfl
            have hNPw : NP < w3.heap.size := by omega
            go_upto_region 8 with fail
            go_cut [] (fun wx => ∃ n' a' c', FrAt E (200 - (d : Int)) w w1.heap.size q2 n' ⟨K1, 0, ⟨#[]⟩, [x, y]⟩ a' c' wx)
            case first =>
              go_region_with (go_at_call 146; (try rw [wL]); rw [HLV.out]; refine (hF.out (q + 1) (.ok (q2, y)) _ (by exact HF3.out.rdy.drew) hql2 HR2).mono ?_; rintro e w4 ⟨hg4, ⟨v4, rfl, a4, c4, n4, rfl, hq4⟩, hd4⟩; have HG4 : Hid (w3.grownBy w4 (some E.R)) := grown_undrew hg4; have HD4 := hide2 hd4; have HQ4 : Hid (ExQ (fun b => w3.heap.size ≤ b ∧ b < w4.heap.size) w4 n4 y a4) := hq4; have hB4 : w4.heap[w1.heap.size]? = some (exO x.kind x.n x.name (.slice a x.kids.length c)) := kept_on HG4.out (by omega) HF3.out.box; have hP4 : w4.heap[NP]? = some (.cells #[.int .i64 K1, .string (txtT t.text), .int .i64 K2] 87 (0, 0)) := kept_on HG4.out (by omega) HP3.out; obtain ⟨⟨b0, b1, b2, b3⟩, g0, g1, g2, g3⟩ := ex_cells hB4; obtain ⟨⟨p0', _, _⟩, _⟩ := pz_cells hP4; have hs4 := HG4.out.size; have hlt4 : w1.heap.size < w4.heap.size := lt_of_block hB4; have hlt5 : NP < w4.heap.size := lt_of_block hP4; have HB4 := hide2 hB4; clear hg4 hd4 hq4 hB4 hP4)
              all_goals
                go_wp2_with fail
                go_meet
                exact ⟨_, _, _, HF3.out.paired G h.out hR hw1 HG4.out HD4.out HQ4.out (by omega) hq22⟩
            case rest =>
              obtain ⟨n', a', c', hF5⟩ := hcut
              have HF5 := hide2 hF5
              obtain ⟨⟨z0, z1, z2, z3⟩, y0, y1, y2, y3⟩ := ex_cells hF5.zero
              obtain ⟨⟨x0', x1', x2', x3'⟩, _⟩ := ex_cells hF5.box
              clear hF5 b0 b1 b2 b3 g0 g1 g2 g3 p0'
              by_cases h3 : lv = 3
              · have e3 : (lv == 3) = true := by simp; exact h3
                have HRf : Hid (r = .ok (q2, ⟨K1, 0, ⟨#[]⟩, [x, y]⟩)) := by have := HRr.out; rw [if_pos h3] at this; exact this
                clear h3
                go_wp2
                refine bodyPost_ret (v := exV ⟨K1, 0, ⟨#[]⟩, [x, y]⟩ a' c') (by simp [results, Tryz.results146, go_sem, z0, z1, z2, z3]) rfl ?_
                refine ⟨grown_four HF5.out.grown (Nat.le_refl _) _ _ _ _, ?_⟩
                rw [HRf.out]
                exact ⟨⟨_, rfl, a', c', n', rfl, HF5.out.kids.keep (fun b hb => ⟨⟨by omega, by simp only [World.setCell_size]; omega⟩, far_four (by omega) _ _ _ _⟩)⟩, h.out.grown G (grown_four HF5.out.grown (Nat.le_refl _) _ _ _ _) (HF5.out.rdy.rd.four (by omega) _ _ _ _)⟩
              · have e3 : (lv == 3) = false := by simp; exact h3
                have HRf : Hid (r = Rp.loop E.l E.en next lv f ⟨K1, 0, ⟨#[]⟩, [x, y]⟩ q2) := by have := HRr.out; rw [if_neg h3] at this; exact this
                clear h3
                go_wp2
                go_roundg f
                case measure => omega
                case rel => exact ⟨q2, n', _, a', c', HF5.out, by have := HKK.out; omega, HRf.out⟩
        · have e1 : (K2 != lv) = true := by simp; exact hs
          have HRr : Hid (r = .ok (q, x)) := by have := HQX.out; rw [if_pos hs] at this; exact this
          obtain ⟨⟨z0, z1, z2, z3⟩, y0, y1, y2, y3⟩ := ex_cells hzero
          obtain ⟨⟨x0', x1', x2', x3'⟩, _⟩ := ex_cells hbox
          clear hs hfr hpb hzero hbox hK2
          go_wp2
          refine bodyPost_ret (v := exV x a c) (by simp [results, Tryz.results146, go_sem, z0, z1, z2, z3]) rfl ?_
          refine ⟨grown_four HFR.out.grown (Nat.le_refl _) _ _ _ _, ?_⟩
          rw [HRr.out]
          exact ⟨⟨_, rfl, a, c, n, rfl, HFR.out.kids.keep (fun b hb => ⟨⟨by omega, by simp only [World.setCell_size]; omega⟩, far_four (by omega) _ _ _ _⟩)⟩, h.out.grown G (grown_four HFR.out.grown (Nat.le_refl _) _ _ _ _) (HFR.out.rdy.rd.four (by omega) _ _ _ _)⟩

end Go.Proofs.YtlnikpcoejpknaaGreatDoor

