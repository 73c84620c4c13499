/- The reader in memory; the walks of the cursor. -/
import Derived.Test.YtlnikpcoejpknaaDoorM7
import Derived.Deep.RegionHeld3
namespace Go.Proofs.YtlnikpcoejpknaaDoor
open Go.RowKit

/-- The reader lies in block R: its tokens, where it stands, where the text ends, its map, how deep it is. -/
def RD (w : World) (R : Nat) (ta : Option Addr) (tc : Nat) (l : List Lx.Tk) (p en : Nat) (mv : Value) (op : Int) : Prop :=
  w.heap[R]? = some (.cells #[.slice ta l.length tc, .int .i64 p, .int .i64 en, mv, .int .i64 op] 76 (0, 0))

/-- Tokens lie at ta, below B. -/
def TkIn (B : Nat) (w : World) (l : List Lx.Tk) (ta : Option Addr) : Prop :=
  l.length ≤ 6000 ∧ ∀ i t, l[i]? = some t → ∃ b off, ta = some ⟨b, off, none⟩ ∧ b < B ∧ w.cell? ⟨b, off + i * 4, none⟩ = some (.int .i64 t.kind) ∧ w.cell? ⟨b, off + i * 4 + 1, none⟩ = some (.string t.text) ∧
    w.cell? ⟨b, off + i * 4 + 2, none⟩ = some (.int .i64 t.num) ∧ w.cell? ⟨b, off + i * 4 + 3, none⟩ = some (.int .i64 t.pos) ∧ t.text.size ≤ maxLen

abbrev tkV (t : Lx.Tk) : Value := .agg #[.int .i64 t.kind, .string t.text, .int .i64 t.num, .int .i64 t.pos]

/-- What comes next. -/
def pk (l : List Lx.Tk) (p en : Nat) : Lx.Tk := (l[p]?).getD ⟨0, ⟨#[]⟩, 0, en⟩

theorem RD.cells {w : World} {R : Nat} {ta : Option Addr} {tc : Nat} {l : List Lx.Tk} {p en : Nat} {mv : Value} {op : Int} (h : RD w R ta tc l p en mv op) :
    w.cell? ⟨R, 0, none⟩ = some (.slice ta l.length tc) ∧ w.cell? ⟨R, 1, none⟩ = some (.int .i64 p) ∧ w.cell? ⟨R, 2, none⟩ = some (.int .i64 en) ∧ w.frozen? ⟨R, 1, none⟩ = false := by
  unfold RD at h
  simp [World.cell?, World.frozen?, h]

set_option maxRecDepth 100000 in
set_option maxHeartbeats 400000 in
theorem atEnd_any (R : Nat) (ta : Option Addr) (tc : Nat) (l : List Lx.Tk) (p en : Nat) (mv : Value) (op : Int) (b : Bool) (w : World) (hR : Hid (RD w R ta tc l p en mv op)) (hb : Hid (b = decide (p = l.length))) :
    Calls Tryd.prog 48 #[.pointer (some ⟨R, 0, none⟩)] w fun e w' => e = .returned (.bool b) ∧ Below w.heap.size w w' := by
  obtain ⟨c0, c1, c2, f1⟩ := hR.out.cells
  have e1 : ((p : Int) == (l.length : Int)) = b := by
    rw [hb.out, Bool.eq_iff_iff]
    simp
    omega
  go_enter Tryd.func48, Tryd.ntmps48
  go_wp2
  go_region
  all_goals
    go_wp2
    go_ret
    exact ⟨rfl, (Below.refl _ w).drew⟩

theorem RD.on {w w' : World} {R : Nat} {ta : Option Addr} {tc : Nat} {l : List Lx.Tk} {p en : Nat} {mv : Value} {op : Int} (h : RD w R ta tc l p en mv op) (hb : Below w.heap.size w w') : RD w' R ta tc l p en mv op := (hb.block R (lt_of_block h)).trans h
theorem RD.lt {w : World} {R : Nat} {ta : Option Addr} {tc : Nat} {l : List Lx.Tk} {p en : Nat} {mv : Value} {op : Int} (h : RD w R ta tc l p en mv op) : R < w.heap.size := lt_of_block h
theorem RD.set1 {w : World} {R : Nat} {ta : Option Addr} {tc : Nat} {l : List Lx.Tk} {p q en : Nat} {mv : Value} {op : Int} (h : RD w R ta tc l p en mv op) {v : Int} (hv : v = q) : RD (w.setCell ⟨R, 1, none⟩ (.int .i64 v)) R ta tc l q en mv op := by
  subst hv
  unfold RD at *
  simp only [World.setCell, Array.getElem?_modify, if_true, h, Option.map_some]
  rfl

theorem TkIn.on {B : Nat} {w w' : World} {l : List Lx.Tk} {ta : Option Addr} (h : TkIn B w l ta) (hs : Go.Proofs.YtlnikpcoejpknaaDoor.Same B w w') : TkIn B w' l ta :=
  ⟨h.1, fun i t hi => by
    obtain ⟨b, off, e, hb, c0, c1, c2, c3, hz⟩ := h.2 i t hi
    exact ⟨b, off, e, hb, (hs _ _ hb).trans c0, (hs _ _ hb).trans c1, (hs _ _ hb).trans c2, (hs _ _ hb).trans c3, hz⟩⟩

theorem below_same {B : Nat} {w w' : World} (h : Below w.heap.size w w') (hB : B ≤ w.heap.size) : Go.Proofs.YtlnikpcoejpknaaDoor.Same B w w' := fun b o hb => h.cell (p := ⟨b, o, none⟩) (Nat.lt_of_lt_of_le hb hB)

set_option maxRecDepth 100000 in
set_option maxHeartbeats 1000000 in
theorem peek_any (B R : Nat) (ta : Option Addr) (tc : Nat) (l : List Lx.Tk) (p en : Nat) (mv : Value) (op : Int) (t : Lx.Tk) (w : World) (hR : Hid (RD w R ta tc l p en mv op)) (hT : Hid (TkIn B w l ta)) (hB : B ≤ R) (hp : p ≤ l.length) (ht : Hid (t = pk l p en)) :
    Calls Tryd.prog 72 #[.pointer (some ⟨R, 0, none⟩)] w fun e w' => e = .returned (.agg #[.int .i64 t.kind, .string t.text, .int .i64 t.num, .int .i64 t.pos]) ∧ Below w.heap.size w w' := by
  have hRl := hR.out.lt
  have hl6 := hT.out.1
  by_cases he : p = l.length
  · have HT : Hid (t = ⟨0, ⟨#[]⟩, 0, en⟩) := by
      have := ht.out
      unfold pk at this
      rw [List.getElem?_eq_none (by omega)] at this
      exact this
    go_enter Tryd.func72, Tryd.ntmps72
    go_wp2_with fail
    refine (atEnd_any R ta tc l p en mv op true _ (hR.out.on ((Below.refl _ w).alloc (Nat.le_refl _) _)) (by rw [decide_eq_true he]; rfl)).mono ?_
    rintro e w1 ⟨rfl, hb1⟩
    have HB1 : Hid (Below w.heap.size w w1) := ((Below.refl _ w).alloc (Nat.le_refl _) _).trans (hb1.mono (by simp))
    have hZ : w1.heap[w.heap.size]? = some Z4 := (hb1.block _ (by simp)).trans (heap_alloc_new w Z4)
    obtain ⟨z0, z1, z2, z3⟩ := four_cell hZ
    obtain ⟨y0, y1, y2, y3⟩ := four_free hZ
    obtain ⟨c0, c1, c2, f1⟩ := (hR.out.on HB1.out).cells
    clear hb1 hZ
    go_wp2
    refine bodyPost_ret (v := .agg #[.int .i64 0, .string ⟨#[]⟩, .int .i64 0, .int .i64 en]) (by simp [results, Tryd.results72, go_sem, z0, z1, z2, z3]) rfl ⟨by rw [HT.out]; rfl, ?_⟩
    exact ((((HB1.out.setCell (p := ⟨w.heap.size, 0, none⟩) (Nat.le_refl _) _).setCell (p := ⟨w.heap.size, 1, none⟩) (Nat.le_refl _) _).setCell (p := ⟨w.heap.size, 2, none⟩) (Nat.le_refl _) _).setCell (p := ⟨w.heap.size, 3, none⟩) (Nat.le_refl _) _)
  · obtain ⟨x, hx⟩ : ∃ x, l[p]? = some x := ⟨_, List.getElem?_eq_getElem (by omega)⟩
    have HT : Hid (t = x) := by
      have := ht.out
      unfold pk at this
      rw [hx] at this
      exact this
    obtain ⟨b, off, rfl, hb, q0, q1, q2, q3, hz⟩ := hT.out.2 p x hx
    clear hx
    go_enter Tryd.func72, Tryd.ntmps72
    go_wp2_with fail
    refine (atEnd_any R _ tc l p en mv op false _ (hR.out.on ((Below.refl _ w).alloc (Nat.le_refl _) _)) (by rw [decide_eq_false he]; rfl)).mono ?_
    rintro e w1 ⟨rfl, hb1⟩
    have HB1 : Hid (Below w.heap.size w w1) := ((Below.refl _ w).alloc (Nat.le_refl _) _).trans (hb1.mono (by simp))
    have hZ : w1.heap[w.heap.size]? = some Z4 := (hb1.block _ (by simp)).trans (heap_alloc_new w Z4)
    obtain ⟨z0, z1, z2, z3⟩ := four_cell hZ
    obtain ⟨y0, y1, y2, y3⟩ := four_free hZ
    obtain ⟨c0, c1, c2, f1⟩ := (hR.out.on HB1.out).cells
    clear hb1 hZ
    rw [← HB1.out.cell (p := ⟨b, off + p * 4, none⟩) (by show b < _; omega)] at q0
    rw [← HB1.out.cell (p := ⟨b, off + p * 4 + 1, none⟩) (by show b < _; omega)] at q1
    rw [← HB1.out.cell (p := ⟨b, off + p * 4 + 2, none⟩) (by show b < _; omega)] at q2
    rw [← HB1.out.cell (p := ⟨b, off + p * 4 + 3, none⟩) (by show b < _; omega)] at q3
    have hp0 : (0 : Int) ≤ (p : Int) := by omega
    have hp1 : (p : Int) < (l.length : Int) := by omega
    have hne : ¬ w.heap.size = R := by omega
    have hne2 : ¬ w.heap.size = b := by omega
    clear he
    go_upto_region 3 with fail
    go_region_held3 (fun w' => w'.cell? ⟨R, 0, none⟩ = some (.slice (some ⟨b, off, none⟩) l.length tc) ∧ w'.cell? ⟨R, 1, none⟩ = some (.int .i64 p) ∧ w'.cell? ⟨b, off + p * 4, none⟩ = some (.int .i64 x.kind) ∧ w'.cell? ⟨b, off + p * 4 + 1, none⟩ = some (.string x.text) ∧ w'.cell? ⟨b, off + p * 4 + 2, none⟩ = some (.int .i64 x.num) ∧ w'.cell? ⟨b, off + p * 4 + 3, none⟩ = some (.int .i64 x.pos)) (go_keep) (fail)
    all_goals go_wp2
    all_goals refine bodyPost_ret (v := tkV x) (by simp [results, Tryd.results72, go_sem, z0, z1, z2, z3]) rfl ⟨by rw [HT.out], ?_⟩
    all_goals exact ((((HB1.out.setCell (p := ⟨w.heap.size, 0, none⟩) (Nat.le_refl _) _).setCell (p := ⟨w.heap.size, 1, none⟩) (Nat.le_refl _) _).setCell (p := ⟨w.heap.size, 2, none⟩) (Nat.le_refl _) _).setCell (p := ⟨w.heap.size, 3, none⟩) (Nat.le_refl _) _).drew

theorem tok_pos (k n p : Int) (s : ByteArray) (w : World) : (Instr.field 103 (.agg #[.int .i64 k, .string s, .int .i64 n, .int .i64 p]) 3).run Tryd.prog w = .ok (.int .i64 p) w := by kernel_rfl
theorem tok_text (k n p : Int) (s : ByteArray) (w : World) : (Instr.field 103 (.agg #[.int .i64 k, .string s, .int .i64 n, .int .i64 p]) 1).run Tryd.prog w = .ok (.string s) w := by kernel_rfl

set_option maxHeartbeats 400000 in
theorem skip_any (R : Nat) (ta : Option Addr) (tc : Nat) (l : List Lx.Tk) (p en : Nat) (mv : Value) (op : Int) (w : World) (hR : Hid (RD w R ta tc l p en mv op)) (hp : p ≤ 6000) :
    Calls Tryd.prog 106 #[.pointer (some ⟨R, 0, none⟩)] w fun e w' => e = .returned (.tuple #[]) ∧ RD w' R ta tc l (p + 1) en mv op ∧ w.grownBy w' (some R) := by
  obtain ⟨c0, c1, c2, f1⟩ := hR.out.cells
  go_enter Tryd.func106, Tryd.ntmps106
  go_wp2
  go_end0
  exact ⟨rfl, hR.out.set1 (by go_num), grown_at _ _ _ _⟩

set_option maxRecDepth 100000 in
set_option maxHeartbeats 400000 in
theorem cfail_any (B R : Nat) (ta : Option Addr) (tc : Nat) (l : List Lx.Tk) (p en : Nat) (mv : Value) (op er : Int) (t : Lx.Tk) (w : World) (hR : Hid (RD w R ta tc l p en mv op)) (hT : Hid (TkIn B w l ta)) (hB : B ≤ R) (hp : p ≤ l.length) (ht : Hid (t = pk l p en)) :
    Calls Tryd.prog 73 #[.pointer (some ⟨R, 0, none⟩), .int .i64 er] w fun e w' => e = .panicked [fltE er t.pos] ∧ Below w.heap.size w w' := by
  have hf := tok_pos t.kind t.num t.pos t.text
  go_enter Tryd.func73, Tryd.ntmps73
  go_wp2_with fail
  refine (peek_any B R ta tc l p en mv op t _ hR hT hB hp ht).mono ?_
  rintro e w1 ⟨rfl, hb1⟩
  have HB1 : Hid (Below w.heap.size w w1) := hb1
  clear hb1
  go_wp2_with fail
  refine (throw_any t.pos er _).mono ?_
  rintro e w2 ⟨rfl, _, rfl⟩
  go_wp2
  exact ⟨rfl, rfl, HB1.out⟩

/-- What a try to take a text comes to. -/
def tk (l : List Lx.Tk) (p : Nat) (s : ByteArray) : Bool := match l[p]? with
  | some t => decide (t.text = s)
  | none => false

theorem tk_end {l : List Lx.Tk} {p : Nat} {s : ByteArray} (h : p = l.length) : tk l p s = false := by
  unfold tk
  rw [List.getElem?_eq_none (by omega)]

theorem tk_at {l : List Lx.Tk} {p : Nat} {s : ByteArray} {t : Lx.Tk} (h : l[p]? = some t) : tk l p s = decide (t.text = s) := by
  unfold tk
  rw [h]

theorem beq_text {a b : ByteArray} {d : Bool} (h : d = decide (a = b)) : (a.toList == b.toList) = d := by
  rw [h, toList_eq, toList_eq, Bool.eq_iff_iff]
  simp only [beq_iff_eq, decide_eq_true_eq]
  constructor
  · intro e
    cases a; cases b
    simp only [ByteArray.mk.injEq] at *
    exact Array.toList_inj.1 e
  · intro e; rw [e]

set_option maxRecDepth 100000 in
set_option maxHeartbeats 1000000 in
theorem take_any (B R : Nat) (ta : Option Addr) (tc : Nat) (l : List Lx.Tk) (p en : Nat) (mv : Value) (op : Int) (s : ByteArray) (b : Bool) (q : Nat) (w : World) (hR : Hid (RD w R ta tc l p en mv op)) (hT : Hid (TkIn B w l ta)) (hB : B ≤ R) (hp : p ≤ l.length) (hb : Hid (b = tk l p s)) (hq : Hid (q = if b then p + 1 else p)) :
    Calls Tryd.prog 105 #[.pointer (some ⟨R, 0, none⟩), .string s] w fun e w' => e = .returned (.bool b) ∧ RD w' R ta tc l q en mv op ∧ w.grownBy w' (some R) := by
  have hl6 := hT.out.1
  have hRl := hR.out.lt
  by_cases he : p = l.length
  · have HBf : Hid (b = false) := by rw [hb.out]; exact tk_end he
    go_enter Tryd.func105, Tryd.ntmps105
    go_wp2_with fail
    refine (atEnd_any R ta tc l p en mv op true _ hR (by rw [decide_eq_true he]; rfl)).mono ?_
    rintro e w1 ⟨rfl, hb1⟩
    have HB1 : Hid (Below w.heap.size w w1) := hb1
    clear hb1
    go_wp2
    go_ret
    refine ⟨by rw [HBf.out]; rfl, ?_, ⟨HB1.out.os, HB1.out.tape, HB1.out.output, HB1.out.size, fun k hk _ => HB1.out.block k hk⟩⟩
    have e : q = p := by rw [hq.out, HBf.out]; rfl
    rw [e]
    exact hR.out.on HB1.out
  · obtain ⟨x, hx⟩ : ∃ x, l[p]? = some x := ⟨_, List.getElem?_eq_getElem (by omega)⟩
    have HBx : Hid (b = decide (x.text = s)) := by rw [hb.out]; exact tk_at hx
    have HPk : Hid (x = pk l p en) := by unfold Hid pk; rw [hx]; rfl
    have e1 : (x.text.toList == s.toList) = b := beq_text HBx.out
    clear hx
    go_enter Tryd.func105, Tryd.ntmps105
    go_wp2_with fail
    refine (atEnd_any R ta tc l p en mv op false _ hR (by rw [decide_eq_false he]; rfl)).mono ?_
    rintro e w1 ⟨rfl, hb1⟩
    have HB1 : Hid (Below w.heap.size w w1) := hb1
    have HR1 : Hid (RD w1 R ta tc l p en mv op) := hR.out.on hb1
    have HT1 : Hid (TkIn B w1 l ta) := hT.out.on (below_same hb1 (by omega))
    clear hb1
    go_wp2_with fail
    refine (peek_any B R ta tc l p en mv op x _ HR1 HT1 hB hp HPk).mono ?_
    rintro e w2 ⟨rfl, hb2⟩
    have HB2 : Hid (Below w.heap.size w w2) := HB1.out.trans (hb2.mono HB1.out.size)
    have HR2 : Hid (RD w2 R ta tc l p en mv op) := HR1.out.on hb2
    have hf := tok_text x.kind x.num x.pos x.text
    clear hb2
    cases b with
    | false =>
      go_wp2
      go_ret
      refine ⟨rfl, ?_, ⟨HB2.out.os, HB2.out.tape, HB2.out.output, HB2.out.size, fun k hk _ => HB2.out.block k hk⟩⟩
      have e : q = p := hq.out
      rw [e]
      exact HR2.out
    | true =>
      go_wp2_with fail
      refine (skip_any R ta tc l p en mv op _ HR2 (by omega)).mono ?_
      rintro e w3 ⟨rfl, hr3, hg3⟩
      have HR3 : Hid (RD w3 R ta tc l (p + 1) en mv op) := hr3
      have HG3 : Hid (w.grownBy w3 (some R)) := ⟨hg3.os.trans HB2.out.os, hg3.tape.trans HB2.out.tape, hg3.output.trans HB2.out.output, Nat.le_trans HB2.out.size hg3.size, fun k hk hn => (hg3.block k (by have := HB2.out.size; omega) hn).trans (HB2.out.block k hk)⟩
      clear hr3 hg3
      go_wp2
      go_ret
      have e : q = p + 1 := hq.out
      rw [e]
      exact ⟨rfl, HR3.out, HG3.out⟩

end Go.Proofs.YtlnikpcoejpknaaDoor

/- The walks of the cursor's want and name. -/
namespace Go.Proofs.YtlnikpcoejpknaaDoor
open Go.RowKit

/-- What comes of reading something: the reader stands further on, or a fault is thrown. -/
def RFate (R : Nat) (ta : Option Addr) (tc : Nat) (l : List Lx.Tk) (en : Nat) (mv : Value) (op : Int) (w : World) (v : Value) (r : Except (Int × Nat) Nat) (e : Ending) (w' : World) : Prop :=
  w.grownBy w' (some R) ∧ match r with
    | .ok q => e = .returned v ∧ RD w' R ta tc l q en mv op
    | .error (er, at') => e = .panicked [fltE er at'] ∧ ∃ (q : Nat) (o : Int), RD w' R ta tc l q en mv o ∧ op ≤ o ∧ o ≤ op + 1

def wantL (l : List Lx.Tk) (p en : Nat) (s : ByteArray) : Except (Int × Nat) Nat := if tk l p s then .ok (p + 1) else .error (2, (pk l p en).pos)
def nameL (l : List Lx.Tk) (p en : Nat) : Except (Int × Nat) Nat :=
  if (pk l p en).kind ≠ 1 then .error (2, (pk l p en).pos) else if Lx.named (pk l p en).text.toList = false then .error (7, (pk l p en).pos) else .ok (p + 1)

theorem grown_on {w w1 w2 : World} {R : Nat} (h : w.grownBy w1 (some R)) (k : Below w1.heap.size w1 w2) : w.grownBy w2 (some R) :=
  ⟨k.os.trans h.os, k.tape.trans h.tape, k.output.trans h.output, Nat.le_trans h.size k.size, fun i hi hn => (k.block i (Nat.lt_of_lt_of_le hi h.size)).trans (h.block i hi hn)⟩

theorem grown_bel {w w1 : World} {R : Nat} (k : Below w.heap.size w w1) : w.grownBy w1 (some R) := ⟨k.os, k.tape, k.output, k.size, fun i hi _ => k.block i hi⟩

theorem TkIn.grown {B R : Nat} {w w' : World} {l : List Lx.Tk} {ta : Option Addr} (h : TkIn B w l ta) (hg : w.grownBy w' (some R)) (hB : B ≤ R) (hR : R < w.heap.size) : TkIn B w' l ta :=
  h.on (fun b o hb => World.cell?_of_block (w := w) (hg.block b (by omega) (by simp; omega)))

set_option maxRecDepth 100000 in
set_option maxHeartbeats 1000000 in
theorem want_any (B R : Nat) (ta : Option Addr) (tc : Nat) (l : List Lx.Tk) (p en : Nat) (mv : Value) (op : Int) (s : ByteArray) (r : Except (Int × Nat) Nat) (w : World) (hR : Hid (RD w R ta tc l p en mv op)) (hT : Hid (TkIn B w l ta)) (hB : B ≤ R) (hp : p ≤ l.length) (hr : Hid (r = wantL l p en s)) :
    Calls Tryd.prog 78 #[.pointer (some ⟨R, 0, none⟩), .string s] w fun e w' => RFate R ta tc l en mv op w (.tuple #[]) r e w' := by
  have hRl := hR.out.lt
  cases hb : tk l p s with
  | true =>
    have HR2 : Hid (r = .ok (p + 1)) := by rw [hr.out]; unfold wantL; rw [hb]; rfl
    go_enter Tryd.func78, Tryd.ntmps78
    go_wp2_with fail
    refine (take_any B R ta tc l p en mv op s true (p + 1) _ hR hT hB hp hb.symm rfl).mono ?_
    rintro e w1 ⟨rfl, hr1, hg1⟩
    have H1 : Hid (RD w1 R ta tc l (p + 1) en mv op) := hr1
    have HG1 : Hid (w.grownBy w1 (some R)) := hg1
    clear hr1 hg1
    go_wp2
    go_end0
    exact ⟨HG1.out, by rw [HR2.out]; exact ⟨rfl, H1.out⟩⟩
  | false =>
    have HR2 : Hid (r = .error (2, (pk l p en).pos)) := by rw [hr.out]; unfold wantL; rw [hb]; rfl
    obtain ⟨t, ht⟩ : ∃ t, t = pk l p en := ⟨_, rfl⟩
    have HT : Hid (t = pk l p en) := ht
    clear ht
    go_enter Tryd.func78, Tryd.ntmps78
    go_wp2_with fail
    refine (take_any B R ta tc l p en mv op s false p _ hR hT hB hp hb.symm rfl).mono ?_
    rintro e w1 ⟨rfl, hr1, hg1⟩
    have H1 : Hid (RD w1 R ta tc l p en mv op) := hr1
    have HG1 : Hid (w.grownBy w1 (some R)) := hg1
    have HT1 : Hid (TkIn B w1 l ta) := hT.out.grown hg1 hB hRl
    clear hr1 hg1
    go_wp2_with fail
    refine (cfail_any B R ta tc l p en mv op 2 t _ H1 HT1 hB hp HT).mono ?_
    rintro e w2 ⟨rfl, hb2⟩
    have HG2 : Hid (w.grownBy w2 (some R)) := grown_on HG1.out hb2
    have HD : Hid (RD w2 R ta tc l p en mv op) := H1.out.on hb2
    clear hb2
    go_wp2
    exact ⟨rfl, HG2.out, by rw [HR2.out, ← HT.out]; exact ⟨rfl, _, _, HD.out, Int.le_refl _, by omega⟩⟩

set_option maxRecDepth 100000 in
set_option maxHeartbeats 1000000 in
theorem name_any (B R : Nat) (ta : Option Addr) (tc : Nat) (l : List Lx.Tk) (p en : Nat) (mv : Value) (op : Int) (r : Except (Int × Nat) Nat) (t : Lx.Tk) (w : World) (hR : Hid (RD w R ta tc l p en mv op)) (hT : Hid (TkIn B w l ta)) (hB : B ≤ R) (hp : p ≤ l.length) (ht : Hid (t = pk l p en)) (hz : t.text.size ≤ maxLen) (hr : Hid (r = nameL l p en)) :
    Calls Tryd.prog 79 #[.pointer (some ⟨R, 0, none⟩)] w fun e w' => RFate R ta tc l en mv op w (.string t.text) r e w' := by
  have hRl := hR.out.lt
  have hl6 := hT.out.1
  go_enter Tryd.func79, Tryd.ntmps79
  go_wp2_with fail
  refine (peek_any B R ta tc l p en mv op t _ hR hT hB hp ht).mono ?_
  rintro e w1 ⟨rfl, hb1⟩
  have HB1 : Hid (Below w.heap.size w w1) := hb1
  have HR1 : Hid (RD w1 R ta tc l p en mv op) := hR.out.on hb1
  have HT1 : Hid (TkIn B w1 l ta) := hT.out.on (below_same hb1 (by omega))
  obtain ⟨V, hV⟩ : ∃ V, V = w1.alloc (.cells #[.int .i64 t.kind, .string t.text, .int .i64 t.num, .int .i64 t.pos] 103) := ⟨_, rfl⟩
  have hVz : V.heap.size = w1.heap.size + 1 := by rw [hV]; simp
  have HVb : Hid (Below w1.heap.size w1 V) := by rw [hV]; exact (Below.refl _ w1).alloc (Nat.le_refl _) _
  have v0 : V.cell? ⟨w1.heap.size, 0, none⟩ = some (.int .i64 t.kind) := by rw [hV, World.cell?_alloc_mark]; rfl
  have v1 : V.cell? ⟨w1.heap.size, 1, none⟩ = some (.string t.text) := by rw [hV, World.cell?_alloc_mark]; rfl
  have HVe : Hid (w1.alloc (.cells #[.int .i64 t.kind, .string t.text, .int .i64 t.num, .int .i64 t.pos] 103) = V) := hV.symm
  have HRV : Hid (RD V R ta tc l p en mv op) := HR1.out.on HVb.out
  have HTV : Hid (TkIn B V l ta) := HT1.out.on (below_same HVb.out (by have := hb1.size; omega))
  have HBV : Hid (Below w.heap.size w V) := hb1.trans (HVb.out.mono hb1.size)
  have hz1 := hb1.size
  clear hb1 hV
  go_upto_region 2 with fail
  rw [HVe.out]
  by_cases hk : t.kind = 1
  · have e0 : ((t.kind : Int) != 1) = false := by simp; omega
    by_cases hn : Lx.named t.text.toList = false
    · have HR2 : Hid (r = .error (7, t.pos)) := by rw [hr.out]; unfold nameL; rw [← ht.out, if_neg (by omega), if_pos hn]; rfl
      have HN : Hid (Lx.named t.text.toList = false) := hn
      clear hn hk
      go_wp2_with fail
      refine (named_any t.text _ hz).mono ?_
      rintro e w2 ⟨he, rfl⟩
      rw [HN.out] at he
      subst he
      go_wp2_with fail
      refine (cfail_any B R ta tc l p en mv op 7 t _ HRV HTV hB hp ht).mono ?_
      rintro e w3 ⟨rfl, hb3⟩
      have HG3 : Hid (w.grownBy w3 (some R)) := grown_on (grown_bel HBV.out) hb3
      have HD : Hid (RD w3 R ta tc l p en mv op) := HRV.out.on hb3
      clear hb3
      go_wp2
      exact ⟨rfl, HG3.out, by rw [HR2.out]; exact ⟨rfl, _, _, HD.out, Int.le_refl _, by omega⟩⟩
    · have HR2 : Hid (r = .ok (p + 1)) := by rw [hr.out]; unfold nameL; rw [← ht.out, if_neg (by omega), if_neg hn]; rfl
      have HN : Hid (Lx.named t.text.toList = true) := by unfold Hid; simpa using hn
      clear hn hk
      go_wp2_with fail
      refine (named_any t.text _ hz).mono ?_
      rintro e w2 ⟨he, rfl⟩
      rw [HN.out] at he
      subst he
      go_wp2_with fail
      refine (skip_any R ta tc l p en mv op _ HRV (by omega)).mono ?_
      rintro e w3 ⟨rfl, hr3, hg3⟩
      have HR3 : Hid (RD w3 R ta tc l (p + 1) en mv op) := hr3
      have HG3 : Hid (w.grownBy w3 (some R)) := ⟨hg3.os.trans HBV.out.os, hg3.tape.trans HBV.out.tape, hg3.output.trans HBV.out.output, Nat.le_trans HBV.out.size hg3.size, fun k hk hn => (hg3.block k (by have := HBV.out.size; omega) hn).trans (HBV.out.block k hk)⟩
      have k1 : w3.cell? ⟨w1.heap.size, 1, none⟩ = some (.string t.text) := (World.cell?_of_block (w := w2) (hg3.block w1.heap.size (by omega) (by simp; omega))).trans v1
      clear hr3 hg3 v0 v1
      go_wp2
      go_ret
      exact ⟨HG3.out, by rw [HR2.out]; exact ⟨rfl, HR3.out⟩⟩
  · have HR2 : Hid (r = .error (2, t.pos)) := by rw [hr.out]; unfold nameL; rw [← ht.out, if_pos hk]; rfl
    have e0 : ((t.kind : Int) != 1) = true := by simp; omega
    clear hk
    go_wp2_with fail
    refine (cfail_any B R ta tc l p en mv op 2 t _ HRV HTV hB hp ht).mono ?_
    rintro e w3 ⟨rfl, hb3⟩
    have HG3 : Hid (w.grownBy w3 (some R)) := grown_on (grown_bel HBV.out) hb3
    have HD : Hid (RD w3 R ta tc l p en mv op) := HRV.out.on hb3
    clear hb3
    go_wp2
    exact ⟨rfl, HG3.out, by rw [HR2.out]; exact ⟨rfl, _, _, HD.out, Int.le_refl _, by omega⟩⟩

end Go.Proofs.YtlnikpcoejpknaaDoor

