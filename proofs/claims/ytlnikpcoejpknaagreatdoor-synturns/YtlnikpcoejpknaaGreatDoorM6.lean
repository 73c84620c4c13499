/- The walks of the cursor's want and name. -/
import Derived.Test.YtlnikpcoejpknaaGreatDoorM5
namespace Go.Proofs.YtlnikpcoejpknaaGreatDoor
open Go.RowKit

/-- What comes of reading something: the reader stands further on, or a fault is thrown. -/
def RFate (R : Nat) (ta : Option Addr) (tc : Nat) (l : List Lx.Tk) (en : Nat) (mv : Value) (op : Int) (w : World) (v : Value) (r : Except (Int × Nat) Nat) (e : Ending) (w' : World) : Prop :=
  w.grownBy w' (some R) ∧ match r with
    | .ok q => e = .returned v ∧ RD w' R ta tc l q en mv op
    | .error (er, at') => e = .panicked [fltE er at'] ∧ ∃ (q : Nat) (o : Int), RD w' R ta tc l q en mv o ∧ op ≤ o ∧ o ≤ op + 1

def wantL (l : List Lx.Tk) (p en : Nat) (s : ByteArray) : Except (Int × Nat) Nat := if tk l p s then .ok (p + 1) else .error (2, (pk l p en).pos)
def nameL (l : List Lx.Tk) (p en : Nat) : Except (Int × Nat) Nat :=
  if (pk l p en).kind ≠ 1 then .error (2, (pk l p en).pos) else if Lx.named (pk l p en).text.toList = false then .error (7, (pk l p en).pos) else .ok (p + 1)

theorem grown_on {w w1 w2 : World} {R : Nat} (h : w.grownBy w1 (some R)) (k : Below w1.heap.size w1 w2) : w.grownBy w2 (some R) :=
  ⟨k.os.trans h.os, k.tape.trans h.tape, k.output.trans h.output, Nat.le_trans h.size k.size, fun i hi hn => (k.block i (Nat.lt_of_lt_of_le hi h.size)).trans (h.block i hi hn)⟩

theorem grown_bel {w w1 : World} {R : Nat} (k : Below w.heap.size w w1) : w.grownBy w1 (some R) := ⟨k.os, k.tape, k.output, k.size, fun i hi _ => k.block i hi⟩

theorem TkIn.grown {B R : Nat} {w w' : World} {l : List Lx.Tk} {ta : Option Addr} (h : TkIn B w l ta) (hg : w.grownBy w' (some R)) (hB : B ≤ R) (hR : R < w.heap.size) : TkIn B w' l ta :=
  h.on (fun b o hb => World.cell?_of_block (w := w) (hg.block b (by omega) (by simp; omega)))

set_option maxRecDepth 100000 in
set_option maxHeartbeats 1000000 in
theorem want_any (B R : Nat) (ta : Option Addr) (tc : Nat) (l : List Lx.Tk) (p en : Nat) (mv : Value) (op : Int) (s : ByteArray) (r : Except (Int × Nat) Nat) (w : World) (hR : Hid (RD w R ta tc l p en mv op)) (hT : Hid (TkIn B w l ta)) (hB : B ≤ R) (hp : p ≤ l.length) (hr : Hid (r = wantL l p en s)) :
    Calls Tryz.prog 72 #[.pointer (some ⟨R, 0, none⟩), .string s] w fun e w' => RFate R ta tc l en mv op w (.tuple #[]) r e w' := by
  have hRl := hR.out.lt
  cases hb : tk l p s with
  | true =>
    have HR2 : Hid (r = .ok (p + 1)) := by rw [hr.out]; unfold wantL; rw [hb]; rfl
    go_enter Tryz.func72, Tryz.ntmps72
    go_wp2_with fail
    refine (take_any B R ta tc l p en mv op s true (p + 1) _ hR hT hB hp hb.symm rfl).mono ?_
    rintro e w1 ⟨rfl, hr1, hg1⟩
    have H1 : Hid (RD w1 R ta tc l (p + 1) en mv op) := hr1
    have HG1 : Hid (w.grownBy w1 (some R)) := hg1
    clear hr1 hg1
    go_wp2
    go_end0
    exact ⟨HG1.out, by rw [HR2.out]; exact ⟨rfl, H1.out⟩⟩
  | false =>
    have HR2 : Hid (r = .error (2, (pk l p en).pos)) := by rw [hr.out]; unfold wantL; rw [hb]; rfl
    obtain ⟨t, ht⟩ : ∃ t, t = pk l p en := ⟨_, rfl⟩
    have HT : Hid (t = pk l p en) := ht
    clear ht
    go_enter Tryz.func72, Tryz.ntmps72
    go_wp2_with fail
    refine (take_any B R ta tc l p en mv op s false p _ hR hT hB hp hb.symm rfl).mono ?_
    rintro e w1 ⟨rfl, hr1, hg1⟩
    have H1 : Hid (RD w1 R ta tc l p en mv op) := hr1
    have HG1 : Hid (w.grownBy w1 (some R)) := hg1
    have HT1 : Hid (TkIn B w1 l ta) := hT.out.grown hg1 hB hRl
    clear hr1 hg1
    go_wp2_with fail
    refine (cfail_any B R ta tc l p en mv op 2 t _ H1 HT1 hB hp HT).mono ?_
    rintro e w2 ⟨rfl, hb2⟩
    have HG2 : Hid (w.grownBy w2 (some R)) := grown_on HG1.out hb2
    have HD : Hid (RD w2 R ta tc l p en mv op) := H1.out.on hb2
    clear hb2
    go_wp2
    exact ⟨rfl, HG2.out, by rw [HR2.out, ← HT.out]; exact ⟨rfl, _, _, HD.out, Int.le_refl _, by omega⟩⟩

set_option maxRecDepth 100000 in
set_option maxHeartbeats 1000000 in
theorem name_any (B R : Nat) (ta : Option Addr) (tc : Nat) (l : List Lx.Tk) (p en : Nat) (mv : Value) (op : Int) (r : Except (Int × Nat) Nat) (t : Lx.Tk) (w : World) (hR : Hid (RD w R ta tc l p en mv op)) (hT : Hid (TkIn B w l ta)) (hB : B ≤ R) (hp : p ≤ l.length) (ht : Hid (t = pk l p en)) (hz : t.text.size ≤ maxLen) (hr : Hid (r = nameL l p en)) :
    Calls Tryz.prog 73 #[.pointer (some ⟨R, 0, none⟩)] w fun e w' => RFate R ta tc l en mv op w (.string t.text) r e w' := by
  have hRl := hR.out.lt
  have hl6 := hT.out.1
  go_enter Tryz.func73, Tryz.ntmps73
  go_wp2_with fail
  refine (peek_any B R ta tc l p en mv op t _ hR hT hB hp ht).mono ?_
  rintro e w1 ⟨rfl, hb1⟩
  have HB1 : Hid (Below w.heap.size w w1) := hb1
  have HR1 : Hid (RD w1 R ta tc l p en mv op) := hR.out.on hb1
  have HT1 : Hid (TkIn B w1 l ta) := hT.out.on (below_same hb1 (by omega))
  obtain ⟨V, hV⟩ : ∃ V, V = w1.alloc (.cells #[.int .i64 t.kind, .string t.text, .int .i64 t.num, .int .i64 t.pos] 84) := ⟨_, rfl⟩
  have hVz : V.heap.size = w1.heap.size + 1 := by rw [hV]; simp
  have HVb : Hid (Below w1.heap.size w1 V) := by rw [hV]; exact (Below.refl _ w1).alloc (Nat.le_refl _) _
  have v0 : V.cell? ⟨w1.heap.size, 0, none⟩ = some (.int .i64 t.kind) := by rw [hV, World.cell?_alloc_mark]; rfl
  have v1 : V.cell? ⟨w1.heap.size, 1, none⟩ = some (.string t.text) := by rw [hV, World.cell?_alloc_mark]; rfl
  have HVe : Hid (w1.alloc (.cells #[.int .i64 t.kind, .string t.text, .int .i64 t.num, .int .i64 t.pos] 84) = V) := hV.symm
  have HRV : Hid (RD V R ta tc l p en mv op) := HR1.out.on HVb.out
  have HTV : Hid (TkIn B V l ta) := HT1.out.on (below_same HVb.out (by have := hb1.size; omega))
  have HBV : Hid (Below w.heap.size w V) := hb1.trans (HVb.out.mono hb1.size)
  have hz1 := hb1.size
  clear hb1 hV
  go_upto_region 2 with fail
  rw [HVe.out]
  by_cases hk : t.kind = 1
  · have e0 : ((t.kind : Int) != 1) = false := by simp; omega
    by_cases hn : Lx.named t.text.toList = false
    · have HR2 : Hid (r = .error (7, t.pos)) := by rw [hr.out]; unfold nameL; rw [← ht.out, if_neg (by omega), if_pos hn]; rfl
      have HN : Hid (Lx.named t.text.toList = false) := hn
      clear hn hk
      go_wp2_with fail
      refine (named_any t.text _ hz).mono ?_
      rintro e w2 ⟨he, rfl⟩
      rw [HN.out] at he
      subst he
      go_wp2_with fail
      refine (cfail_any B R ta tc l p en mv op 7 t _ HRV HTV hB hp ht).mono ?_
      rintro e w3 ⟨rfl, hb3⟩
      have HG3 : Hid (w.grownBy w3 (some R)) := grown_on (grown_bel HBV.out) hb3
      have HD : Hid (RD w3 R ta tc l p en mv op) := HRV.out.on hb3
      clear hb3
      go_wp2
      exact ⟨rfl, HG3.out, by rw [HR2.out]; exact ⟨rfl, _, _, HD.out, Int.le_refl _, by omega⟩⟩
    · have HR2 : Hid (r = .ok (p + 1)) := by rw [hr.out]; unfold nameL; rw [← ht.out, if_neg (by omega), if_neg hn]; rfl
      have HN : Hid (Lx.named t.text.toList = true) := by unfold Hid; simpa using hn
      clear hn hk
      go_wp2_with fail
      refine (named_any t.text _ hz).mono ?_
      rintro e w2 ⟨he, rfl⟩
      rw [HN.out] at he
      subst he
      go_wp2_with fail
      refine (skip_any R ta tc l p en mv op _ HRV (by omega)).mono ?_
      rintro e w3 ⟨rfl, hr3, hg3⟩
      have HR3 : Hid (RD w3 R ta tc l (p + 1) en mv op) := hr3
      have HG3 : Hid (w.grownBy w3 (some R)) := ⟨hg3.os.trans HBV.out.os, hg3.tape.trans HBV.out.tape, hg3.output.trans HBV.out.output, Nat.le_trans HBV.out.size hg3.size, fun k hk hn => (hg3.block k (by have := HBV.out.size; omega) hn).trans (HBV.out.block k hk)⟩
      have k1 : w3.cell? ⟨w1.heap.size, 1, none⟩ = some (.string t.text) := (World.cell?_of_block (w := w2) (hg3.block w1.heap.size (by omega) (by simp; omega))).trans v1
      clear hr3 hg3 v0 v1
      go_wp2
      go_ret
      exact ⟨HG3.out, by rw [HR2.out]; exact ⟨rfl, HR3.out⟩⟩
  · have HR2 : Hid (r = .error (2, t.pos)) := by rw [hr.out]; unfold nameL; rw [← ht.out, if_pos hk]; rfl
    have e0 : ((t.kind : Int) != 1) = true := by simp; omega
    clear hk
    go_wp2_with fail
    refine (cfail_any B R ta tc l p en mv op 2 t _ HRV HTV hB hp ht).mono ?_
    rintro e w3 ⟨rfl, hb3⟩
    have HG3 : Hid (w.grownBy w3 (some R)) := grown_on (grown_bel HBV.out) hb3
    have HD : Hid (RD w3 R ta tc l p en mv op) := HRV.out.on hb3
    clear hb3
    go_wp2
    exact ⟨rfl, HG3.out, by rw [HR2.out]; exact ⟨rfl, _, _, HD.out, Int.le_refl _, by omega⟩⟩

end Go.Proofs.YtlnikpcoejpknaaGreatDoor

/- The walks of the reader's valueType and places. -/
namespace Go.Proofs.YtlnikpcoejpknaaGreatDoor
open Go.RowKit

theorem hide2 {p : Prop} (h : p) : Hid p := h

/-- A type, and where the reader then stands. -/
def tyAt (l : List Lx.Tk) (p en : Nat) : Sy.Ty := if tk l p ⟨#[110, 117, 109]⟩ then ⟨1, ⟨#[]⟩⟩ else if tk l p ⟨#[98, 111, 111, 108]⟩ then ⟨2, ⟨#[]⟩⟩ else ⟨3, (pk l p en).text⟩
def typL (l : List Lx.Tk) (p en : Nat) : Except (Int × Nat) Nat := if tk l p ⟨#[110, 117, 109]⟩ then .ok (p + 1) else if tk l p ⟨#[98, 111, 111, 108]⟩ then .ok (p + 1) else nameL l p en

abbrev ZT : Obj := .cells #[.int .i64 0, .string ⟨#[]⟩] 53 (0, 0)

theorem kept_on {W u : World} {N R : Nat} {o : Obj} (hg : W.grownBy u (some R)) (hne : N ≠ R) (h : W.heap[N]? = some o) : u.heap[N]? = some o := (hg.block N (lt_of_block h) (by simp; omega)).trans h
theorem grown_tr {a b c : World} {R : Nat} (h : a.grownBy b (some R)) (k : b.grownBy c (some R)) : a.grownBy c (some R) :=
  ⟨k.os.trans h.os, k.tape.trans h.tape, k.output.trans h.output, Nat.le_trans h.size k.size, fun i hi hn => (k.block i (Nat.lt_of_lt_of_le hi h.size) hn).trans (h.block i hi hn)⟩
/-- Stores into a new box leave what was there. -/
theorem grown_two {w u : World} {R N : Nat} (h : w.grownBy u (some R)) (hN : w.heap.size ≤ N) (x y : Value) : w.grownBy ((u.setCell ⟨N, 0, none⟩ x).setCell ⟨N, 1, none⟩ y) (some R) :=
  ⟨h.os, h.tape, h.output, by simpa [World.setCell] using h.size, fun i hi hn => by
    rw [Below.heap_setCell _ _ _ _ (by show i ≠ N; omega), Below.heap_setCell _ _ _ _ (by show i ≠ N; omega)]
    exact h.block i hi hn⟩
theorem RD.two {w : World} {R N : Nat} {ta : Option Addr} {tc : Nat} {l : List Lx.Tk} {p en : Nat} {mv : Value} {op : Int} (h : RD w R ta tc l p en mv op) (hN : R ≠ N) (x y : Value) : RD ((w.setCell ⟨N, 0, none⟩ x).setCell ⟨N, 1, none⟩ y) R ta tc l p en mv op := by
  unfold RD
  rw [Below.heap_setCell _ _ _ _ (by exact hN), Below.heap_setCell _ _ _ _ (by exact hN)]
  exact h

set_option maxRecDepth 100000 in
set_option maxHeartbeats 1000000 in
theorem valueType_any (B R : Nat) (ta : Option Addr) (tc : Nat) (l : List Lx.Tk) (p en : Nat) (mv : Value) (op : Int) (r : Except (Int × Nat) Nat) (t : Sy.Ty) (w : World) (hR : Hid (RD w R ta tc l p en mv op)) (hT : Hid (TkIn B w l ta)) (hB : B ≤ R) (hp : p ≤ l.length) (ht : Hid (t = tyAt l p en)) (hz : (pk l p en).text.size ≤ maxLen) (hr : Hid (r = typL l p en)) :
    Calls Tryz.prog 101 #[.pointer (some ⟨R, 0, none⟩)] w fun e w' => RFate R ta tc l en mv op w (.agg #[.int .i64 t.kind, .string t.gen]) r e w' := by
  have hRl := hR.out.lt
  cases h1 : tk l p ⟨#[110, 117, 109]⟩ with
  | true =>
    have HR2 : Hid (r = .ok (p + 1)) := by rw [hr.out]; unfold typL; rw [h1]; rfl
    have HT2 : Hid (t = ⟨1, ⟨#[]⟩⟩) := by rw [ht.out]; unfold tyAt; rw [h1]; rfl
    go_enter Tryz.func101, Tryz.ntmps101
    have HW0 : Hid (Below w.heap.size w (w.alloc ZT)) := (Below.refl _ w).alloc (Nat.le_refl _) _
    have H0 : Hid (RD (w.alloc ZT) R ta tc l p en mv op) := hR.out.on HW0.out
    have HT0 : Hid (TkIn B (w.alloc ZT) l ta) := hT.out.on (below_same HW0.out (by omega))
    go_wp2_with fail
    refine (take_any B R ta tc l p en mv op _ true (p + 1) _ H0 HT0 hB hp h1.symm rfl).mono ?_
    rintro e w1 ⟨rfl, hr1, hg1⟩
    have H1 : Hid (RD w1 R ta tc l (p + 1) en mv op) := hr1
    have HG1 : Hid (w.grownBy w1 (some R)) := grown_tr (grown_bel HW0.out) hg1
    obtain ⟨c0, c1, f0, f1⟩ := two_cell (kept_on hg1 (by omega) (heap_alloc_new w ZT))
    clear hr1 hg1 h1
    go_wp2
    refine bodyPost_ret (v := .agg #[.int .i64 1, .string ⟨#[]⟩]) (by simp [results, Tryz.results101, go_sem, c0, c1]) rfl ?_
    exact ⟨grown_two HG1.out (Nat.le_refl _) _ _, by rw [HR2.out, HT2.out]; exact ⟨rfl, H1.out.two (by omega) _ _⟩⟩
  | false =>
    have HW0 : Hid (Below w.heap.size w (w.alloc ZT)) := (Below.refl _ w).alloc (Nat.le_refl _) _
    have H0 : Hid (RD (w.alloc ZT) R ta tc l p en mv op) := hR.out.on HW0.out
    have HT0 : Hid (TkIn B (w.alloc ZT) l ta) := hT.out.on (below_same HW0.out (by omega))
    cases h2 : tk l p ⟨#[98, 111, 111, 108]⟩ with
    | true =>
      have HR2 : Hid (r = .ok (p + 1)) := by rw [hr.out]; unfold typL; rw [h1, h2]; rfl
      have HT2 : Hid (t = ⟨2, ⟨#[]⟩⟩) := by rw [ht.out]; unfold tyAt; rw [h1, h2]; rfl
      go_enter Tryz.func101, Tryz.ntmps101
      go_wp2_with fail
      refine (take_any B R ta tc l p en mv op _ false p _ H0 HT0 hB hp h1.symm rfl).mono ?_
      rintro e w1 ⟨rfl, hr1, hg1⟩
      have H1 : Hid (RD w1 R ta tc l p en mv op) := hr1
      have HG1 : Hid (w.grownBy w1 (some R)) := grown_tr (grown_bel HW0.out) hg1
      have HT1 : Hid (TkIn B w1 l ta) := HT0.out.grown hg1 hB H0.out.lt
      have HZ1 : Hid (w1.heap[w.heap.size]? = some ZT) := kept_on hg1 (by omega) (heap_alloc_new w ZT)
      clear hr1 hg1 h1
      go_wp2_with fail
      refine (take_any B R ta tc l p en mv op _ true (p + 1) _ H1 HT1 hB hp h2.symm rfl).mono ?_
      rintro e w2 ⟨rfl, hr2, hg2⟩
      have H2 : Hid (RD w2 R ta tc l (p + 1) en mv op) := hr2
      have HG2 : Hid (w.grownBy w2 (some R)) := grown_tr HG1.out hg2
      obtain ⟨c0, c1, f0, f1⟩ := two_cell (kept_on hg2 (by omega) HZ1.out)
      clear hr2 hg2 h2
      go_wp2
      refine bodyPost_ret (v := .agg #[.int .i64 2, .string ⟨#[]⟩]) (by simp [results, Tryz.results101, go_sem, c0, c1]) rfl ?_
      exact ⟨grown_two HG2.out (Nat.le_refl _) _ _, by rw [HR2.out, HT2.out]; exact ⟨rfl, H2.out.two (by omega) _ _⟩⟩
    | false =>
      have HR2 : Hid (r = nameL l p en) := by rw [hr.out]; unfold typL; rw [h1, h2]; rfl
      obtain ⟨x, hx⟩ : ∃ x, x = pk l p en := ⟨_, rfl⟩
      have HX : Hid (x = pk l p en) := hx
      rw [← hx] at hz
      have HT2 : Hid (t = ⟨3, x.text⟩) := by rw [ht.out, hx]; unfold tyAt; rw [h1, h2]; rfl
      clear hx
      go_enter Tryz.func101, Tryz.ntmps101
      go_wp2_with fail
      refine (take_any B R ta tc l p en mv op _ false p _ H0 HT0 hB hp h1.symm rfl).mono ?_
      rintro e w1 ⟨rfl, hr1, hg1⟩
      have H1 : Hid (RD w1 R ta tc l p en mv op) := hr1
      have HG1 : Hid (w.grownBy w1 (some R)) := grown_tr (grown_bel HW0.out) hg1
      have HT1 : Hid (TkIn B w1 l ta) := HT0.out.grown hg1 hB H0.out.lt
      have HZ1 : Hid (w1.heap[w.heap.size]? = some ZT) := kept_on hg1 (by omega) (heap_alloc_new w ZT)
      clear hr1 hg1 h1
      go_wp2_with fail
      refine (take_any B R ta tc l p en mv op _ false p _ H1 HT1 hB hp h2.symm rfl).mono ?_
      rintro e w2 ⟨rfl, hr2, hg2⟩
      have H2 : Hid (RD w2 R ta tc l p en mv op) := hr2
      have HG2 : Hid (w.grownBy w2 (some R)) := grown_tr HG1.out hg2
      have HT2' : Hid (TkIn B w2 l ta) := HT1.out.grown hg2 hB H1.out.lt
      have HZ2 : Hid (w2.heap[w.heap.size]? = some ZT) := kept_on hg2 (by omega) HZ1.out
      clear hr2 hg2 h2
      go_wp2_with fail
      refine (name_any B R ta tc l p en mv op r x _ H2 HT2' hB hp HX hz HR2).mono ?_
      rintro e w3 ⟨hg3, hf3⟩
      have HG3 : Hid (w.grownBy w3 (some R)) := grown_tr HG2.out hg3
      have HZ3 : Hid (w3.heap[w.heap.size]? = some ZT) := kept_on hg3 (by omega) HZ2.out
      cases r with
      | ok q =>
        obtain ⟨rfl, hr3⟩ := hf3
        have H3 : Hid (RD w3 R ta tc l q en mv op) := hr3
        obtain ⟨c0, c1, f0, f1⟩ := two_cell HZ3.out
        clear hg3 hr3
        go_wp2
        refine bodyPost_ret (v := .agg #[.int .i64 3, .string x.text]) (by simp [results, Tryz.results101, go_sem, c0, c1]) rfl ?_
        exact ⟨grown_two HG3.out (Nat.le_refl _) _ _, by rw [HT2.out]; exact ⟨rfl, H3.out.two (by omega) _ _⟩⟩
      | error er =>
        obtain ⟨e1, e2⟩ := er
        obtain ⟨rfl, hd3⟩ := hf3
        have HD := hide2 hd3
        clear hg3 hd3
        go_wp2
        exact ⟨rfl, HG3.out, rfl, HD.out⟩

end Go.Proofs.YtlnikpcoejpknaaGreatDoor

/- The walks of the reader's places, enter and leave. -/
namespace Go.Proofs.YtlnikpcoejpknaaGreatDoor
open Go.RowKit

def placesL (l : List Lx.Tk) (p en : Nat) : Except (Int × Nat) Nat :=
  if (pk l p en).kind ≠ 2 then .error (2, (pk l p en).pos) else if (pk l p en).num < 1 ∨ 20 < (pk l p en).num then .error (3, (pk l p en).pos) else .ok (p + 1)

set_option maxRecDepth 100000 in
set_option maxHeartbeats 1000000 in
theorem places_any (B R : Nat) (ta : Option Addr) (tc : Nat) (l : List Lx.Tk) (p en : Nat) (mv : Value) (op : Int) (r : Except (Int × Nat) Nat) (t : Lx.Tk) (w : World) (hR : Hid (RD w R ta tc l p en mv op)) (hT : Hid (TkIn B w l ta)) (hB : B ≤ R) (hp : p ≤ l.length) (ht : Hid (t = pk l p en)) (hn : t.num ≤ 1000000000000000) (hr : Hid (r = placesL l p en)) :
    Calls Tryz.prog 102 #[.pointer (some ⟨R, 0, none⟩)] w fun e w' => RFate R ta tc l en mv op w (.int .i64 t.num) r e w' := by
  have hRl := hR.out.lt
  have hl6 := hT.out.1
  go_enter Tryz.func102, Tryz.ntmps102
  go_wp2_with fail
  refine (peek_any B R ta tc l p en mv op t _ hR hT hB hp ht).mono ?_
  rintro e w1 ⟨rfl, hb1⟩
  have HB1 : Hid (Below w.heap.size w w1) := hb1
  have HR1 : Hid (RD w1 R ta tc l p en mv op) := hR.out.on hb1
  have HT1 : Hid (TkIn B w1 l ta) := hT.out.on (below_same hb1 (by omega))
  obtain ⟨V, hV⟩ : ∃ V, V = w1.alloc (.cells #[.int .i64 t.kind, .string t.text, .int .i64 t.num, .int .i64 t.pos] 84) := ⟨_, rfl⟩
  have hVz : V.heap.size = w1.heap.size + 1 := by rw [hV]; simp
  have HVb : Hid (Below w1.heap.size w1 V) := by rw [hV]; exact (Below.refl _ w1).alloc (Nat.le_refl _) _
  have v0 : V.cell? ⟨w1.heap.size, 0, none⟩ = some (.int .i64 t.kind) := by rw [hV, World.cell?_alloc_mark]; rfl
  have v2 : V.cell? ⟨w1.heap.size, 2, none⟩ = some (.int .i64 t.num) := by rw [hV, World.cell?_alloc_mark]; rfl
  have HVe : Hid (w1.alloc (.cells #[.int .i64 t.kind, .string t.text, .int .i64 t.num, .int .i64 t.pos] 84) = V) := hV.symm
  have HRV : Hid (RD V R ta tc l p en mv op) := HR1.out.on HVb.out
  have HTV : Hid (TkIn B V l ta) := HT1.out.on (below_same HVb.out (by have := hb1.size; omega))
  have HBV : Hid (Below w.heap.size w V) := hb1.trans (HVb.out.mono hb1.size)
  have hz1 := hb1.size
  clear hb1 hV
  go_upto_region 2 with fail
  rw [HVe.out]
  by_cases hk : t.kind = 2
  · have e0 : ((t.kind : Int) != 2) = false := by simp; omega
    by_cases hn1 : t.num < 1
    · have HR2 : Hid (r = .error (3, t.pos)) := by rw [hr.out]; unfold placesL; rw [← ht.out, if_neg (by omega), if_pos (.inl hn1)]; rfl
      have g1 : (t.num : Int) < 1 := by omega
      clear hk
      go_wp2_with fail
      refine (cfail_any B R ta tc l p en mv op 3 t _ HRV HTV hB hp ht).mono ?_
      rintro e w3 ⟨rfl, hb3⟩
      have HG3 : Hid (w.grownBy w3 (some R)) := grown_on (grown_bel HBV.out) hb3
      have HD : Hid (RD w3 R ta tc l p en mv op) := HRV.out.on hb3
      clear hb3
      go_wp2
      exact ⟨rfl, HG3.out, by rw [HR2.out]; exact ⟨rfl, _, _, HD.out, Int.le_refl _, by omega⟩⟩
    · by_cases hn2 : 20 < t.num
      · have HR2 : Hid (r = .error (3, t.pos)) := by rw [hr.out]; unfold placesL; rw [← ht.out, if_neg (by omega), if_pos (.inr hn2)]; rfl
        have g1 : 1 ≤ (t.num : Int) := by omega
        have g2 : 20 < (t.num : Int) := by omega
        clear hk
        go_wp2_with fail
        refine (cfail_any B R ta tc l p en mv op 3 t _ HRV HTV hB hp ht).mono ?_
        rintro e w3 ⟨rfl, hb3⟩
        have HG3 : Hid (w.grownBy w3 (some R)) := grown_on (grown_bel HBV.out) hb3
        have HD : Hid (RD w3 R ta tc l p en mv op) := HRV.out.on hb3
        clear hb3
        go_wp2
        exact ⟨rfl, HG3.out, by rw [HR2.out]; exact ⟨rfl, _, _, HD.out, Int.le_refl _, by omega⟩⟩
      · have HR2 : Hid (r = .ok (p + 1)) := by rw [hr.out]; unfold placesL; rw [← ht.out, if_neg (by omega), if_neg (by omega)]; rfl
        have g1 : 1 ≤ (t.num : Int) := by omega
        have g2 : (t.num : Int) ≤ 20 := by omega
        clear hk
        go_wp2_with fail
        refine (skip_any R ta tc l p en mv op _ HRV (by omega)).mono ?_
        rintro e w3 ⟨rfl, hr3, hg3⟩
        have HR3 : Hid (RD w3 R ta tc l (p + 1) en mv op) := hr3
        have HG3 : Hid (w.grownBy w3 (some R)) := grown_tr (grown_bel HBV.out) hg3
        have k2 : w3.cell? ⟨w1.heap.size, 2, none⟩ = some (.int .i64 t.num) := (World.cell?_of_block (w := V) (hg3.block w1.heap.size (by omega) (by simp; omega))).trans v2
        clear hr3 hg3 v0 v2
        go_wp2
        go_ret
        exact ⟨HG3.out, by rw [HR2.out]; exact ⟨rfl, HR3.out⟩⟩
  · have HR2 : Hid (r = .error (2, t.pos)) := by rw [hr.out]; unfold placesL; rw [← ht.out, if_pos hk]; rfl
    have e0 : ((t.kind : Int) != 2) = true := by simp; omega
    clear hk
    go_wp2_with fail
    refine (cfail_any B R ta tc l p en mv op 2 t _ HRV HTV hB hp ht).mono ?_
    rintro e w3 ⟨rfl, hb3⟩
    have HG3 : Hid (w.grownBy w3 (some R)) := grown_on (grown_bel HBV.out) hb3
    have HD : Hid (RD w3 R ta tc l p en mv op) := HRV.out.on hb3
    clear hb3
    go_wp2
    exact ⟨rfl, HG3.out, by rw [HR2.out]; exact ⟨rfl, _, _, HD.out, Int.le_refl _, by omega⟩⟩

end Go.Proofs.YtlnikpcoejpknaaGreatDoor

