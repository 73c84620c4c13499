/- The walks of caught and of Wrong. -/
import Derived.Test.YtlnikpcoejpknaaGreatDoorM10
import Derived.MapKept
import Derived.Lib.Itoa
namespace Go.Proofs.YtlnikpcoejpknaaGreatDoor
open Go.RowKit

abbrev Z2C : Obj := .cells #[.int .i64 0, .int .i64 0] 25 (0, 0)

set_option maxRecDepth 100000 in
set_option maxHeartbeats 400000 in
theorem caught_any (g : FuncId) (cap : Array Value) (er num : Int) (X : World → Prop) (w : World) (hz : er = 0 → num = 0) (hcf : ∀ w : World, (callFunc g cap).run Tryz.prog w = .ok (.enter g cap) w)
    (hw : Calls Tryz.prog g cap (w.alloc Z2C) fun e w' => X w' ∧ w'.heap[w.heap.size]? = some Z2C ∧ Thrown er num e) :
    Calls Tryz.prog 14 #[.func (.func g) #[] cap] w fun e w' => e = .returned (.agg #[.int .i64 er, .int .i64 num]) ∧ ∃ wx, X wx ∧ wx.heap[w.heap.size]? = some Z2C ∧ w' = (wx.setCell ⟨w.heap.size, 0, none⟩ (.int .i64 er)).setCell ⟨w.heap.size, 1, none⟩ (.int .i64 num) := by
  have hmf : ∀ (fn : Fn) (first cap : Array Value) (w : World), (Instr.makeFunc fn first cap).run Tryz.prog w = .ok (.func fn first cap) w := fun _ _ _ _ => rfl
  go_enter_defers Tryz.func14, Tryz.ntmps14
  go_wp2_with fail
  refine hw.mono ?_
  rintro e w1 ⟨hX, hF, ht⟩
  obtain ⟨c0, c1, f0, f1⟩ := two_cell hF
  have HX : Hid (X w1) := hX
  have HF : Hid (w1.heap[w.heap.size]? = some Z2C) := hF
  clear hX hF
  by_cases h0 : er = 0
  · have hn := hz h0
    subst h0
    subst hn
    obtain rfl : e = .returned (.tuple #[]) := ht
    clear hw hz
    go_wp2
    refine leaves_cons (f := 33) (args := #[.pointer (some ⟨w.heap.size, 0, none⟩)]) (by simp) (by simp [go_sem]) ?_
    refine (catch_none w.heap.size _).mono ?_
    rintro e u' w'' ⟨rfl, rfl, rfl⟩
    show Leaves _ _ _ _ [] .returning _
    exact ⟨.agg #[.int .i64 0, .int .i64 0], by simp [results, Tryz.results14, go_sem, c0, c1], rfl, w1, HX.out, HF.out, rfl⟩
  · obtain rfl : e = .panicked [fltE er num] := by unfold Thrown at ht; rw [if_neg h0] at ht; exact ht
    clear ht hw hz h0
    go_wp2
    refine leaves_cons (f := 33) (args := #[.pointer (some ⟨w.heap.size, 0, none⟩)]) (by simp) (by simp [go_sem]) ?_
    refine (catch_thrown w.heap.size er num [] _ HF.out).mono ?_
    rintro e u' w'' ⟨rfl, rfl, rfl⟩
    show Leaves _ _ _ _ [] .returning _
    exact ⟨.agg #[.int .i64 er, .int .i64 num], by simp [results, Tryz.results14, go_sem, c0, c1], rfl, w1, HX.out, HF.out, rfl⟩

theorem wrongL_zero (l : List Sy.Df) : (Sy.wrongL l).1 = 0 → (Sy.wrongL l).2 = 0 := by
  have hd : ∀ (l : List Sy.Df) (i n : Nat), (Sy.defsW l i n).1 = 0 → (Sy.defsW l i n).2 = 0 := by
    intro l
    induction l with
    | nil => intro i n _; rfl
    | cons d l ih =>
      intro i n h
      unfold Sy.defsW at h ⊢
      cases hw : Sy.dfW d n with
      | error e => rw [hw] at h; exact absurd h (dfW_ne hw)
      | ok m => rw [hw] at h; exact ih _ _ h
  unfold Sy.wrongL
  split
  · intro h; simp at h
  · exact hd _ _ _

set_option maxRecDepth 100000 in
set_option maxHeartbeats 400000 in
theorem wrong_any (l : List Sy.Df) (a : Option Addr) (c : Nat) (w : World) (hX : DfsIn w.heap.size w l a) :
    Calls Tryz.prog 11 #[.slice a l.length c] w fun e w' => e = .returned (.agg #[.int .i64 (Sy.wrongL l).1, .int .i64 (Sy.wrongL l).2]) ∧ Below w.heap.size w w' := by
  obtain ⟨er, her⟩ : ∃ er, er = (Sy.wrongL l).1 := ⟨_, rfl⟩
  obtain ⟨num, hnum⟩ : ∃ num, num = (Sy.wrongL l).2 := ⟨_, rfl⟩
  have HZ : Hid (er = 0 → ((num : Nat) : Int) = 0) := by intro h; have := wrongL_zero l (by rw [← her]; exact h); rw [← hnum] at this; omega
  have HR : Hid ((er, num) = Sy.wrongL l) := by rw [her, hnum]; rfl
  rw [← her, ← hnum]
  clear her hnum
  have HX : Hid (DfsIn w.heap.size w l a) := hX
  clear hX
  have hmf : ∀ (fn : Fn) (first cap : Array Value) (w : World), (Instr.makeFunc fn first cap).run Tryz.prog w = .ok (.func fn first cap) w := fun _ _ _ _ => rfl
  go_enter Tryz.func11, Tryz.ntmps11
  go_wp2_with fail
  have HG : Hid (w.grownBy (((w.alloc (.cells #[.slice a l.length c] 22)).alloc Z2C).alloc Z2C) none) := grown_trans (grown_trans (World.grownBy_alloc _ _ _) (World.grownBy_alloc _ _ _)) (World.grownBy_alloc _ _ _)
  refine (caught_any 29 #[.pointer (some ⟨w.heap.size, 0, none⟩)] er num (fun w' => w.grownBy w' none ∧ w'.heap[w.heap.size + 1]? = some Z2C) _ HZ.out ?_ ?_).mono ?_
  · intro w'
    first | rfl | kernel_rfl | simp [go_sem]
  · refine (wrongf_any w.heap.size w.heap.size l a c er num _ ?_ (HX.out.same (same_grown HG.out (by simp) (Nat.le_refl _))) (by simp; omega) HR).mono ?_
    · rw [Below.heap_alloc _ _ _ (by simp; omega), Below.heap_alloc _ _ _ (by simp)]
      exact heap_alloc_new w _
    · rintro e w' ⟨hg, ht⟩
      refine ⟨⟨grown_trans HG.out hg, ?_⟩, ?_, ht⟩
      · refine (hg.block _ (by simp) (by simp)).trans ?_
        rw [Below.heap_alloc _ _ _ (by simp)]
        have := heap_alloc_new (w.alloc (.cells #[.slice a l.length c] 22)) Z2C
        simpa using this
      · exact (hg.block _ (by simp) (by simp)).trans (heap_alloc_new _ _)
  rintro e w1 ⟨rfl, wx, ⟨hg, h2⟩, hF, rfl⟩
  obtain ⟨c0, c1, f0, f1⟩ := two_cell h2
  have HB : Hid (Below w.heap.size w wx) := ⟨hg.os, hg.tape, hg.output, hg.size, fun k hk => hg.block k hk (by simp)⟩
  clear hg h2 hF
  go_wp2
  refine bodyPost_ret (v := .agg #[.int .i64 er, .int .i64 num]) (by simp [results, Tryz.results11, go_sem, c0, c1]) rfl ⟨rfl, ?_⟩
  exact (((HB.out.setCell (p := ⟨w.heap.size + 1 + 1, 0, none⟩) (by simp; omega) _).setCell (p := ⟨w.heap.size + 1 + 1, 1, none⟩) (by simp; omega) _).setCell (p := ⟨w.heap.size + 1, 0, none⟩) (by simp) _).setCell (p := ⟨w.heap.size + 1, 1, none⟩) (by simp) _

end Go.Proofs.YtlnikpcoejpknaaGreatDoor

/- The printer in memory; the walk of put. -/
namespace Go.Proofs.YtlnikpcoejpknaaGreatDoor
open Go.RowKit

/-- A row of texts. -/
def StrRow (o : Obj) : Prop := ∃ cur fr, o = .cells cur 9 fr

/-- The printer lies in block P: its words so far, its map. -/
def PR (w : World) (P Bs : Nat) (ws : List ByteArray) (mv : Value) : Prop :=
  ∃ v, w.heap[P]? = some (.cells #[v, mv] 73 (0, 0)) ∧ w.ownsRow Bs 9 1 v ws.length (ws.map Value.string)

/-- Below Bs all but P is as it was; from Bs on all that is no row of texts. -/
structure Fr (P Bs : Nat) (w w' : World) : Prop where
  os : w'.os = w.os
  tape : w'.tape = w.tape
  output : w'.output = w.output
  size : w.heap.size ≤ w'.heap.size
  block : ∀ k o, k ≠ P → w.heap[k]? = some o → (k < Bs ∨ ¬ StrRow o) → w'.heap[k]? = some o

theorem Fr.refl (P Bs : Nat) (w : World) : Fr P Bs w w := ⟨rfl, rfl, rfl, Nat.le_refl _, fun _ _ _ h _ => h⟩
theorem Fr.trans {P Bs : Nat} {a b c : World} (h : Fr P Bs a b) (k : Fr P Bs b c) : Fr P Bs a c :=
  ⟨k.os.trans h.os, k.tape.trans h.tape, k.output.trans h.output, Nat.le_trans h.size k.size, fun i o hi ho hs => k.block i o hi (h.block i o hi ho hs) hs⟩
theorem Fr.alloc (P Bs : Nat) (w : World) (o : Obj) : Fr P Bs w (w.alloc o) :=
  ⟨rfl, rfl, rfl, by simp, fun k _ _ h _ => (Below.heap_alloc _ _ _ (lt_of_block h)).trans h⟩
theorem Fr.below {P Bs : Nat} {w w' : World} (h : Below w.heap.size w w') : Fr P Bs w w' :=
  ⟨h.os, h.tape, h.output, h.size, fun k _ _ ho _ => (h.block k (lt_of_block ho)).trans ho⟩
theorem Fr.same {P Bs B : Nat} {w w' : World} (h : Fr P Bs w w') (hB : B ≤ P) (hP : P < Bs) (hs : B ≤ w.heap.size) : Go.Proofs.YtlnikpcoejpknaaGreatDoor.Same B w w' := fun b o hb => by
  obtain ⟨x, hx⟩ : ∃ x, w.heap[b]? = some x := ⟨_, Array.getElem?_eq_getElem (by omega)⟩
  exact World.cell?_of_block (w := w) ((h.block b x (by omega) hx (.inl (by omega))).trans hx.symm)

theorem PR.lt {w : World} {P Bs : Nat} {ws : List ByteArray} {mv : Value} (h : PR w P Bs ws mv) : P < w.heap.size := by
  obtain ⟨v, hv, _⟩ := h; exact lt_of_block hv
theorem PR.alloc {w : World} {P Bs : Nat} {ws : List ByteArray} {mv : Value} (h : PR w P Bs ws mv) (o : Obj) : PR (w.alloc o) P Bs ws mv := by
  obtain ⟨v, hv, ho⟩ := h
  exact ⟨v, (Below.heap_alloc _ _ _ (lt_of_block hv)).trans hv, ho.alloc o⟩

theorem set_first {w : World} {b : Nat} {v0 v1 u0 : Value} {t : TypeId} (h : w.heap[b]? = some (.cells #[v0, v1] t (0, 0))) :
    (w.setCell ⟨b, 0, none⟩ u0).heap[b]? = some (.cells #[u0, v1] t (0, 0)) := by
  simp only [World.setCell, Array.getElem?_modify, if_true, h, Option.map_some]
  rfl

theorem Tryz.info_str : (Tryz.prog.info? 9).map (fun i => (i.zero, i.size, i.bytes)) = some (some (.string ByteArray.empty), 1, 16) := by kernel_rfl

theorem one_str (xs : List ByteArray) : ∀ u ∈ xs.map Value.string, u.oneCell' = true := by
  intro u hu
  obtain ⟨x, _, rfl⟩ := List.mem_map.1 hu
  rfl

theorem own_set {w : World} {P Bs : Nat} {v : Value} {n : Nat} {xs : List Value} (h : w.ownsRow Bs 9 1 v n xs) (hP : P < Bs) (u : Value) : (w.setCell ⟨P, 0, none⟩ u).ownsRow Bs 9 1 v n xs := ownsRow_setCell_below h (a := ⟨P, 0, none⟩) hP u

theorem put_frame {P Bs : Nat} {w w1 : World} {v : Value} {n : Nat} {xs : List Value} (ho : w.ownsRow Bs 9 1 v n xs) (hg : w.grownBy w1 v.ownBlock) (u : Value) : Fr P Bs w (w1.setCell ⟨P, 0, none⟩ u) := by
  refine ⟨hg.os, hg.tape, hg.output, by simpa [World.setCell] using hg.size, fun k o hk ho2 hs => ?_⟩
  rw [Below.heap_setCell _ _ _ _ (by exact hk)]
  refine (hg.block k (lt_of_block ho2) (fun e => ?_)).trans ho2
  rcases hs with hs | hs
  · have := (ho.lt k e.symm).1; omega
  · apply hs
    rcases ho.2 with ⟨rfl, _⟩ | ⟨g, cap, cur, rfl, _, hh, _⟩
    · simp [Value.ownBlock] at e
    · simp only [Value.ownBlock, Option.some.injEq] at e
      subst e
      rw [ho2] at hh
      simp only [Option.some.injEq] at hh
      exact ⟨cur, (0, 0), hh⟩

set_option maxRecDepth 100000 in
set_option maxHeartbeats 1000000 in
theorem put_any (P Bs : Nat) (ws xs : List ByteArray) (mv : Value) (ad : Addr) (c : Nat) (w : World) (hPR : Hid (PR w P Bs ws mv)) (hPB : P < Bs) (hBs : Bs ≤ w.heap.size)
    (hx : Hid (∀ j x, xs[j]? = some x → w.cell? (ad.add j) = some (.string x))) (hn : ws.length + xs.length ≤ 1000000) :
    Calls Tryz.prog 49 #[.pointer (some ⟨P, 0, none⟩), .slice (some ad) xs.length c] w fun e w' => e = .returned (.tuple #[]) ∧ PR w' P Bs (ws ++ xs) mv ∧ Fr P Bs w w' := by
  obtain ⟨v, hP, hown⟩ := hPR.out
  obtain ⟨c0, c1, f0, f1⟩ := two_cell hP
  obtain ⟨i0, hi, hz0, hz1, hz2⟩ := info_parts Tryz.info_str
  have HP : Hid (w.heap[P]? = some (.cells #[v, mv] 73 (0, 0))) := hP
  have HO : Hid (w.ownsRow Bs 9 1 v ws.length (ws.map Value.string)) := hown
  have HX : Hid (∀ j u, (xs.map Value.string)[j]? = some u → w.cell? (ad.add j) = some u) := by
    intro j u hu
    rw [List.getElem?_map] at hu
    obtain ⟨x, hx2, rfl⟩ := Option.map_eq_some_iff.1 hu
    exact hx.out j x hx2
  clear hP hown hx hPR
  go_enter Tryz.func49, Tryz.ntmps49
  go_wp2_with (at_builtin; refine wpList_append_own _ rfl _ _ 69 rfl Bs 9 i0 (.string ByteArray.empty) 1 16 Tryz.underlying69 hi hz0 hz1 hz2 rfl (by decide) _ _ _ rfl HO.out ad xs.length c (xs.map Value.string) rfl (by simp) HX.out (one_str xs) (by unfold maxLen; omega) (by omega) hBs ?_)
  intro v' w1 hown' hgrow _
  have HG : Hid (w.grownBy w1 v.ownBlock) := hgrow
  have hP1 : w1.heap[P]? = some (.cells #[v, mv] 73 (0, 0)) := (hgrow.block P (lt_of_block HP.out) (fun e => by have := (HO.out.lt P e.symm).1; omega)).trans HP.out
  have HP1 : Hid (w1.heap[P]? = some (.cells #[v, mv] 73 (0, 0))) := hP1
  have HO1 : Hid (w1.ownsRow Bs 9 1 v' (ws ++ xs).length ((ws ++ xs).map Value.string)) := by rw [List.length_append, List.map_append]; exact hown'
  have HF : Hid (Fr P Bs w (w1.setCell ⟨P, 0, none⟩ v')) := put_frame HO.out hgrow v'
  clear c0 c1 f0 f1
  obtain ⟨c0, c1, f0, f1⟩ := two_cell hP1
  have hv : (∃ n cap, v' = .slice none n cap) ∨ ∃ g n cap, v' = .slice (some ⟨g, 0, none⟩) n cap := by
    rcases hown'.2 with ⟨h, _⟩ | ⟨g, cap, cur, h, _⟩
    · exact .inl ⟨0, 0, h⟩
    · exact .inr ⟨g, _, cap, h⟩
  clear hP1 hown' hgrow
  rcases hv with ⟨n, cap, rfl⟩ | ⟨g, n, cap, rfl⟩
  all_goals
    go_wp2
    go_end0
    exact ⟨rfl, ⟨_, set_first HP1.out, own_set HO1.out hPB _⟩, HF.out⟩

end Go.Proofs.YtlnikpcoejpknaaGreatDoor

/- Programs as words; the table of signs. -/
namespace Go.Proofs.YtlnikpcoejpknaaGreatDoor
open Go.RowKit
namespace Sy

/-- How strongly a kind's sign binds; 0: it has none between kids. -/
def lev (k : Int) : Int := if k = 18 then 1 else if k = 17 then 2 else if 11 ≤ k ∧ k ≤ 16 then 3 else if k = 6 ∨ k = 7 then 4 else if 8 ≤ k ∧ k ≤ 10 then 5 else 0
def levelOf (k : Int) : Int := if 0 < lev k then lev k else 6

/-- The signs: kind, text, how strongly it binds. -/
def table : List (Int × ByteArray × Int) := [(18, ⟨#[111, 114]⟩, 1), (17, ⟨#[97, 110, 100]⟩, 2), (11, ⟨#[61, 61]⟩, 3), (12, ⟨#[33, 61]⟩, 3), (13, ⟨#[60]⟩, 3), (14, ⟨#[60, 61]⟩, 3), (15, ⟨#[62]⟩, 3), (16, ⟨#[62, 61]⟩, 3), (6, ⟨#[43]⟩, 4), (7, ⟨#[45]⟩, 4), (8, ⟨#[42]⟩, 5), (9, ⟨#[47]⟩, 5), (10, ⟨#[37]⟩, 5)]

def sign (k : Int) : ByteArray := ((table.find? (fun p => p.1 == k)).map (fun p => p.2.1)).getD ⟨#[]⟩

end Sy

abbrev pairV (p : Int × ByteArray × Int) : Value := .agg #[.int .i64 p.1, .string p.2.1, .int .i64 p.2.2]
/-- The map's entries. -/
def entries : List MapEntry := (Sy.table.zipIdx).map fun (p, i) => { key := .int .i64 p.1, val := pairV p, born := i }

/-- The map of signs by kind lies in block M. -/
def MpK (w : World) (M : Nat) : Prop := w.heap[M]? = some (.map entries.toArray 13)

/-- What a look into it gives. -/
def lookK (k : Int) : Value := .agg #[.int .i64 (if 0 < Sy.lev k then k else 0), .string (Sy.sign k), .int .i64 (Sy.lev k)]

theorem kinds_cases (k : Int) : (∃ i, Instr.findNow (.int .i64) (.int .i64 k) entries 0 = some (some (i, lookK k))) ∨ (Instr.findNow (.int .i64) (.int .i64 k) entries 0 = some none ∧ lookK k = .agg #[.int .i64 0, .string ⟨#[]⟩, .int .i64 0]) := by
  by_cases h18 : k = 18
  · subst h18; exact .inl ⟨0, rfl⟩
  by_cases h17 : k = 17
  · subst h17; exact .inl ⟨1, rfl⟩
  by_cases h11 : k = 11
  · subst h11; exact .inl ⟨2, rfl⟩
  by_cases h12 : k = 12
  · subst h12; exact .inl ⟨3, rfl⟩
  by_cases h13 : k = 13
  · subst h13; exact .inl ⟨4, rfl⟩
  by_cases h14 : k = 14
  · subst h14; exact .inl ⟨5, rfl⟩
  by_cases h15 : k = 15
  · subst h15; exact .inl ⟨6, rfl⟩
  by_cases h16 : k = 16
  · subst h16; exact .inl ⟨7, rfl⟩
  by_cases h6 : k = 6
  · subst h6; exact .inl ⟨8, rfl⟩
  by_cases h7 : k = 7
  · subst h7; exact .inl ⟨9, rfl⟩
  by_cases h8 : k = 8
  · subst h8; exact .inl ⟨10, rfl⟩
  by_cases h9 : k = 9
  · subst h9; exact .inl ⟨11, rfl⟩
  by_cases h10 : k = 10
  · subst h10; exact .inl ⟨12, rfl⟩
  right
  constructor
  · have e : ∀ n : Int, k ≠ n → (k == n) = false := fun n h => by simp; omega
    simp [entries, Sy.table, Instr.findNow, Instr.sameNow, e _ h18, e _ h17, e _ h11, e _ h12, e _ h13, e _ h14, e _ h15, e _ h16, e _ h6, e _ h7, e _ h8, e _ h9, e _ h10]
  · have hl : Sy.lev k = 0 := by unfold Sy.lev; repeat' split
                                 all_goals omega
    have hs : Sy.sign k = ⟨#[]⟩ := by
      unfold Sy.sign Sy.table
      simp only [List.find?_cons, List.find?_nil]
      have e : ∀ n : Int, k ≠ n → (n == k) = false := fun n h => by simp; omega
      simp only [e _ h18, e _ h17, e _ h11, e _ h12, e _ h13, e _ h14, e _ h15, e _ h16, e _ h6, e _ h7, e _ h8, e _ h9, e _ h10]
      rfl
    unfold lookK
    rw [hl, hs]; rfl

theorem run_lookK (M : Nat) (k : Int) (w : World) (h : MpK w M) : (Instr.lookup 67 (.map (some M)) (.int .i64 k) false).run Tryz.prog w = .ok (lookK k) w := by
  unfold MpK at h
  have hg : (getObj M).run Tryz.prog w = .ok (.map entries.toArray 13) w := by simp [getObj, Sem.run, h]
  have hc : ∀ b, (Instr.checkKey b 10000 3 (.int .i64 k)).run Tryz.prog w = .ok () w := fun b => MapKept.run_checkKey (n := 9999) Tryz.underlying3 (by simp [MapKept.IsKey]) b
  have hu := run_underlying (w := w) Tryz.underlying67
  rcases kinds_cases k with ⟨i, hf⟩ | ⟨hf, hz⟩
  · have hk := MapKept.run_findKey (P := Tryz.prog) (w := w) (kt := 3) Tryz.underlying3 hf
    simp [Instr.lookup, hu, hg, hc, hk]
  · have hk := MapKept.run_findKey (P := Tryz.prog) (w := w) (kt := 3) Tryz.underlying3 hf
    have hzv : (zeroValue 87).run Tryz.prog w = .ok (lookK k) w := by rw [hz]; kernel_rfl
    simp [Instr.lookup, hu, hg, hc, hk, hzv]

end Go.Proofs.YtlnikpcoejpknaaGreatDoor

