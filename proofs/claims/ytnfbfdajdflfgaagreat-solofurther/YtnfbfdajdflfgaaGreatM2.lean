/- A flow in memory; the walks of throw.Fault, must, push, pop. -/
import Derived.Test.YtnfbfdajdflfgaaGreatM1
namespace Go.Proofs.YtnfbfdajdflfgaaGreat
open Go.RowKit

/-- A stack in memory: its types, the top one first. -/
def SkIn (w : World) : Option Addr → List Int → Prop
  | a, [] => a = none
  | a, t :: r => ∃ b below, a = some ⟨b, 0, none⟩ ∧ w.heap[b]? = some (.cells #[.int .i64 t, .pointer below] 156 (0, 0)) ∧ SkIn w below r
theorem SkIn.keep {w w' : World} : ∀ {st : List Int} {a : Option Addr}, SkIn w a st → (∀ (b : Nat) (cs : Array Value), w.heap[b]? = some (Obj.cells cs 156 (0, 0)) → w'.heap[b]? = some (Obj.cells cs 156 (0, 0))) → SkIn w' a st
  | [], _, h, _ => h
  | _ :: _, _, ⟨b, below, e, hb, hr⟩, hk => ⟨b, below, e, hk _ _ hb, hr.keep hk⟩

/-- What a flow is over, as it lies in memory. -/
structure FC where
  m : Vf.Md
  u : Vf.Un
  ab : Option Addr
  au : Option Addr
  al : Option Addr
  ac : Option Addr
  cb : Nat
  cu : Nat
  cl : Nat
  cc : Nat
  M : Nat
abbrev bvV (x : BitVec 64) : Value := .int .u64 (x.toNat : Int)
abbrev flO (c : FC) (top : Option Addr) (st : List Int) (f : Vf.Fl) (n : Int) (row : Value) : Obj :=
  .cells #[.slice c.ab c.m.boxes.length c.cb, .slice c.au c.m.units.length c.cu, .int .i64 c.u.kind, .int .i64 c.u.params, .slice c.al c.u.locals.length c.cl, .int .i64 c.u.result, .int .i64 c.u.takes, .slice c.ac c.u.code.length c.cc, .pointer top, .int .i64 (st.length : Int), bvV f.a, bvV f.b, bvV f.c, bvV f.d, .int .i64 n, row, .map (some c.M)] 98 (0, 0)
/-- A flow in block F. -/
structure FlIn (c : FC) (w : World) (F : Nat) (top : Option Addr) (st : List Int) (f : Vf.Fl) (n : Int) (row : Value) : Prop where
  blk : w.heap[F]? = some (flO c top st f n row)
  sk : SkIn w top st
theorem fl_cells {c : FC} {w : World} {F : Nat} {top : Option Addr} {st : List Int} {f : Vf.Fl} {n : Int} {row : Value} (h : w.heap[F]? = some (flO c top st f n row)) :
    w.cell? ⟨F, 0, none⟩ = some (.slice c.ab c.m.boxes.length c.cb) ∧ w.cell? ⟨F, 1, none⟩ = some (.slice c.au c.m.units.length c.cu) ∧ w.cell? ⟨F, 2, none⟩ = some (.int .i64 c.u.kind) ∧ w.cell? ⟨F, 3, none⟩ = some (.int .i64 c.u.params) ∧ w.cell? ⟨F, 4, none⟩ = some (.slice c.al c.u.locals.length c.cl) ∧ w.cell? ⟨F, 5, none⟩ = some (.int .i64 c.u.result) ∧ w.cell? ⟨F, 6, none⟩ = some (.int .i64 c.u.takes) ∧ w.cell? ⟨F, 7, none⟩ = some (.slice c.ac c.u.code.length c.cc) := by
  simp [World.cell?, h]
theorem fl_cells2 {c : FC} {w : World} {F : Nat} {top : Option Addr} {st : List Int} {f : Vf.Fl} {n : Int} {row : Value} (h : w.heap[F]? = some (flO c top st f n row)) :
    w.cell? ⟨F, 8, none⟩ = some (.pointer top) ∧ w.cell? ⟨F, 9, none⟩ = some (.int .i64 (st.length : Int)) ∧ w.frozen? ⟨F, 8, none⟩ = false ∧ w.frozen? ⟨F, 9, none⟩ = false := by
  simp [World.cell?, World.frozen?, h]
theorem fl_cells3 {c : FC} {w : World} {F : Nat} {top : Option Addr} {st : List Int} {f : Vf.Fl} {n : Int} {row : Value} (h : w.heap[F]? = some (flO c top st f n row)) :
    w.cell? ⟨F, 10, none⟩ = some (bvV f.a) ∧ w.cell? ⟨F, 11, none⟩ = some (bvV f.b) ∧ w.cell? ⟨F, 12, none⟩ = some (bvV f.c) ∧ w.cell? ⟨F, 13, none⟩ = some (bvV f.d) ∧ w.frozen? ⟨F, 10, none⟩ = false ∧ w.frozen? ⟨F, 11, none⟩ = false ∧ w.frozen? ⟨F, 12, none⟩ = false ∧ w.frozen? ⟨F, 13, none⟩ = false := by
  simp [World.cell?, World.frozen?, h]
theorem fl_cells4 {c : FC} {w : World} {F : Nat} {top : Option Addr} {st : List Int} {f : Vf.Fl} {n : Int} {row : Value} (h : w.heap[F]? = some (flO c top st f n row)) :
    w.cell? ⟨F, 14, none⟩ = some (.int .i64 n) ∧ w.cell? ⟨F, 15, none⟩ = some row ∧ w.cell? ⟨F, 16, none⟩ = some (.map (some c.M)) ∧ w.frozen? ⟨F, 14, none⟩ = false ∧ w.frozen? ⟨F, 15, none⟩ = false := by
  simp [World.cell?, World.frozen?, h]

theorem grown_refl (w : World) (F : Nat) : w.grownBy w (some F) := World.grownBy.refl _ _
theorem grown_tr {w w1 w2 : World} {F : Nat} (h : w.grownBy w1 (some F)) (h2 : w1.grownBy w2 (some F)) : w.grownBy w2 (some F) :=
  ⟨h2.os.trans h.os, h2.tape.trans h.tape, h2.output.trans h.output, Nat.le_trans h.size h2.size, fun k hk hne => (h2.block k (by have := h.size; omega) hne).trans (h.block k hk hne)⟩
theorem grown_drew {w w' : World} {F : Option Nat} (h : w.drew.grownBy w' F) : w.grownBy w' F := ⟨h.os, h.tape, h.output, h.size, h.block⟩
theorem grown_alloc {w w' : World} {F : Nat} (h : w.grownBy w' (some F)) (o : Obj) : w.grownBy (w'.alloc o) (some F) :=
  ⟨h.os, h.tape, h.output, by have := h.size; simp; omega, fun k hk hne => (Below.heap_alloc _ _ _ (by have := h.size; omega)).trans (h.block k hk hne)⟩
/-- Cells of stacks stay. -/
theorem SkIn.grown {c : FC} {w w' : World} {F : Nat} {a top : Option Addr} {st st' : List Int} {f : Vf.Fl} {n : Int} {row : Value} (h : SkIn w a st) (hg : w.grownBy w' (some F)) (hF : w.heap[F]? = some (flO c top st' f n row)) : SkIn w' a st :=
  h.keep fun b cs hb => (hg.block b (lt_of_block hb) (fun e => by
    simp at e
    subst e
    rw [hF] at hb
    simp at hb)).trans hb

set_option maxHeartbeats 400000 in
theorem throw_any (num er : Int) (w : World) :
    Calls Tryz.prog 57 #[.int .i64 er, .int .i64 num] w fun e w' => e = .panicked [fltE er num] ∧ w' = w := by
  go_enter Tryz.func57, Tryz.ntmps57
  go_wp2
  exact ⟨rfl, rfl, rfl⟩

/-- What comes of a must. -/
def MustE (b : Bool) (er n : Int) (e : Ending) : Prop := e = if b = true then .returned (.tuple #[]) else .panicked [fltE er n]
set_option maxHeartbeats 400000 in
theorem must_any (F : Nat) (b : Bool) (er n : Int) (w : World) (hc : w.cell? ⟨F, 14, none⟩ = some (.int .i64 n)) :
    Calls Tryz.prog 81 #[.pointer (some ⟨F, 0, none⟩), .bool b, .int .i64 er] w fun e w' => MustE b er n e ∧ w' = w := by
  cases b
  · go_enter Tryz.func81, Tryz.ntmps81
    go_wp2_with fail
    refine (throw_any n er _).mono ?_
    rintro e w1 ⟨rfl, rfl⟩
    go_wp2
    exact ⟨rfl, rfl, rfl⟩
  · go_enter Tryz.func81, Tryz.ntmps81
    go_wp2
    go_end0
    exact ⟨rfl, rfl⟩

end Go.Proofs.YtnfbfdajdflfgaaGreat

/- The walks of push, pop, takeOne, put. -/
namespace Go.Proofs.YtnfbfdajdflfgaaGreat
open Go.RowKit

/-- What comes of what is done with a flow's stack. -/
structure SEnds (c : FC) (F : Nat) (f : Vf.Fl) (n : Int) (row : Value) (r : Except Int (List Int)) (w : World) (e : Ending) (w' : World) : Prop where
  grown : w.grownBy w' (some F)
  no : ∀ er, r = .error er → e = .panicked [fltE er n]
  yes : ∀ st, r = .ok st → e = .returned (.tuple #[]) ∧ ∃ top, FlIn c w' F top st f n row

theorem SEnds.bad {c : FC} {F : Nat} {f : Vf.Fl} {n : Int} {row : Value} {r : Except Int (List Int)} {w w' : World} {er : Int} (hg : w.grownBy w' (some F)) (hr : r = .error er) : SEnds c F f n row r w (.panicked [fltE er n]) w' :=
  ⟨hg, fun er' e => (by rw [hr] at e; cases e; rfl), fun st e => (by rw [hr] at e; cases e)⟩
theorem SEnds.good {c : FC} {F : Nat} {f : Vf.Fl} {n : Int} {row : Value} {r : Except Int (List Int)} {w w' : World} {st : List Int} {top : Option Addr} (hg : w.grownBy w' (some F)) (hr : r = .ok st) (hF : FlIn c w' F top st f n row) : SEnds c F f n row r w (.returned (.tuple #[])) w' :=
  ⟨hg, fun er' e => (by rw [hr] at e; cases e), fun st e => (by rw [hr] at e; cases e; exact ⟨rfl, top, hF⟩)⟩

theorem fl_two {c : FC} {w : World} {F : Nat} {top top' : Option Addr} {st st' : List Int} {f : Vf.Fl} {n : Int} {row : Value} (h : w.heap[F]? = some (flO c top st f n row)) :
    ((w.setCell ⟨F, 8, none⟩ (.pointer top')).setCell ⟨F, 9, none⟩ (.int .i64 (st'.length : Int))).heap[F]? = some (flO c top' st' f n row) := by
  simp only [World.setCell, Array.getElem?_modify, if_true, h, Option.map_some]
  rfl
theorem grown_set {w w' : World} {F : Nat} (h : w.grownBy w' (some F)) (o : Nat) (v : Value) : w.grownBy (w'.setCell ⟨F, o, none⟩ v) (some F) :=
  ⟨h.os, h.tape, h.output, by have := h.size; simp [World.setCell]; omega, fun k hk hne => by
    rw [Below.heap_setCell _ ⟨F, o, none⟩ _ _ (by intro e; exact hne (by rw [e]))]
    exact h.block k hk hne⟩

theorem grown_drew2 {w w' : World} {F : Option Nat} (h : w.grownBy w' F) : w.grownBy w'.drew F := ⟨h.os, h.tape, h.output, h.size, h.block⟩
theorem FlIn.drew {c : FC} {w : World} {F : Nat} {top : Option Addr} {st : List Int} {f : Vf.Fl} {n : Int} {row : Value} (h : FlIn c w F top st f n row) : FlIn c w.drew F top st f n row := ⟨h.blk, h.sk.keep fun _ _ hb => hb⟩
abbrev celO (t : Int) (top : Option Addr) : Obj := .cells #[.int .i64 t, .pointer top] 156 (0, 0)
set_option maxHeartbeats 1000000 in
theorem push_any (c : FC) (F : Nat) (top : Option Addr) (st : List Int) (f : Vf.Fl) (n : Int) (row : Value) (t : Int) (w : World) (h : Hid (FlIn c w F top st f n row)) (hl : st.length < 1000) :
    Calls Tryz.prog 93 #[.pointer (some ⟨F, 8, none⟩), .int .i64 t] w fun e w' => e = .returned (.tuple #[]) ∧ w.grownBy w' (some F) ∧ ∃ top', FlIn c w' F top' (t :: st) f n row := by
  obtain ⟨c8, c9, f8, f9⟩ := fl_cells2 h.out.blk
  have hlt := lt_of_block h.out.blk
  have e1 : IntKind.i64.wrap ((st.length : Int) + 1) = (st.length : Int) + 1 := by simp [IntKind.wrap, IntKind.bits, IntKind.signed]; omega
  go_enter Tryz.func93, Tryz.ntmps93
  go_wp2
  go_region
  all_goals
    go_wp2
    go_end0
    have hb2 := fl_two (st' := t :: st) (top' := some ⟨w.heap.size, 0, none⟩) h.out.blk
    have hz : ((w.setCell ⟨F, 8, none⟩ (.pointer (some ⟨w.heap.size, 0, none⟩))).setCell ⟨F, 9, none⟩ (.int .i64 ((st.length : Int) + 1))).heap.size = w.heap.size := by simp [World.setCell]
    have hg := grown_set (grown_set (grown_refl w F) 8 (.pointer (some ⟨w.heap.size, 0, none⟩))) 9 (.int .i64 ((st.length : Int) + 1))
    refine ⟨rfl, grown_drew2 (grown_alloc hg _), some ⟨w.heap.size, 0, none⟩, FlIn.drew ⟨?_, ?_⟩⟩
    · rw [Below.heap_alloc _ _ _ (by rw [hz]; exact hlt)]
      exact hb2
    · refine ⟨w.heap.size, top, rfl, ?_, h.out.sk.grown (grown_alloc hg _) h.out.blk⟩
      have := heap_alloc_new ((w.setCell ⟨F, 8, none⟩ (.pointer (some ⟨w.heap.size, 0, none⟩))).setCell ⟨F, 9, none⟩ (.int .i64 ((st.length : Int) + 1))) (celO t top)
      rw [hz] at this
      exact this

set_option maxHeartbeats 1000000 in
theorem pop_any (c : FC) (F : Nat) (top : Option Addr) (t : Int) (st : List Int) (f : Vf.Fl) (n : Int) (row : Value) (w : World) (h : Hid (FlIn c w F top (t :: st) f n row)) (hl : st.length < 1000) :
    Calls Tryz.prog 94 #[.pointer (some ⟨F, 8, none⟩)] w fun e w' => e = .returned (.int .i64 t) ∧ w.grownBy w' (some F) ∧ ∃ top', FlIn c w' F top' st f n row := by
  obtain ⟨c8, c9, f8, f9⟩ := fl_cells2 h.out.blk
  have hlt := lt_of_block h.out.blk
  obtain ⟨b, below, rfl, hb, hr⟩ := h.out.sk
  have d0 : w.cell? ⟨b, 0, none⟩ = some (.int .i64 t) := by simp [World.cell?, hb]
  have d1 : w.cell? ⟨b, 1, none⟩ = some (.pointer below) := by simp [World.cell?, hb]
  have HR := hide hr
  clear hb hr
  go_enter Tryz.func94, Tryz.ntmps94
  go_wp2
  go_region
  all_goals
    go_wp2
    go_ret
    have hb2 := fl_two (st' := st) (top' := below) h.out.blk
    have hg := grown_set (grown_set (grown_refl w F) 8 (.pointer below)) 9 (.int .i64 (st.length : Int))
    exact ⟨rfl, grown_drew2 hg, below, FlIn.drew ⟨hb2, HR.out.grown hg h.out.blk⟩⟩

/-- What comes of what takes one from a flow's stack, and answers it. -/
structure VEnds (c : FC) (F : Nat) (f : Vf.Fl) (n : Int) (row : Value) (r : Except Int (Int × List Int)) (w : World) (e : Ending) (w' : World) : Prop where
  grown : w.grownBy w' (some F)
  no : ∀ er, r = .error er → e = .panicked [fltE er n]
  yes : ∀ t st, r = .ok (t, st) → e = .returned (.int .i64 t) ∧ ∃ top, FlIn c w' F top st f n row

theorem VEnds.bad {c : FC} {F : Nat} {f : Vf.Fl} {n : Int} {row : Value} {r : Except Int (Int × List Int)} {w w' : World} {er : Int} (hg : w.grownBy w' (some F)) (hr : r = .error er) : VEnds c F f n row r w (.panicked [fltE er n]) w' :=
  ⟨hg, fun er' e => (by rw [hr] at e; cases e; rfl), fun _ _ e => (by rw [hr] at e; cases e)⟩
theorem VEnds.good {c : FC} {F : Nat} {f : Vf.Fl} {n : Int} {row : Value} {r : Except Int (Int × List Int)} {w w' : World} {t : Int} {st : List Int} {top : Option Addr} (hg : w.grownBy w' (some F)) (hr : r = .ok (t, st)) (hF : FlIn c w' F top st f n row) : VEnds c F f n row r w (.returned (.int .i64 t)) w' :=
  ⟨hg, fun er' e => (by rw [hr] at e; cases e), fun t' st' e => (by rw [hr] at e; cases e; exact ⟨rfl, top, hF⟩)⟩

set_option maxHeartbeats 1000000 in
theorem takeOne_any (c : FC) (F : Nat) (top : Option Addr) (st : List Int) (f : Vf.Fl) (n : Int) (row : Value) (w : World) (h : Hid (FlIn c w F top st f n row)) (hl : st.length < 1000) (r : Except Int (Int × List Int)) (hr : Hid (r = Vf.pop st)) :
    Calls Tryz.prog 84 #[.pointer (some ⟨F, 0, none⟩)] w fun e w' => VEnds c F f n row r w e w' := by
  obtain ⟨c8, c9, f8, f9⟩ := fl_cells2 h.out.blk
  obtain ⟨c14, _⟩ := fl_cells4 h.out.blk
  clear f8 f9
  cases st with
  | nil =>
    have HR : Hid (r = .error 12) := hr.out
    clear hr
    go_enter Tryz.func84, Tryz.ntmps84
    go_wp2_with fail
    refine (must_any F false 12 n _ c14).mono ?_
    rintro e w1 ⟨he, rfl⟩
    obtain rfl : e = .panicked [fltE 12 n] := he
    go_wp2
    exact ⟨rfl, VEnds.bad (grown_refl _ _) HR.out⟩
  | cons t st =>
    have HR : Hid (r = .ok (t, st)) := hr.out
    have hd : decide ((0 : Int) < ((t :: st).length : Int)) = true := by simp
    clear hr
    go_enter Tryz.func84, Tryz.ntmps84
    go_wp2_with fail
    refine (must_any F true 12 n _ c14).mono ?_
    rintro e w1 ⟨he, rfl⟩
    obtain rfl : e = .returned (.tuple #[]) := he
    clear c8 c9 c14
    go_wp2_with fail
    refine (pop_any c F top t st f n row _ h (by simp at hl; omega)).mono ?_
    rintro e w2 ⟨rfl, hg, top', hF⟩
    have HE : Hid (VEnds c F f n row r w1 (.returned (.int .i64 t)) w2) := VEnds.good hg HR.out hF
    clear hg hF
    go_wp2
    go_ret
    exact HE.out

set_option maxHeartbeats 1000000 in
theorem put_any (c : FC) (F : Nat) (top : Option Addr) (st : List Int) (f : Vf.Fl) (n : Int) (row : Value) (t : Int) (w : World) (h : Hid (FlIn c w F top st f n row)) (hl : st.length < 1000) (r : Except Int (List Int)) (hr : Hid (r = Vf.put t st)) :
    Calls Tryz.prog 80 #[.pointer (some ⟨F, 0, none⟩), .int .i64 t] w fun e w' => SEnds c F f n row r w e w' := by
  go_enter Tryz.func80, Tryz.ntmps80
  go_wp2_with fail
  refine (push_any c F top st f n row t _ h hl).mono ?_
  rintro e w1 ⟨rfl, hg, top', hF⟩
  obtain ⟨c8, c9, f8, f9⟩ := fl_cells2 hF.blk
  obtain ⟨c14, _⟩ := fl_cells4 hF.blk
  have HG := hide hg
  have HF := hide hF
  obtain ⟨d, hd0⟩ : ∃ d : Int, d = ((t :: st).length : Int) := ⟨_, rfl⟩
  rw [← hd0] at c9
  have hd1 : d = (st.length : Int) + 1 := by rw [hd0]; simp
  clear hg hF c8 f8 f9 hd0
  by_cases hs : st.length + 1 ≤ 300
  · have hd : decide (d ≤ 300) = true := by simp; omega
    clear hd1
    have HR : Hid (r = .ok (t :: st)) := by rw [hr.out, Vf.put, if_pos hs]; rfl
    go_wp2_with fail
    refine (must_any F true 4 n _ c14).mono ?_
    rintro e w2 ⟨he, rfl⟩
    obtain rfl : e = .returned (.tuple #[]) := he
    clear c9 c14
    go_wp2
    go_end0
    exact SEnds.good HG.out HR.out HF.out
  · have hd : decide (d ≤ 300) = false := by simp; omega
    clear hd1
    have HR : Hid (r = .error 4) := by rw [hr.out, Vf.put, if_neg hs]; rfl
    go_wp2_with fail
    refine (must_any F false 4 n _ c14).mono ?_
    rintro e w2 ⟨he, rfl⟩
    obtain rfl : e = .panicked [fltE 4 n] := he
    clear c9 c14
    go_wp2
    exact ⟨rfl, SEnds.bad HG.out HR.out⟩

end Go.Proofs.YtnfbfdajdflfgaaGreat

