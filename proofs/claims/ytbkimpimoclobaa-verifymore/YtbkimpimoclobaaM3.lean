/- A flow in memory; the walks of throw.Fault, must, push, pop. -/
import Derived.Test.YtbkimpimoclobaaM2
namespace Go.Proofs.Ytbkimpimoclobaa
open Go.RowKit

/-- A stack in memory: its types, the top one first. -/
def SkIn (w : World) : Option Addr → List Int → Prop
  | a, [] => a = none
  | a, t :: r => ∃ b below, a = some ⟨b, 0, none⟩ ∧ w.heap[b]? = some (.cells #[.int .i64 t, .pointer below] 109 (0, 0)) ∧ SkIn w below r
theorem SkIn.keep {w w' : World} : ∀ {st : List Int} {a : Option Addr}, SkIn w a st → (∀ (b : Nat) (cs : Array Value), w.heap[b]? = some (Obj.cells cs 109 (0, 0)) → w'.heap[b]? = some (Obj.cells cs 109 (0, 0))) → SkIn w' a st
  | [], _, h, _ => h
  | _ :: _, _, ⟨b, below, e, hb, hr⟩, hk => ⟨b, below, e, hk _ _ hb, hr.keep hk⟩

/-- What a flow is over, as it lies in memory. -/
structure FC where
  m : Vf.Md
  u : Vf.Un
  ab : Option Addr
  au : Option Addr
  al : Option Addr
  ac : Option Addr
  cb : Nat
  cu : Nat
  cl : Nat
  cc : Nat
  M : Nat
abbrev bvV (x : BitVec 64) : Value := .int .u64 (x.toNat : Int)
abbrev flO (c : FC) (top : Option Addr) (st : List Int) (f : Vf.Fl) (n : Int) (row : Value) : Obj :=
  .cells #[.slice c.ab c.m.boxes.length c.cb, .slice c.au c.m.units.length c.cu, .int .i64 c.u.kind, .int .i64 c.u.params, .slice c.al c.u.locals.length c.cl, .int .i64 c.u.result, .int .i64 c.u.takes, .slice c.ac c.u.code.length c.cc, .pointer top, .int .i64 (st.length : Int), bvV f.a, bvV f.b, bvV f.c, bvV f.d, .int .i64 n, row, .map (some c.M)] 65 (0, 0)
/-- A flow in block F. -/
structure FlIn (c : FC) (w : World) (F : Nat) (top : Option Addr) (st : List Int) (f : Vf.Fl) (n : Int) (row : Value) : Prop where
  blk : w.heap[F]? = some (flO c top st f n row)
  sk : SkIn w top st
theorem fl_cells {c : FC} {w : World} {F : Nat} {top : Option Addr} {st : List Int} {f : Vf.Fl} {n : Int} {row : Value} (h : w.heap[F]? = some (flO c top st f n row)) :
    w.cell? ⟨F, 0, none⟩ = some (.slice c.ab c.m.boxes.length c.cb) ∧ w.cell? ⟨F, 1, none⟩ = some (.slice c.au c.m.units.length c.cu) ∧ w.cell? ⟨F, 2, none⟩ = some (.int .i64 c.u.kind) ∧ w.cell? ⟨F, 3, none⟩ = some (.int .i64 c.u.params) ∧ w.cell? ⟨F, 4, none⟩ = some (.slice c.al c.u.locals.length c.cl) ∧ w.cell? ⟨F, 5, none⟩ = some (.int .i64 c.u.result) ∧ w.cell? ⟨F, 6, none⟩ = some (.int .i64 c.u.takes) ∧ w.cell? ⟨F, 7, none⟩ = some (.slice c.ac c.u.code.length c.cc) := by
  simp [World.cell?, h]
theorem fl_cells2 {c : FC} {w : World} {F : Nat} {top : Option Addr} {st : List Int} {f : Vf.Fl} {n : Int} {row : Value} (h : w.heap[F]? = some (flO c top st f n row)) :
    w.cell? ⟨F, 8, none⟩ = some (.pointer top) ∧ w.cell? ⟨F, 9, none⟩ = some (.int .i64 (st.length : Int)) ∧ w.frozen? ⟨F, 8, none⟩ = false ∧ w.frozen? ⟨F, 9, none⟩ = false := by
  simp [World.cell?, World.frozen?, h]
theorem fl_cells3 {c : FC} {w : World} {F : Nat} {top : Option Addr} {st : List Int} {f : Vf.Fl} {n : Int} {row : Value} (h : w.heap[F]? = some (flO c top st f n row)) :
    w.cell? ⟨F, 10, none⟩ = some (bvV f.a) ∧ w.cell? ⟨F, 11, none⟩ = some (bvV f.b) ∧ w.cell? ⟨F, 12, none⟩ = some (bvV f.c) ∧ w.cell? ⟨F, 13, none⟩ = some (bvV f.d) ∧ w.frozen? ⟨F, 10, none⟩ = false ∧ w.frozen? ⟨F, 11, none⟩ = false ∧ w.frozen? ⟨F, 12, none⟩ = false ∧ w.frozen? ⟨F, 13, none⟩ = false := by
  simp [World.cell?, World.frozen?, h]
theorem fl_cells4 {c : FC} {w : World} {F : Nat} {top : Option Addr} {st : List Int} {f : Vf.Fl} {n : Int} {row : Value} (h : w.heap[F]? = some (flO c top st f n row)) :
    w.cell? ⟨F, 14, none⟩ = some (.int .i64 n) ∧ w.cell? ⟨F, 15, none⟩ = some row ∧ w.cell? ⟨F, 16, none⟩ = some (.map (some c.M)) ∧ w.frozen? ⟨F, 14, none⟩ = false ∧ w.frozen? ⟨F, 15, none⟩ = false := by
  simp [World.cell?, World.frozen?, h]

theorem grown_refl (w : World) (F : Nat) : w.grownBy w (some F) := World.grownBy.refl _ _
theorem grown_tr {w w1 w2 : World} {F : Nat} (h : w.grownBy w1 (some F)) (h2 : w1.grownBy w2 (some F)) : w.grownBy w2 (some F) :=
  ⟨h2.os.trans h.os, h2.tape.trans h.tape, h2.output.trans h.output, Nat.le_trans h.size h2.size, fun k hk hne => (h2.block k (by have := h.size; omega) hne).trans (h.block k hk hne)⟩
theorem grown_drew {w w' : World} {F : Option Nat} (h : w.drew.grownBy w' F) : w.grownBy w' F := ⟨h.os, h.tape, h.output, h.size, h.block⟩
theorem grown_alloc {w w' : World} {F : Nat} (h : w.grownBy w' (some F)) (o : Obj) : w.grownBy (w'.alloc o) (some F) :=
  ⟨h.os, h.tape, h.output, by have := h.size; simp; omega, fun k hk hne => (Below.heap_alloc _ _ _ (by have := h.size; omega)).trans (h.block k hk hne)⟩
/-- Cells of stacks stay. -/
theorem SkIn.grown {c : FC} {w w' : World} {F : Nat} {a top : Option Addr} {st st' : List Int} {f : Vf.Fl} {n : Int} {row : Value} (h : SkIn w a st) (hg : w.grownBy w' (some F)) (hF : w.heap[F]? = some (flO c top st' f n row)) : SkIn w' a st :=
  h.keep fun b cs hb => (hg.block b (lt_of_block hb) (fun e => by
    simp at e
    subst e
    rw [hF] at hb
    simp at hb)).trans hb

set_option maxHeartbeats 400000 in
theorem throw_any (num er : Int) (w : World) :
    Calls Try.prog 39 #[.int .i64 er, .int .i64 num] w fun e w' => e = .panicked [fltE er num] ∧ w' = w := by
  go_enter Try.func39, Try.ntmps39
  go_wp2
  exact ⟨rfl, rfl, rfl⟩

/-- What comes of a must. -/
def MustE (b : Bool) (er n : Int) (e : Ending) : Prop := e = if b = true then .returned (.tuple #[]) else .panicked [fltE er n]
set_option maxHeartbeats 400000 in
theorem must_any (F : Nat) (b : Bool) (er n : Int) (w : World) (hc : w.cell? ⟨F, 14, none⟩ = some (.int .i64 n)) :
    Calls Try.prog 52 #[.pointer (some ⟨F, 0, none⟩), .bool b, .int .i64 er] w fun e w' => MustE b er n e ∧ w' = w := by
  cases b
  · go_enter Try.func52, Try.ntmps52
    go_wp2_with fail
    refine (throw_any n er _).mono ?_
    rintro e w1 ⟨rfl, rfl⟩
    go_wp2
    exact ⟨rfl, rfl, rfl⟩
  · go_enter Try.func52, Try.ntmps52
    go_wp2
    go_end0
    exact ⟨rfl, rfl⟩

end Go.Proofs.Ytbkimpimoclobaa

