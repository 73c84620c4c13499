/- The walks of push, pop, takeOne, put. -/
import Derived.Test.YtekjhefmhhcboaaGreatM1
namespace Go.Proofs.YtekjhefmhhcboaaGreat
open Go.RowKit
structure SEnds (c : FC) (F : Nat) (f : Vf.Fl) (n : Int) (row : Value) (r : Except Int (List Int)) (w : World) (e : Ending) (w' : World) : Prop where
 grown : w.grownBy w' (some F)
 no : ∀ er, r = .error er → e = .panicked [fltE er n]
 yes : ∀ st, r = .ok st → e = .returned (.tuple #[]) ∧ ∃ top, FlIn c w' F top st f n row
theorem SEnds.good {c : FC} {F : Nat} {f : Vf.Fl} {n : Int} {row : Value} {r : Except Int (List Int)} {w w' : World} {st : List Int} {top : Option Addr} (hg : w.grownBy w' (some F)) (hr : r = .ok st) (hF : FlIn c w' F top st f n row) : SEnds c F f n row r w (.returned (.tuple #[])) w' :=
 ⟨hg, fun er' e => (by rw [hr] at e; cases e), fun st e => (by rw [hr] at e; cases e; exact ⟨rfl, top, hF⟩)⟩
theorem grown_drew2 {w w' : World} {F : Option Nat} (h : w.grownBy w' F) : w.grownBy w'.drew F := ⟨h.os, h.tape, h.output, h.size, h.block⟩
theorem FlIn.drew {c : FC} {w : World} {F : Nat} {top : Option Addr} {st : List Int} {f : Vf.Fl} {n : Int} {row : Value} (h : FlIn c w F top st f n row) : FlIn c w.drew F top st f n row := ⟨h.blk, h.sk.keep fun _ _ hb => hb⟩
structure VEnds (c : FC) (F : Nat) (f : Vf.Fl) (n : Int) (row : Value) (r : Except Int (Int × List Int)) (w : World) (e : Ending) (w' : World) : Prop where
 grown : w.grownBy w' (some F)
 no : ∀ er, r = .error er → e = .panicked [fltE er n]
 yes : ∀ t st, r = .ok (t, st) → e = .returned (.int .i64 t) ∧ ∃ top, FlIn c w' F top st f n row
theorem VEnds.good {c : FC} {F : Nat} {f : Vf.Fl} {n : Int} {row : Value} {r : Except Int (Int × List Int)} {w w' : World} {t : Int} {st : List Int} {top : Option Addr} (hg : w.grownBy w' (some F)) (hr : r = .ok (t, st)) (hF : FlIn c w' F top st f n row) : VEnds c F f n row r w (.returned (.int .i64 t)) w' :=
 ⟨hg, fun er' e => (by rw [hr] at e; cases e), fun t' st' e => (by rw [hr] at e; cases e; exact ⟨rfl, top, hF⟩)⟩
theorem IntsIn.cell {B : Nat} {w : World} {l : List Int} {a : Option Addr} (h : IntsIn B w l a) {i : Nat} {x : Int} (hx : l[i]? = some x) : ∃ b off, a = some ⟨b, off, none⟩ ∧ b < B ∧ w.cell? ⟨b, off + i, none⟩ = some (.int .i64 x) := (h i x hx).2
structure Env (c : FC) (B F : Nat) (w : World) : Prop where
 md : ModIn B w c.m c.ab c.au
 un : UnIn B w c.u c.al c.ac c.cl c.cc
 base : B ≤ F
 lt : F < w.heap.size
theorem Env.grown {c : FC} {B F : Nat} {w w' : World} (h : Env c B F w) (hg : w.grownBy w' (some F)) : Env c B F w' :=
 ⟨h.md.low (grown_low hg h.base h.lt), h.un.low (grown_low hg h.base h.lt), h.base, by have := hg.size; have := h.lt; omega⟩
theorem Env.drew {c : FC} {B F : Nat} {w : World} (h : Env c B F w) : Env c B F w.drew := h.grown (grown_drew2 (grown_refl w F))
theorem FlIn.alloc {c : FC} {w : World} {F : Nat} {top : Option Addr} {st : List Int} {f : Vf.Fl} {n : Int} {row : Value} (h : FlIn c w F top st f n row) (o : Obj) : FlIn c (w.alloc o) F top st f n row :=
 ⟨(Below.heap_alloc _ _ _ (lt_of_block h.blk)).trans h.blk, h.sk.keep fun _ _ hb => (Below.heap_alloc _ _ _ (lt_of_block hb)).trans hb⟩
theorem kept {w w' : World} {F b : Nat} (hg : w.grownBy w' (some F)) (hb : b < w.heap.size) (hne : b ≠ F) : w'.heap[b]? = w.heap[b]? := hg.block b hb (by simp; omega)
def Other (w : World) (N F : Nat) : Prop := N ≠ F ∧ ∃ cs t fr, w.heap[N]? = some (Obj.cells cs t fr) ∧ t ≠ 179
theorem Other.set {w : World} {N F : Nat} (h : Other w N F) (o : Nat) (v : Value) : Other (w.setCell ⟨N, o, none⟩ v) N F := by
 obtain ⟨h1, cs, t, fr, h2, h3⟩ := h
 refine ⟨h1, cs.setIfInBounds o v, t, fr, ?_, h3⟩
 simp only [World.setCell, Array.getElem?_modify, if_true, h2, Option.map_some]
 rfl
theorem FlIn.set {c : FC} {w : World} {F N : Nat} {top : Option Addr} {st : List Int} {f : Vf.Fl} {n : Int} {row : Value} (h : FlIn c w F top st f n row) (ho : Other w N F) (o : Nat) (v : Value) : FlIn c (w.setCell ⟨N, o, none⟩ v) F top st f n row := by
 obtain ⟨h1, cs, t, fr, h2, h3⟩ := ho
 refine ⟨(Below.heap_setCell _ ⟨N, o, none⟩ _ _ (by show F ≠ N; omega)).trans h.blk, h.sk.keep fun b cs' hb => (Below.heap_setCell _ ⟨N, o, none⟩ _ _ (fun e => ?_)).trans hb⟩
 have e1 : b = N := e
 subst e1
 rw [h2] at hb
 simp at hb
 exact h3 hb.2.1
def Gens (m : Vf.Md) (st : List Int) : Prop := ∀ t ∈ st, Vf.plain t = true ∨ (10 ≤ t ∧ Vf.is m 3 (t - 10) = true)
theorem is_some {m : Vf.Md} {k n : Int} (h : Vf.is m k n = true) : ∃ u, m.units[n.toNat]? = some u ∧ u.kind = k ∧ 0 ≤ n := by
 unfold Vf.is at h
 simp only [Bool.and_eq_true, decide_eq_true_eq] at h
 obtain ⟨h1, h2⟩ := h
 cases hu : m.units[n.toNat]? with
 | none => rw [hu] at h2; simp at h2
 | some u => rw [hu] at h2; exact ⟨u, rfl, by simpa using h2, h1⟩
theorem Gens.get {m : Vf.Md} {st : List Int} (h : Gens m st) {t : Int} (ht : t ∈ st) (h10 : 10 ≤ t) : ∃ u, m.units[(t - 10).toNat]? = some u ∧ u.kind = 3 := by
 rcases h t ht with h1 | ⟨_, h1⟩
 ·unfold Vf.plain at h1; simp at h1; omega
 ·obtain ⟨u, h2, h3, _⟩ := is_some h1; exact ⟨u, h2, h3⟩
end Go.Proofs.YtekjhefmhhcboaaGreat
