/- The walk of image.Parse where it refuses ahead of any reading. -/
import Derived.Test.YtnfkfgpnojdfoaaIm7
namespace Go.Proofs.Ytnfkfgpnojdfoaa
open Go.RowKit

abbrev Zm : Obj := .cells #[.slice none 0 0, .slice none 0 0] 25 (0, 0)
abbrev noM : Value := .agg #[.slice none 0 0, .slice none 0 0]


set_option maxHeartbeats 400000 in
theorem parse_much (l : List Nat) (a : Option Addr) (c : Nat) (w : World) (h : 60000 < l.length) :
    Calls Try.prog 11 #[.slice a l.length c] w fun e w' => e = .returned (.tuple #[noM, .int .i64 4]) ∧ Below w.heap.size w w' := by
  have e1 : (60000 : Int) < (l.length : Int) := by omega
  go_enter Try.func11, Try.ntmps11
  go_wp2
  refine bodyPost_ret (v := .tuple #[noM, .int .i64 4]) (by simp [results, Try.results11, go_sem]) rfl ?_
  exact ⟨rfl, ((Below.refl _ w).alloc (Nat.le_refl _) _)⟩

set_option maxHeartbeats 400000 in
theorem parse_short (l : List Nat) (a : Option Addr) (c : Nat) (w : World) (h : l.length < 2) :
    Calls Try.prog 11 #[.slice a l.length c] w fun e w' => e = .returned (.tuple #[noM, .int .i64 2]) ∧ Below w.heap.size w w' := by
  have e1 : ¬ (60000 : Int) < (l.length : Int) := by omega
  have e2 : (l.length : Int) < 2 := by omega
  go_enter Try.func11, Try.ntmps11
  go_wp2
  refine bodyPost_ret (v := .tuple #[noM, .int .i64 2]) (by simp [results, Try.results11, go_sem]) rfl ?_
  exact ⟨rfl, ((Below.refl _ w).alloc (Nat.le_refl _) _)⟩

theorem BIn.far {w w' : World} {l : List Nat} {a : Option Addr} (h : BIn w l a) (hk : ∀ b off, a = some ⟨b, off, none⟩ → w'.heap[b]? = w.heap[b]?) : BIn w' l a := fun i c hc => by
  obtain ⟨h1, b, off, e, hb⟩ := h i c hc
  refine ⟨h1, b, off, e, ?_⟩
  rw [← hb]
  simp [World.cell?, hk b off e]
theorem BIn.lt {w : World} {l : List Nat} {a : Option Addr} (h : BIn w l a) (hl : 0 < l.length) : ∃ b off, a = some ⟨b, off, none⟩ ∧ b < w.heap.size := by
  obtain ⟨_, b, off, e, hb⟩ := h 0 _ (List.getElem?_eq_getElem hl)
  refine ⟨b, off, e, ?_⟩
  cases hh : w.heap[b]? with
  | none => simp [World.cell?, hh] at hb
  | some o => exact lt_of_block hh
theorem BIn.alloc {w : World} {l : List Nat} {a : Option Addr} (h : BIn w l a) (o : Obj) : BIn (w.alloc o) l a := by
  intro i c hc
  have hl : 0 < l.length := by have := (List.getElem?_eq_some_iff.1 hc).1; omega
  obtain ⟨b, off, e, hb⟩ := h.lt hl
  exact h.far (fun b' off' e' => by rw [e] at e'; simp at e'; rw [← e'.1]; exact Below.heap_alloc _ _ _ hb) i c hc
theorem BIn.drewN {w : World} {l : List Nat} {a : Option Addr} (h : BIn w l a) (n : Nat) : BIn (w.drewN n) l a := h
theorem BIn.pre {w : World} {p q : List Nat} {a : Option Addr} (h : BIn w (p ++ q) a) : BIn w p a := fun i c hc => h i c (by rw [List.getElem?_append_left (List.getElem?_eq_some_iff.1 hc).1]; exact hc)

set_option maxRecDepth 100000 in
set_option maxHeartbeats 1000000 in
theorem parse_fit (p : List Nat) (x y : Nat) (a : Option Addr) (c : Nat) (w : World) (hin : Hid (BIn w (p ++ [x, y]) a)) (hl : p.length + 2 ≤ 60000) (hc : p.length + 2 ≤ c) (s : Nat) (hs : Hid (s = Im.sum p)) (hne : s ≠ x * 256 + y) :
    Calls Try.prog 11 #[.slice a (p.length + 2) c] w fun e w' => e = .returned (.tuple #[noM, .int .i64 8]) ∧ Below w.heap.size w w' := by
  obtain ⟨hx, b, off, rfl, cx⟩ := hin.out p.length x (by simp)
  obtain ⟨hy, b', off', e, cy⟩ := hin.out (p.length + 1) y (by simp)
  simp at e
  obtain ⟨rfl, rfl⟩ := e
  have hbl : b < w.heap.size := by
    obtain ⟨b1, o1, e, h⟩ := hin.out.lt (by simp)
    simp at e
    rw [e.1]; exact h
  have HIN : Hid (BIn (w.alloc Zm) p (some ⟨b, off, none⟩)) := (hin.out.alloc _).pre
  have e1 : ¬ (60000 : Int) < (p.length : Int) + 2 := by omega
  have e2 : ¬ (p.length : Int) + 2 < 2 := by omega
  have hs16 : s < 65536 := by rw [hs.out]; exact Im.sum_lt p
  have d1 : IntKind.u16.wrap (x : Int) = (x : Int) := by rw [wrap_u16]; omega
  have d2 : IntKind.u16.wrap (y : Int) = (y : Int) := by rw [wrap_u16]; omega
  have d3 : IntKind.u16.wrap ((x : Int) * 256) = ((x * 256 : Nat) : Int) := by rw [wrap_u16]; omega
  have d4 : bits .or .u16 ((x * 256 : Nat) : Int) (y : Int) = ((x * 256 + y : Nat) : Int) := by
    rw [u16_or_nat _ _ (by omega) (by omega)]
    have := Nat.two_pow_add_eq_or_of_lt (i := 8) (b := y) (by omega) x
    rw [show 2 ^ 8 * x = x * 256 by omega] at this
    rw [← this]
  obtain ⟨q, hq⟩ : ∃ q, q = x * 256 + y := ⟨_, rfl⟩
  obtain ⟨x2, hx2⟩ : ∃ q, q = x * 256 := ⟨_, rfl⟩
  rw [← hq] at d4 hne
  rw [← hx2] at d3 d4
  rw [← Nat.add_assoc] at cy
  have e5 : ((s : Int) != (q : Int)) = true := by simp; omega
  clear hin hq hx2
  go_enter Try.func11, Try.ntmps11
  go_wp2
  go_quiet (fail)
  go_wp2
  go_region_held3 (fun w' => w'.cell? ⟨b, off + p.length, none⟩ = some (.int .u8 x) ∧ w'.cell? ⟨b, off + p.length + 1, none⟩ = some (.int .u8 y)) (go_keep) ((go_at_call 9; refine (sum_any p (some ⟨b, off, none⟩) c (by omega) _ (hide (HIN.out.drewN _)) s hs).mono ?_; rintro e w' ⟨rfl, rfl⟩))
  go_wp2
  refine bodyPost_ret (v := .tuple #[noM, .int .i64 8]) (by simp [results, Try.results11, go_sem]) rfl ?_
  exact ⟨rfl, ((below_drewN' ((Below.refl _ w).alloc (Nat.le_refl _) _) _).setCell (p := ⟨w.heap.size, 0, none⟩) (Nat.le_refl _) _).setCell (p := ⟨w.heap.size, 1, none⟩) (Nat.le_refl _) _⟩

end Go.Proofs.Ytnfkfgpnojdfoaa
