/- The walk of throw.Caught, for any work. -/
import Derived.Test.YtnfkfgpnojdfoaaIm1
namespace Go.Proofs.Ytnfkfgpnojdfoaa
open Go.RowKit

/-- What comes of a work that may throw a fault. -/
def Thrown (er num : Int) (e : Ending) : Prop := e = if er = 0 then .returned (.tuple #[]) else .panicked [fltE er num]
theorem two_cell {w : World} {b : Nat} {v0 v1 : Value} {t : TypeId} (h : w.heap[b]? = some (.cells #[v0, v1] t (0, 0))) :
    w.cell? ⟨b, 0, none⟩ = some v0 ∧ w.cell? ⟨b, 1, none⟩ = some v1 ∧ w.frozen? ⟨b, 0, none⟩ = false ∧ w.frozen? ⟨b, 1, none⟩ = false := by simp [World.cell?, World.frozen?, h]

theorem assert_fault (v : Value) (w : World) : (Instr.typeAssert (.iface 42 v) 20 42 false).run Try.prog w = .ok v w := by kernel_rfl

set_option maxRecDepth 100000 in
set_option maxHeartbeats 400000 in
theorem catch_thrown (F : Nat) (er num : Int) (older : List PanicEntry) (w : World) (hF : w.heap[F]? = some (.cells #[.int .i64 0, .int .i64 0] 42 (0, 0))) :
    CallsD Try.prog 26 #[.pointer (some ⟨F, 0, none⟩)] (.panicking (fltE er num :: older)) w fun e u' w' =>
      e = .returned (.tuple #[]) ∧ u' = .panicking ({ v := .iface 42 (.agg #[.int .i64 er, .int .i64 num]), recovered := true } :: older) ∧ w' = (w.setCell ⟨F, 0, none⟩ (.int .i64 er)).setCell ⟨F, 1, none⟩ (.int .i64 num) := by
  obtain ⟨c0, c1, f0, f1⟩ := two_cell hF
  refine callsD_of_wpS Try.func26 rfl fun c₀ cs hu => ?_
  apply wpS_seq
  apply wpS_region
  simp [wpOpsS, go_sem, recoverD, hu, Try.ntmps26, Exit.thenS]
  apply wpS_seq
  apply wpS_region
  simp [wpOpsS, go_sem, Exit.thenS]
  refine wpS_cond (t := true) (by simp [Act.eval, Array.replicate]) ?_
  simp only [if_true]
  apply wpS_region
  simp [wpOpsS, go_sem, assert_fault, c0, c1, f0, f1, bodyPostS, results, Try.results26]

set_option maxHeartbeats 400000 in
theorem catch_none (F : Nat) (w : World) :
    CallsD Try.prog 26 #[.pointer (some ⟨F, 0, none⟩)] .returning w fun e u' w' => e = .returned (.tuple #[]) ∧ u' = .returning ∧ w' = w := by
  refine callsD_of_wpS Try.func26 rfl fun c₀ cs hu => ?_
  apply wpS_seq
  apply wpS_region
  simp [wpOpsS, go_sem, recoverD, hu, Try.ntmps26, Exit.thenS]
  apply wpS_seq
  apply wpS_region
  simp [wpOpsS, go_sem, Exit.thenS]
  refine wpS_cond (t := false) (by simp [Act.eval, Array.replicate]) ?_
  simp only [Bool.false_eq_true, if_false]
  refine wpS_of_wp (wp_skip ?_)
  cases c₀
  simp_all [bodyPostS, results, Try.results26]

abbrev Z2C : Obj := .cells #[.int .i64 0, .int .i64 0] 42 (0, 0)

set_option maxRecDepth 100000 in
set_option maxHeartbeats 400000 in
theorem caught_any (g : FuncId) (cap : Array Value) (er num : Int) (X : World → Prop) (w : World) (hz : er = 0 → num = 0) (hcf : ∀ w : World, (callFunc g cap).run Try.prog w = .ok (.enter g cap) w)
    (hw : Calls Try.prog g cap (w.alloc Z2C) fun e w' => X w' ∧ w'.heap[w.heap.size]? = some Z2C ∧ Thrown er num e) :
    Calls Try.prog 15 #[.func (.func g) #[] cap] w fun e w' => e = .returned (.agg #[.int .i64 er, .int .i64 num]) ∧ ∃ wx, X wx ∧ wx.heap[w.heap.size]? = some Z2C ∧ w' = (wx.setCell ⟨w.heap.size, 0, none⟩ (.int .i64 er)).setCell ⟨w.heap.size, 1, none⟩ (.int .i64 num) := by
  have hmf : ∀ (fn : Fn) (first cap : Array Value) (w : World), (Instr.makeFunc fn first cap).run Try.prog w = .ok (.func fn first cap) w := fun _ _ _ _ => rfl
  go_enter_defers Try.func15, Try.ntmps15
  go_wp2_with fail
  refine hw.mono ?_
  rintro e w1 ⟨hX, hF, ht⟩
  obtain ⟨c0, c1, f0, f1⟩ := two_cell hF
  have HX : Hid (X w1) := hX
  have HF : Hid (w1.heap[w.heap.size]? = some Z2C) := hF
  clear hX hF
  by_cases h0 : er = 0
  · have hn := hz h0
    subst h0
    subst hn
    obtain rfl : e = .returned (.tuple #[]) := ht
    clear hw hz
    go_wp2
    refine leaves_cons (f := 26) (args := #[.pointer (some ⟨w.heap.size, 0, none⟩)]) (by simp) (by simp [go_sem]) ?_
    refine (catch_none w.heap.size _).mono ?_
    rintro e u' w'' ⟨rfl, rfl, rfl⟩
    show Leaves _ _ _ _ [] .returning _
    exact ⟨.agg #[.int .i64 0, .int .i64 0], by simp [results, Try.results15, go_sem, c0, c1], rfl, w1, HX.out, HF.out, rfl⟩
  · obtain rfl : e = .panicked [fltE er num] := by unfold Thrown at ht; rw [if_neg h0] at ht; exact ht
    clear ht hw hz h0
    go_wp2
    refine leaves_cons (f := 26) (args := #[.pointer (some ⟨w.heap.size, 0, none⟩)]) (by simp) (by simp [go_sem]) ?_
    refine (catch_thrown w.heap.size er num [] _ HF.out).mono ?_
    rintro e u' w'' ⟨rfl, rfl, rfl⟩
    show Leaves _ _ _ _ [] .returning _
    exact ⟨.agg #[.int .i64 er, .int .i64 num], by simp [results, Try.results15, go_sem, c0, c1], rfl, w1, HX.out, HF.out, rfl⟩

end Go.Proofs.Ytnfkfgpnojdfoaa
