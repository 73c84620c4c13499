/- The walks of caught and of Wrong. -/
import Derived.Test.YtbbklahhnepiaaaDoorCk8
namespace Go.Proofs.YtbbklahhnepiaaaDoor
open Go.RowKit

abbrev Z2 : Obj := .cells #[.int .i64 0, .int .i64 0] 25 (0, 0)

set_option maxRecDepth 100000 in
set_option maxHeartbeats 400000 in
theorem caught_any (g : FuncId) (cap : Array Value) (er num : Int) (X : World → Prop) (w : World) (hz : er = 0 → num = 0) (hcf : ∀ w : World, (callFunc g cap).run Tryd.prog w = .ok (.enter g cap) w)
    (hw : Calls Tryd.prog g cap (w.alloc Z2) fun e w' => X w' ∧ w'.heap[w.heap.size]? = some Z2 ∧ Thrown er num e) :
    Calls Tryd.prog 14 #[.func (.func g) #[] cap] w fun e w' => e = .returned (.agg #[.int .i64 er, .int .i64 num]) ∧ ∃ wx, X wx ∧ wx.heap[w.heap.size]? = some Z2 ∧ w' = (wx.setCell ⟨w.heap.size, 0, none⟩ (.int .i64 er)).setCell ⟨w.heap.size, 1, none⟩ (.int .i64 num) := by
  have hmf : ∀ (fn : Fn) (first cap : Array Value) (w : World), (Instr.makeFunc fn first cap).run Tryd.prog w = .ok (.func fn first cap) w := fun _ _ _ _ => rfl
  go_enter_defers Tryd.func14, Tryd.ntmps14
  go_wp2_with fail
  refine hw.mono ?_
  rintro e w1 ⟨hX, hF, ht⟩
  obtain ⟨c0, c1, f0, f1⟩ := two_cell hF
  have HX : Hid (X w1) := hX
  have HF : Hid (w1.heap[w.heap.size]? = some Z2) := hF
  clear hX hF
  by_cases h0 : er = 0
  · have hn := hz h0
    subst h0
    subst hn
    obtain rfl : e = .returned (.tuple #[]) := ht
    clear hw hz
    go_wp2
    refine leaves_cons (f := 26) (args := #[.pointer (some ⟨w.heap.size, 0, none⟩)]) (by simp) (by simp [go_sem]) ?_
    refine (catch_none w.heap.size _).mono ?_
    rintro e u' w'' ⟨rfl, rfl, rfl⟩
    show Leaves _ _ _ _ [] .returning _
    exact ⟨.agg #[.int .i64 0, .int .i64 0], by simp [results, Tryd.results14, go_sem, c0, c1], rfl, w1, HX.out, HF.out, rfl⟩
  · obtain rfl : e = .panicked [fltE er num] := by unfold Thrown at ht; rw [if_neg h0] at ht; exact ht
    clear ht hw hz h0
    go_wp2
    refine leaves_cons (f := 26) (args := #[.pointer (some ⟨w.heap.size, 0, none⟩)]) (by simp) (by simp [go_sem]) ?_
    refine (catch_thrown w.heap.size er num [] _ HF.out).mono ?_
    rintro e u' w'' ⟨rfl, rfl, rfl⟩
    show Leaves _ _ _ _ [] .returning _
    exact ⟨.agg #[.int .i64 er, .int .i64 num], by simp [results, Tryd.results14, go_sem, c0, c1], rfl, w1, HX.out, HF.out, rfl⟩

theorem wrongL_zero (l : List Sy.Df) : (Sy.wrongL l).1 = 0 → (Sy.wrongL l).2 = 0 := by
  have hd : ∀ (l : List Sy.Df) (i n : Nat), (Sy.defsW l i n).1 = 0 → (Sy.defsW l i n).2 = 0 := by
    intro l
    induction l with
    | nil => intro i n _; rfl
    | cons d l ih =>
      intro i n h
      unfold Sy.defsW at h ⊢
      cases hw : Sy.dfW d n with
      | error e => rw [hw] at h; exact absurd h (dfW_ne hw)
      | ok m => rw [hw] at h; exact ih _ _ h
  unfold Sy.wrongL
  split
  · intro h; simp at h
  · exact hd _ _ _

set_option maxRecDepth 100000 in
set_option maxHeartbeats 400000 in
theorem wrong_any (l : List Sy.Df) (a : Option Addr) (c : Nat) (w : World) (hX : DfsIn w.heap.size w l a) :
    Calls Tryd.prog 6 #[.slice a l.length c] w fun e w' => e = .returned (.agg #[.int .i64 (Sy.wrongL l).1, .int .i64 (Sy.wrongL l).2]) ∧ Below w.heap.size w w' := by
  obtain ⟨er, her⟩ : ∃ er, er = (Sy.wrongL l).1 := ⟨_, rfl⟩
  obtain ⟨num, hnum⟩ : ∃ num, num = (Sy.wrongL l).2 := ⟨_, rfl⟩
  have HZ : Hid (er = 0 → ((num : Nat) : Int) = 0) := by intro h; have := wrongL_zero l (by rw [← her]; exact h); rw [← hnum] at this; omega
  have HR : Hid ((er, num) = Sy.wrongL l) := by rw [her, hnum]; rfl
  rw [← her, ← hnum]
  clear her hnum
  have HX : Hid (DfsIn w.heap.size w l a) := hX
  clear hX
  have hmf : ∀ (fn : Fn) (first cap : Array Value) (w : World), (Instr.makeFunc fn first cap).run Tryd.prog w = .ok (.func fn first cap) w := fun _ _ _ _ => rfl
  go_enter Tryd.func6, Tryd.ntmps6
  go_wp2_with fail
  have HG : Hid (w.grownBy (((w.alloc (.cells #[.slice a l.length c] 22)).alloc Z2).alloc Z2) none) := grown_trans (grown_trans (World.grownBy_alloc _ _ _) (World.grownBy_alloc _ _ _)) (World.grownBy_alloc _ _ _)
  refine (caught_any 15 #[.pointer (some ⟨w.heap.size, 0, none⟩)] er num (fun w' => w.grownBy w' none ∧ w'.heap[w.heap.size + 1]? = some Z2) _ HZ.out ?_ ?_).mono ?_
  · intro w'
    first | rfl | kernel_rfl | simp [go_sem]
  · refine (wrongf_any w.heap.size w.heap.size l a c er num _ ?_ (HX.out.same (same_grown HG.out (by simp) (Nat.le_refl _))) (by simp; omega) HR).mono ?_
    · rw [Below.heap_alloc _ _ _ (by simp; omega), Below.heap_alloc _ _ _ (by simp)]
      exact heap_alloc_new w _
    · rintro e w' ⟨hg, ht⟩
      refine ⟨⟨grown_trans HG.out hg, ?_⟩, ?_, ht⟩
      · refine (hg.block _ (by simp) (by simp)).trans ?_
        rw [Below.heap_alloc _ _ _ (by simp)]
        have := heap_alloc_new (w.alloc (.cells #[.slice a l.length c] 22)) Z2
        simpa using this
      · exact (hg.block _ (by simp) (by simp)).trans (heap_alloc_new _ _)
  rintro e w1 ⟨rfl, wx, ⟨hg, h2⟩, hF, rfl⟩
  obtain ⟨c0, c1, f0, f1⟩ := two_cell h2
  have HB : Hid (Below w.heap.size w wx) := ⟨hg.os, hg.tape, hg.output, hg.size, fun k hk => hg.block k hk (by simp)⟩
  clear hg h2 hF
  go_wp2
  refine bodyPost_ret (v := .agg #[.int .i64 er, .int .i64 num]) (by simp [results, Tryd.results6, go_sem, c0, c1]) rfl ⟨rfl, ?_⟩
  exact (((HB.out.setCell (p := ⟨w.heap.size + 1 + 1, 0, none⟩) (by simp; omega) _).setCell (p := ⟨w.heap.size + 1 + 1, 1, none⟩) (by simp; omega) _).setCell (p := ⟨w.heap.size + 1, 0, none⟩) (by simp) _).setCell (p := ⟨w.heap.size + 1, 1, none⟩) (by simp) _

end Go.Proofs.YtbbklahhnepiaaaDoor
