/- The walks of opt's small functions. -/
import Derived.Test.YtlbihbfgglnfnaaM6
namespace Go.Proofs.Ytlbihbfgglnfnaa.Ow
open Go.RowKit Vf Vm Ot

abbrev inV (c : Ins) : Value := .agg #[.int .i64 c.op, .int .i64 c.a, .int .i64 c.n]
abbrev inO (c : Ins) : Obj := .cells #[.int .i64 c.op, .int .i64 c.a, .int .i64 c.n] 41 (0, 0)
/-- What is put there, in a block of its own. -/
def PutIs (w0 w : World) (v : Value) (l : List Ins) : Prop := (l = [] ∧ v = .slice none 0 0) ∨ ∃ c q, l = [c] ∧ v = .slice (some ⟨q, 0, none⟩) 1 1 ∧ w0.heap.size ≤ q ∧ w.heap[q]? = some (inO c)
theorem one_below (w : World) (o : Obj) : Below w.heap.size w (w.alloc o) := (Below.refl _ _).alloc (Nat.le_refl _) _
theorem two_belowO (w : World) (o p : Obj) : Below w.heap.size w ((w.alloc o).alloc p) := (one_below w o).alloc (by simp) _
theorem three_belowO (w : World) (o p q : Obj) : Below w.heap.size w (((w.alloc o).alloc p).alloc q) := (two_belowO w o p).alloc (by simp; omega) _
theorem size2 (w : World) (o p : Obj) : ((w.alloc o).alloc p).heap.size = w.heap.size + 1 + 1 := by simp
theorem new2 (w : World) (o p q : Obj) : (((w.alloc o).alloc p).alloc q).heap[w.heap.size + 1 + 1]? = some q := by
  rw [← size2 w o p]
  exact heap_alloc_new _ _
theorem PutIs.none (w0 w : World) : PutIs w0 w (.slice none 0 0) [] := .inl ⟨rfl, rfl⟩
theorem PutIs.one {w0 w : World} {c : Ins} {q : Nat} (hq : w0.heap.size ≤ q) (h : w.heap[q]? = some (inO c)) : PutIs w0 w (.slice (some ⟨q, 0, .none⟩) 1 1) [c] := .inr ⟨c, q, rfl, rfl, hq, h⟩
theorem PutIs.keep {w0 w1 w w' : World} {v : Value} {l : List Ins} (h : PutIs w1 w v l) (hs : w0.heap.size ≤ w1.heap.size) (hb : Below w.heap.size w w') : PutIs w0 w' v l := by
  rcases h with h | ⟨c, q, h1, h2, h3, h4⟩
  · exact .inl h
  · exact .inr ⟨c, q, h1, h2, Nat.le_trans hs h3, (hb.block q (lt_of_block h4)).trans h4⟩
theorem below_onO {w w1 w2 : World} (h : Below w.heap.size w w1) (h2 : Below w1.heap.size w1 w2) : Below w.heap.size w w2 := h.trans (h2.mono h.size)

set_option maxHeartbeats 400000 in
theorem number_any (n : Int) (w : World) :
    Calls Try.prog 53 #[.int .i64 n] w fun e w' => e = .returned (.slice (some ⟨w.heap.size, 0, none⟩) 1 1) ∧ w' = w.alloc (inO ⟨1, 0, n⟩) := by
  go_enter Try.func53, Try.ntmps53
  go_wp2
  go_ret
  exact ⟨rfl, rfl⟩
set_option maxHeartbeats 400000 in
theorem truth_put (n : Int) (w : World) :
    Calls Try.prog 55 #[.int .i64 n] w fun e w' => e = .returned (.slice (some ⟨w.heap.size, 0, none⟩) 1 1) ∧ w' = w.alloc (inO ⟨2, n, 0⟩) := by
  go_enter Try.func55, Try.ntmps55
  go_wp2
  go_ret
  exact ⟨rfl, rfl⟩
/-- What a function that puts something answers. -/
structure PutC (N : Nat) (put : Ins → Ins → List Ins) : Prop where
  enter : ∀ (args : Array Value) (w : World), Sem.run Try.prog (callFunc N args) w = .ok (.enter N args) w
  call : ∀ (a b : Ins) (w : World), Calls Try.prog N #[inV a, inV b] w fun e w' => ∃ v n c, e = .returned (.slice v n c) ∧ PutIs w w' (.slice v n c) (put a b) ∧ Below w.heap.size w w'
set_option maxHeartbeats 400000 in
theorem put2_any : PutC 51 put2 := by
  refine ⟨fun args w => by kernel_rfl, fun a b w => ?_⟩
  go_enter Try.func51, Try.ntmps51
  go_wp2
  go_ret
  exact ⟨_, _, _, rfl, .none _ _, two_belowO _ _ _⟩
set_option maxHeartbeats 400000 in
theorem put3_any : PutC 52 put3 := by
  refine ⟨fun args w => by kernel_rfl, fun a b w => ?_⟩
  go_enter Try.func52, Try.ntmps52
  go_wp2_with fail
  refine (number_any _ _).mono ?_
  rintro e w1 ⟨rfl, rfl⟩
  have HB : Hid (Below w.heap.size w (((w.alloc (inO a)).alloc (inO b)).alloc (inO ⟨1, 0, wrap (-a.n)⟩))) := three_belowO _ _ _ _
  have HP : Hid (PutIs w (((w.alloc (inO a)).alloc (inO b)).alloc (inO ⟨1, 0, wrap (-a.n)⟩)) (.slice (some ⟨w.heap.size + 1 + 1, 0, none⟩) 1 1) (put3 a b)) := .one (by omega) (new2 _ _ _ _)
  go_wp2
  go_ret
  exact ⟨_, _, _, rfl, HP.out, HB.out⟩
set_option maxHeartbeats 400000 in
theorem put4_any : PutC 54 put4 := by
  refine ⟨fun args w => by kernel_rfl, fun a b w => ?_⟩
  go_enter Try.func54, Try.ntmps54
  go_wp2_with fail
  refine (truth_put _ _).mono ?_
  rintro e w1 ⟨rfl, rfl⟩
  have HB : Hid (Below w.heap.size w (((w.alloc (inO a)).alloc (inO b)).alloc (inO ⟨2, wrap (1 - a.a), 0⟩))) := three_belowO _ _ _ _
  have HP : Hid (PutIs w (((w.alloc (inO a)).alloc (inO b)).alloc (inO ⟨2, wrap (1 - a.a), 0⟩)) (.slice (some ⟨w.heap.size + 1 + 1, 0, none⟩) 1 1) (put4 a b)) := .one (by omega) (new2 _ _ _ _)
  go_wp2
  go_ret
  exact ⟨_, _, _, rfl, HP.out, HB.out⟩
set_option maxHeartbeats 400000 in
theorem put5_any : PutC 56 put5 := by
  refine ⟨fun args w => by kernel_rfl, fun a b w => ?_⟩
  by_cases h : a.a = 0
  · have e1 : (a.a == 0) = true := by simpa using h
    have HB : Hid (Below w.heap.size w (((w.alloc (inO a)).alloc (inO b)).alloc (inO ⟨21, b.a, 0⟩))) := three_belowO _ _ _ _
    have HP : Hid (PutIs w (((w.alloc (inO a)).alloc (inO b)).alloc (inO ⟨21, b.a, 0⟩)) (.slice (some ⟨w.heap.size + 1 + 1, 0, none⟩) 1 1) (put5 a b)) := by
      unfold put5
      rw [if_pos h]
      exact .one (by omega) (new2 _ _ _ _)
    clear h
    go_enter Try.func56, Try.ntmps56
    go_wp2
    go_ret
    exact ⟨_, _, _, rfl, HP.out, HB.out⟩
  · have e1 : (a.a == 0) = false := by simpa using h
    have HP : Hid (put5 a b = []) := by unfold put5 Hid; rw [if_neg h]
    clear h
    go_enter Try.func56, Try.ntmps56
    go_wp2
    go_ret
    exact ⟨_, _, _, rfl, by rw [HP.out]; exact .none _ _, two_belowO _ _ _⟩
set_option maxHeartbeats 400000 in
theorem word_any (c : Ins) (w : World) :
    Calls Try.prog 73 #[inV c] w fun e w' => e = .returned (.int .i64 (word c)) ∧ w' = w.alloc (inO c) := by
  by_cases h : c.op = 1
  · have e1 : (c.op == 1) = true := by simpa using h
    have HW : Hid (word c = c.n) := by unfold word Hid; rw [if_pos h]
    clear h
    go_enter Try.func73, Try.ntmps73
    go_wp2
    go_ret
    exact ⟨by rw [HW.out]; rfl, rfl⟩
  · have e1 : (c.op == 1) = false := by simpa using h
    have HW : Hid (word c = c.a) := by unfold word Hid; rw [if_neg h]
    clear h
    go_enter Try.func73, Try.ntmps73
    go_wp2
    go_ret
    exact ⟨by rw [HW.out]; rfl, rfl⟩
set_option maxHeartbeats 400000 in
theorem jumps_any (c : Ins) (w : World) :
    Calls Try.prog 58 #[inV c] w fun e w' => e = .returned (.bool (jmp c)) ∧ w' = w.alloc (inO c) := by
  by_cases h : c.op = 21
  · have e1 : (c.op == 21) = true := by simpa using h
    have HW : Hid (jmp c = true) := by unfold jmp Hid; rw [e1]; rfl
    clear h
    go_enter Try.func58, Try.ntmps58
    go_wp2
    go_ret
    exact ⟨by rw [HW.out]; rfl, rfl⟩
  · have e1 : (c.op == 21) = false := by simpa using h
    have HW : Hid (jmp c = (c.op == 22)) := by unfold jmp Hid; rw [e1]; rfl
    clear h
    go_enter Try.func58, Try.ntmps58
    go_wp2
    go_ret
    exact ⟨by rw [HW.out]; rfl, rfl⟩
set_option maxHeartbeats 1000000 in
theorem reckons_any (k op : Int) (w : World) (r : Bool) (hr : Hid (r = reckons k op)) :
    Calls Try.prog 71 #[.int .i64 k, .int .i64 op] w fun e w' => e = .returned (.bool r) ∧ w' = w := by
  by_cases h1 : k = 1
  · have e1 : (k == 1) = true := by simpa using h1
    by_cases h8 : 8 ≤ op
    · have HR : Hid (r = decide (op ≤ 18)) := by unfold Hid; rw [hr.out]; unfold reckons; rw [if_pos h1]; simp [h8]
      clear h1 hr
      go_enter Try.func71, Try.ntmps71
      go_wp2
      go_ret
      exact ⟨by rw [HR.out]; rfl, rfl⟩
    · have HR : Hid (r = false) := by unfold Hid; rw [hr.out]; unfold reckons; rw [if_pos h1]; simp [h8]
      clear h1 hr
      go_enter Try.func71, Try.ntmps71
      go_wp2
      go_ret
      exact ⟨by rw [HR.out]; rfl, rfl⟩
  · have e1 : (k == 1) = false := by simpa using h1
    by_cases h2 : k = 2
    · have e2 : (k == 2) = true := by simpa using h2
      have e0 : r = (op == 13 || op == 14 || op == 19 || op == 20) := by rw [hr.out]; unfold reckons; rw [if_neg h1, if_pos h2]
      clear h1 h2 hr
      by_cases a1 : op = 13
      · have f1 : (op == 13) = true := by simpa using a1
        have HR : Hid (r = true) := by unfold Hid; rw [e0, f1]; rfl
        clear a1 e0
        go_enter Try.func71, Try.ntmps71
        go_wp2
        go_ret
        exact ⟨by rw [HR.out]; rfl, rfl⟩
      · have f1 : (op == 13) = false := by simpa using a1
        by_cases a2 : op = 14
        · have f2 : (op == 14) = true := by simpa using a2
          have HR : Hid (r = true) := by unfold Hid; rw [e0, f1, f2]; rfl
          clear a1 a2 e0
          go_enter Try.func71, Try.ntmps71
          go_wp2
          go_ret
          exact ⟨by rw [HR.out]; rfl, rfl⟩
        · have f2 : (op == 14) = false := by simpa using a2
          by_cases a3 : op = 19
          · have f3 : (op == 19) = true := by simpa using a3
            have HR : Hid (r = true) := by unfold Hid; rw [e0, f1, f2, f3]; rfl
            clear a1 a2 a3 e0
            go_enter Try.func71, Try.ntmps71
            go_wp2
            go_ret
            exact ⟨by rw [HR.out]; rfl, rfl⟩
          · have f3 : (op == 19) = false := by simpa using a3
            have HR : Hid (r = (op == 20)) := by unfold Hid; rw [e0, f1, f2, f3]; rfl
            clear a1 a2 a3 e0
            go_enter Try.func71, Try.ntmps71
            go_wp2
            go_ret
            exact ⟨by rw [HR.out]; rfl, rfl⟩
    · have e2 : (k == 2) = false := by simpa using h2
      have HR : Hid (r = false) := by unfold Hid; rw [hr.out]; unfold reckons; rw [if_neg h1, if_neg h2]
      clear h1 h2 hr
      go_enter Try.func71, Try.ntmps71
      go_wp2
      go_ret
      exact ⟨by rw [HR.out]; rfl, rfl⟩
end Go.Proofs.Ytlbihbfgglnfnaa.Ow

/- The walks of opt's rules: a jump to the next instruction; two instructions. -/
namespace Go.Proofs.Ytlbihbfgglnfnaa.Ow
open Go.RowKit Vf Vm Ot

/-- Blocks from lo on, below hi, are as they were. -/
def Held (lo hi : Nat) (w0 w : World) : Prop := ∀ j, lo ≤ j → j < hi → w.heap[j]? = w0.heap[j]?
/-- What a rule answers. -/
structure RuleC (lo hi : Nat) (w0 : World) (N : Nat) (caps : Array Value) (rule : Nat → List Ins → Ch) : Prop where
  enter : ∀ (args : Array Value) (w : World), Sem.run Try.prog (callFunc N args) w = .ok (.enter N args) w
  call : ∀ (k : Nat) (l : List Ins) (b off cap B : Nat) (w : World), k ≤ 4000 → 0 < l.length → l.length ≤ 4000 → CodeIn B w l (some ⟨b, off, none⟩) → B ≤ w.heap.size → Held lo hi w0 w →
    Calls Try.prog N (#[.int .i64 k, .slice (some ⟨b, off, none⟩) l.length cap] ++ caps) w fun e w' => ∃ v n c, e = .returned (.agg #[.int .i64 (rule k l).1, .slice v n c]) ∧ PutIs w w' (.slice v n c) (rule k l).2 ∧ Below w.heap.size w w'
theorem code_cells {B : Nat} {w : World} {l : List Ins} {b off i : Nat} {x : Ins} (h : CodeIn B w l (some ⟨b, off, none⟩)) (hx : l[i]? = some x) : b < B ∧ w.cell? ⟨b, off + i * 3, none⟩ = some (.int .i64 x.op) ∧ w.cell? ⟨b, off + i * 3 + 1, none⟩ = some (.int .i64 x.a) ∧ w.cell? ⟨b, off + i * 3 + 2, none⟩ = some (.int .i64 x.n) := by
  obtain ⟨_, _, _, b', off', e, h1, h2⟩ := h i x hx
  cases e
  exact ⟨h1, h2⟩
theorem alloc_cell {w : World} {o : Obj} {b f : Nat} {v : Value} (h : w.cell? ⟨b, f, none⟩ = some v) : (w.alloc o).cell? ⟨b, f, none⟩ = some v := by
  rw [World.cell?_alloc_lt _ _ _ (World.block_lt_of_cell? w _ h)]
  exact h

set_option maxHeartbeats 1000000 in
theorem next_any (lo hi : Nat) (w0 : World) : RuleC lo hi w0 57 #[] next := by
  refine ⟨fun args w => by kernel_rfl, fun k l b off cap B w hk hl0 hl hC hB _ => ?_⟩
  cases l with
  | nil => simp at hl0
  | cons a r =>
    obtain ⟨hb, c0, c1, _⟩ := code_cells hC (i := 0) (x := a) rfl
    rw [Nat.zero_mul, Nat.add_zero] at c0 c1
    have hbw : b < w.heap.size := by omega
    have hbn : ¬ w.heap.size = b := by omega
    have hk1 : (k : Int) ≤ 4000 := by omega
    have HN := hide (next_eq k a r)
    by_cases h1 : a.op = 21
    · have e1 : (a.op != 21) = false := by simpa using h1
      by_cases h2 : a.a = (k : Int) + 1
      · have e2 : (a.a != (k : Int) + 1) = false := by simpa using h2
        have HR : Hid (next k (a :: r) = (1, [])) := by unfold Hid; rw [HN.out, if_pos ⟨h1, h2⟩]
        clear h1 h2 HN hC hl
        go_enter Try.func57, Try.ntmps57
        go_wp2
        exact bodyPost_ret (v := .agg #[.int .i64 1, .slice none 0 0]) (by simp [results, Try.results57, go_sem]) rfl ⟨_, _, _, by rw [HR.out]; rfl, by rw [HR.out]; exact .none _ _, one_below _ _⟩
      · have e2 : (a.a != (k : Int) + 1) = true := by simpa using h2
        have HR : Hid (next k (a :: r) = (0, [])) := by unfold Hid; rw [HN.out, if_neg (fun h => h2 h.2)]
        clear h1 h2 HN hC hl
        go_enter Try.func57, Try.ntmps57
        go_wp2
        exact bodyPost_ret (v := .agg #[.int .i64 0, .slice none 0 0]) (by simp [results, Try.results57, go_sem]) rfl ⟨_, _, _, by rw [HR.out]; rfl, by rw [HR.out]; exact .none _ _, one_below _ _⟩
    · have e1 : (a.op != 21) = true := by simpa using h1
      have HR : Hid (next k (a :: r) = (0, [])) := by unfold Hid; rw [HN.out, if_neg (fun h => h1 h.1)]
      clear h1 HN hC hl
      go_enter Try.func57, Try.ntmps57
      go_wp2
      exact bodyPost_ret (v := .agg #[.int .i64 0, .slice none 0 0]) (by simp [results, Try.results57, go_sem]) rfl ⟨_, _, _, by rw [HR.out]; rfl, by rw [HR.out]; exact .none _ _, one_below _ _⟩
end Go.Proofs.Ytlbihbfgglnfnaa.Ow

