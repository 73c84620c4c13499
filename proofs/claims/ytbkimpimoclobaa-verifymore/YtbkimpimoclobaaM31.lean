/- The walk of each, for both looks; of shapes and flows. -/
import Derived.Test.YtbkimpimoclobaaM30
namespace Go.Proofs.Ytbkimpimoclobaa
open Go.RowKit
namespace Vf
/-- The first unit of which something is wrong, and what. -/
def eachW (f : Un → Int × Nat) : List Un → Nat → Int × Int × Int
  | [], _ => (0, 0, 0)
  | u :: l, k => if (f u).1 = 0 then eachW f l (k + 1) else ((f u).1, (k : Int), ((f u).2 : Int))
theorem firstE_zero {α : Type} (f : α → Int) : ∀ (l : List α) (k : Nat), (firstE f l k).1 = 0 → (firstE f l k).2 = 0
  | [], _, _ => rfl
  | x :: l, k, h => by
    unfold firstE at h ⊢
    split at h
    · rename_i hx
      rw [if_pos hx]
      exact firstE_zero f l (k + 1) h
    · rename_i hx
      exact absurd h hx
theorem shapeF_zero {m : Md} {u : Un} (h : (shapeF m u).1 = 0) : (shapeF m u).2 = 0 := by
  unfold shapeF at h ⊢
  split
  · rename_i hh
    rw [if_pos hh] at h
    exact firstE_zero _ _ _ h
  · rfl
theorem flow_zero {m : Md} {u : Un} : ∀ (f : Nat) (s : S), (flow m u f s).1 = 0 → (flow m u f s).2 = 0
  | 0, _, _ => rfl
  | f + 1, s, h => by
    unfold flow at h ⊢
    split
    · rfl
    · rename_i n row hrow
      rw [hrow] at h
      simp only at h
      split
      · rename_i e he
        rw [he] at h
        exact absurd h (look_nz _ _ _ _ e he)
      · rename_i s' hs
        rw [hs] at h
        exact flow_zero f s' h
end Vf
theorem each_drop (f : Vf.Un → Int × Nat) {l : List Vf.Un} {k : Nat} {x : Vf.Un} (h : l[k]? = some x) : Vf.eachW f (l.drop k) k = if (f x).1 = 0 then Vf.eachW f (l.drop (k + 1)) (k + 1) else ((f x).1, (k : Int), ((f x).2 : Int)) := by
  obtain ⟨hk, rfl⟩ := List.getElem?_eq_some_iff.1 h
  rw [List.drop_eq_getElem_cons hk]
  rfl

abbrev lkO (g : FuncId) : Obj := .cells #[.func (.func g) #[] #[]] 54 (0, 0)
abbrev whV (er un num : Int) : Value := .agg #[.int .i64 er, .int .i64 un, .int .i64 num]
abbrev whZ : Obj := .cells #[.int .i64 0, .int .i64 0, .int .i64 0] 28 (0, 0)
theorem md_cells {w : World} {N : Nat} {m : Vf.Md} {ab au : Option Addr} {cb cu : Nat} (h : w.heap[N]? = some (mdO m ab au cb cu)) :
    w.cell? ⟨N, 0, none⟩ = some (.slice ab m.boxes.length cb) ∧ w.cell? ⟨N, 1, none⟩ = some (.slice au m.units.length cu) := by
  simp [World.cell?, h]
theorem wh_cells {w : World} {N : Nat} {a b c : Value} (h : w.heap[N]? = some (.cells #[a, b, c] 28 (0, 0))) :
    (w.cell? ⟨N, 0, none⟩ = some a ∧ w.cell? ⟨N, 1, none⟩ = some b ∧ w.cell? ⟨N, 2, none⟩ = some c) ∧ w.frozen? ⟨N, 0, none⟩ = false ∧ w.frozen? ⟨N, 1, none⟩ = false ∧ w.frozen? ⟨N, 2, none⟩ = false := by
  simp [World.cell?, World.frozen?, h]

/-- What a closure that looks at a unit has caught. -/
structure E1 (g : FuncId) (c : FC) (LB MB UB : Nat) (w : World) : Prop where
  lk : w.heap[LB]? = some (lkO g)
  md : w.heap[MB]? = some (mdO c.m c.ab c.au c.cb c.cu)
  un : w.heap[UB]? = some (unO c.u c.al c.ac c.cl c.cc)


set_option maxRecDepth 100000 in
set_option maxHeartbeats 2000000 in
theorem each1S (c : FC) (B LB MB UB : Nat) (w : World) (h : Hid (E1 22 c LB MB UB w)) (hmd : Hid (ModIn B w c.m c.ab c.au)) (hun : Hid (UnIn B w c.u c.al c.ac c.cl c.cc)) (hB : B ≤ w.heap.size) (hmu : c.m.units.length ≤ 30) (er num : Int) (hr : Hid ((er, num) = ((Vf.shapeF c.m c.u).1, ((Vf.shapeF c.m c.u).2 : Int)))) :
    Calls Try.prog 37 #[.pointer (some ⟨LB, 0, none⟩), .pointer (some ⟨MB, 0, none⟩), .pointer (some ⟨UB, 0, none⟩)] w fun e w' => w.grownBy w' none ∧ Thrown er num e := by
  have l0 : w.cell? ⟨LB, 0, none⟩ = some (.func (.func 22) #[] #[]) := by simp [World.cell?, h.out.lk]
  obtain ⟨m0, m1⟩ := md_cells h.out.md
  obtain ⟨u0, u1, u2, u3, u4, u5⟩ := six_cells h.out.un
  go_enter Try.func37, Try.ntmps37
  go_wp2_with fail
  refine (shapes1_any c B _ hmd hun hB hmu er num hr).mono ?_
  rintro e w1 ⟨hg1, he⟩
  have HG1 := hide hg1
  clear hg1 l0 m0 m1 u0 u1 u2 u3 u4 u5
  by_cases h1 : er = 0
  · obtain rfl : e = .returned (.tuple #[]) := by unfold Thrown at he; rw [if_pos h1] at he; exact he
    have HX : Hid (Thrown er num (.returned (.tuple #[]))) := he
    clear he h1
    go_wp2
    go_end0
    exact ⟨HG1.out, HX.out⟩
  · obtain rfl : e = .panicked [fltE er num] := by unfold Thrown at he; rw [if_neg h1] at he; exact he
    have HX : Hid (Thrown er num (.panicked [fltE er num])) := he
    clear he h1
    go_wp2
    exact ⟨rfl, HG1.out, HX.out⟩
set_option maxRecDepth 100000 in
set_option maxHeartbeats 2000000 in
theorem each1F (c : FC) (B LB MB UB : Nat) (w : World) (h : Hid (E1 25 c LB MB UB w)) (hmd : Hid (ModIn B w c.m c.ab c.au)) (hun : Hid (UnIn B w c.u c.al c.ac c.cl c.cc)) (hB : B ≤ w.heap.size) (hR : Hid (Rt c.m)) (hu : Hid (Vf.headE c.m c.u = 0)) (hfo : Hid (Vf.Forms c.m c.u)) (er num : Int) (hr : Hid ((er, num) = ((Vf.flowF c.m c.u).1, ((Vf.flowF c.m c.u).2 : Int)))) :
    Calls Try.prog 37 #[.pointer (some ⟨LB, 0, none⟩), .pointer (some ⟨MB, 0, none⟩), .pointer (some ⟨UB, 0, none⟩)] w fun e w' => w.grownBy w' none ∧ Thrown er num e := by
  have l0 : w.cell? ⟨LB, 0, none⟩ = some (.func (.func 25) #[] #[]) := by simp [World.cell?, h.out.lk]
  obtain ⟨m0, m1⟩ := md_cells h.out.md
  obtain ⟨u0, u1, u2, u3, u4, u5⟩ := six_cells h.out.un
  go_enter Try.func37, Try.ntmps37
  go_wp2_with fail
  refine (flows1_any c B _ hmd hun hB hR hu hfo er num hr).mono ?_
  rintro e w1 ⟨hg1, he⟩
  have HG1 := hide hg1
  clear hg1 l0 m0 m1 u0 u1 u2 u3 u4 u5
  by_cases h1 : er = 0
  · obtain rfl : e = .returned (.tuple #[]) := by unfold Thrown at he; rw [if_pos h1] at he; exact he
    have HX : Hid (Thrown er num (.returned (.tuple #[]))) := he
    clear he h1
    go_wp2
    go_end0
    exact ⟨HG1.out, HX.out⟩
  · obtain rfl : e = .panicked [fltE er num] := by unfold Thrown at he; rw [if_neg h1] at he; exact he
    have HX : Hid (Thrown er num (.panicked [fltE er num])) := he
    clear he h1
    go_wp2
    exact ⟨rfl, HG1.out, HX.out⟩

/-- At the head of each's loop. -/
structure EaAt (f : Vf.Un → Int × Nat) (l : List Vf.Un) (w0 : World) (er un num : Int) (k : Nat) (W : World) : Prop where
  le : k ≤ l.length
  grown : w0.grownBy W none
  rest : (er, un, num) = Vf.eachW f (l.drop k) k

end Go.Proofs.Ytbkimpimoclobaa

