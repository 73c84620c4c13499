/- The walk of throw.Caught, for any work; the looks at a unit; each. -/
import Derived.Test.YtnfbfdajdflfgaaGreatM37
import Derived.Test.YtnfbfdajdflfgaaGreatM38
namespace Go.Proofs.YtnfbfdajdflfgaaGreat
open Go.RowKit

theorem two_cell {w : World} {b : Nat} {v0 v1 : Value} {t : TypeId} (h : w.heap[b]? = some (.cells #[v0, v1] t (0, 0))) :
    w.cell? ⟨b, 0, none⟩ = some v0 ∧ w.cell? ⟨b, 1, none⟩ = some v1 ∧ w.frozen? ⟨b, 0, none⟩ = false ∧ w.frozen? ⟨b, 1, none⟩ = false := by simp [World.cell?, World.frozen?, h]

theorem assert_fault (v : Value) (w : World) : (Instr.typeAssert (.iface 123 v) 20 123 false).run Tryz.prog w = .ok v w := by kernel_rfl

set_option maxRecDepth 100000 in
set_option maxHeartbeats 400000 in
theorem catch_thrown (F : Nat) (er num : Int) (older : List PanicEntry) (w : World) (hF : w.heap[F]? = some (.cells #[.int .i64 0, .int .i64 0] 123 (0, 0))) :
    CallsD Tryz.prog 78 #[.pointer (some ⟨F, 0, none⟩)] (.panicking (fltE er num :: older)) w fun e u' w' =>
      e = .returned (.tuple #[]) ∧ u' = .panicking ({ v := .iface 123 (.agg #[.int .i64 er, .int .i64 num]), recovered := true } :: older) ∧ w' = (w.setCell ⟨F, 0, none⟩ (.int .i64 er)).setCell ⟨F, 1, none⟩ (.int .i64 num) := by
  obtain ⟨c0, c1, f0, f1⟩ := two_cell hF
  refine callsD_of_wpS Tryz.func78 rfl fun c₀ cs hu => ?_
  apply wpS_seq
  apply wpS_region
  simp [wpOpsS, go_sem, recoverD, hu, Tryz.ntmps78, Exit.thenS]
  apply wpS_seq
  apply wpS_region
  simp [wpOpsS, go_sem, Exit.thenS]
  refine wpS_cond (t := true) (by simp [Act.eval, Array.replicate]) ?_
  simp only [if_true]
  apply wpS_region
  simp [wpOpsS, go_sem, assert_fault, c0, c1, f0, f1, bodyPostS, results, Tryz.results78]

set_option maxHeartbeats 400000 in
theorem catch_none (F : Nat) (w : World) :
    CallsD Tryz.prog 78 #[.pointer (some ⟨F, 0, none⟩)] .returning w fun e u' w' => e = .returned (.tuple #[]) ∧ u' = .returning ∧ w' = w := by
  refine callsD_of_wpS Tryz.func78 rfl fun c₀ cs hu => ?_
  apply wpS_seq
  apply wpS_region
  simp [wpOpsS, go_sem, recoverD, hu, Tryz.ntmps78, Exit.thenS]
  apply wpS_seq
  apply wpS_region
  simp [wpOpsS, go_sem, Exit.thenS]
  refine wpS_cond (t := false) (by simp [Act.eval, Array.replicate]) ?_
  simp only [Bool.false_eq_true, if_false]
  refine wpS_of_wp (wp_skip ?_)
  cases c₀
  simp_all [bodyPostS, results, Tryz.results78]

abbrev Z2C : Obj := .cells #[.int .i64 0, .int .i64 0] 123 (0, 0)

set_option maxRecDepth 100000 in
set_option maxHeartbeats 400000 in
theorem caught_any (g : FuncId) (cap : Array Value) (er num : Int) (X : World → Prop) (w : World) (hz : er = 0 → num = 0) (hcf : ∀ w : World, (callFunc g cap).run Tryz.prog w = .ok (.enter g cap) w)
    (hw : Calls Tryz.prog g cap (w.alloc Z2C) fun e w' => X w' ∧ w'.heap[w.heap.size]? = some Z2C ∧ Thrown er num e) :
    Calls Tryz.prog 54 #[.func (.func g) #[] cap] w fun e w' => e = .returned (.agg #[.int .i64 er, .int .i64 num]) ∧ ∃ wx, X wx ∧ wx.heap[w.heap.size]? = some Z2C ∧ w' = (wx.setCell ⟨w.heap.size, 0, none⟩ (.int .i64 er)).setCell ⟨w.heap.size, 1, none⟩ (.int .i64 num) := by
  have hmf : ∀ (fn : Fn) (first cap : Array Value) (w : World), (Instr.makeFunc fn first cap).run Tryz.prog w = .ok (.func fn first cap) w := fun _ _ _ _ => rfl
  go_enter_defers Tryz.func54, Tryz.ntmps54
  go_wp2_with fail
  refine hw.mono ?_
  rintro e w1 ⟨hX, hF, ht⟩
  obtain ⟨c0, c1, f0, f1⟩ := two_cell hF
  have HX : Hid (X w1) := hX
  have HF : Hid (w1.heap[w.heap.size]? = some Z2C) := hF
  clear hX hF
  by_cases h0 : er = 0
  · have hn := hz h0
    subst h0
    subst hn
    obtain rfl : e = .returned (.tuple #[]) := ht
    clear hw hz
    go_wp2
    refine leaves_cons (f := 78) (args := #[.pointer (some ⟨w.heap.size, 0, none⟩)]) (by simp) (by simp [go_sem]) ?_
    refine (catch_none w.heap.size _).mono ?_
    rintro e u' w'' ⟨rfl, rfl, rfl⟩
    show Leaves _ _ _ _ [] .returning _
    exact ⟨.agg #[.int .i64 0, .int .i64 0], by simp [results, Tryz.results54, go_sem, c0, c1], rfl, w1, HX.out, HF.out, rfl⟩
  · obtain rfl : e = .panicked [fltE er num] := by unfold Thrown at ht; rw [if_neg h0] at ht; exact ht
    clear ht hw hz h0
    go_wp2
    refine leaves_cons (f := 78) (args := #[.pointer (some ⟨w.heap.size, 0, none⟩)]) (by simp) (by simp [go_sem]) ?_
    refine (catch_thrown w.heap.size er num [] _ HF.out).mono ?_
    rintro e u' w'' ⟨rfl, rfl, rfl⟩
    show Leaves _ _ _ _ [] .returning _
    exact ⟨.agg #[.int .i64 er, .int .i64 num], by simp [results, Tryz.results54, go_sem, c0, c1], rfl, w1, HX.out, HF.out, rfl⟩


theorem ModIn.mono {B C : Nat} {w : World} {m : Vf.Md} {ab au : Option Addr} (h : ModIn B w m ab au) (hB : B ≤ C) : ModIn C w m ab au := by
  refine ⟨h.few, fun i x hx => ?_, fun i x hx => ?_⟩
  · obtain ⟨h1, h2, b, off, e, hb, r⟩ := h.boxes i x hx
    exact ⟨h1, h2, b, off, e, by omega, r⟩
  · obtain ⟨b, off, al, cl, ac, cc, e, hb, hu, r⟩ := h.units i x hx
    refine ⟨b, off, al, cl, ac, cc, e, by omega, ⟨hu.nums, hu.few, hu.caps, fun j y hy => ?_, fun j y hy => ?_⟩, r⟩
    · obtain ⟨h1, b, off, e, hb, r⟩ := hu.locals j y hy
      exact ⟨h1, b, off, e, by omega, r⟩
    · obtain ⟨h1, h2, h3, b, off, e, hb, r⟩ := hu.code j y hy
      exact ⟨h1, h2, h3, b, off, e, by omega, r⟩
theorem UnIn.mono {B C : Nat} {w : World} {u : Vf.Un} {al ac : Option Addr} {cl cc : Nat} (hu : UnIn B w u al ac cl cc) (hB : B ≤ C) : UnIn C w u al ac cl cc := by
  refine ⟨hu.nums, hu.few, hu.caps, fun j y hy => ?_, fun j y hy => ?_⟩
  · obtain ⟨h1, b, off, e, hb, r⟩ := hu.locals j y hy
    exact ⟨h1, b, off, e, by omega, r⟩
  · obtain ⟨h1, h2, h3, b, off, e, hb, r⟩ := hu.code j y hy
    exact ⟨h1, h2, h3, b, off, e, by omega, r⟩
set_option maxRecDepth 100000 in
set_option maxHeartbeats 2000000 in
/-- WHAT A LOOK AT A UNIT's HEAD AND FORMS DOES. -/
theorem shapes1_any (c : FC) (B : Nat) (w : World) (hmd : Hid (ModIn B w c.m c.ab c.au)) (hun : Hid (UnIn B w c.u c.al c.ac c.cl c.cc)) (hB : B ≤ w.heap.size) (hmu : c.m.units.length ≤ 30) (er num : Int) (hr : Hid ((er, num) = ((Vf.shapeF c.m c.u).1, ((Vf.shapeF c.m c.u).2 : Int)))) :
    Calls Tryz.prog 32 #[utV c] w fun e w' => w.grownBy w' none ∧ Thrown er num e := by
  obtain ⟨y0, y1, y2, y3, y4, y5, y6, y7⟩ := ut_cells (heap_alloc_new w (utO c))
  have HT : Hid (w.grownBy (w.alloc (utO c)) none) := grown0_new (World.grownBy.refl _ _) _
  have HM1 : Hid (ModIn B (w.alloc (utO c)) c.m c.ab c.au) := hmd.out.low (low0 HT.out hB)
  have HU1 : Hid (UnIn B (w.alloc (utO c)) c.u c.al c.ac c.cl c.cc) := hun.out.low (low0 HT.out hB)
  obtain ⟨eh, heh⟩ : ∃ eh, eh = Vf.headE c.m c.u := ⟨_, rfl⟩
  have HH := hide heh
  have HR : Hid ((er, num) = if eh = 0 then ((Vf.firstE (Vf.formE c.m c.u) c.u.code 0).1, ((Vf.firstE (Vf.formE c.m c.u) c.u.code 0).2 : Int)) else (eh, 0)) := by
    unfold Hid
    rw [hr.out, Vf.shapeF, ← heh]
    split <;> rfl
  clear hr heh
  go_enter Tryz.func32, Tryz.ntmps32
  go_wp2_with fail
  refine (head_any c B _ HM1 HU1 (by simp; omega) hmu eh HH).mono ?_
  rintro e w1 ⟨hg1, he⟩
  have HG1 : Hid (w.grownBy w1 none) := grown0_tr' HT.out hg1
  have hub : w1.heap[w.heap.size]? = some (utO c) := (kept0 hg1 (by simp)).trans (heap_alloc_new w _)
  by_cases h0 : eh = 0
  · obtain rfl : e = .returned (.tuple #[]) := by rw [if_pos h0] at he; exact he
    have HR2 : Hid ((er, num) = ((Vf.firstE (Vf.formE c.m c.u) c.u.code 0).1, ((Vf.firstE (Vf.formE c.m c.u) c.u.code 0).2 : Int))) := by have := HR.out; rw [if_pos h0] at this; exact this
    obtain ⟨x0, x1, x2, x3, x4, x5, x6, x7⟩ := ut_cells hub
    have HM2 : Hid (ModIn B w1 c.m c.ab c.au) := hmd.out.low (low0 HG1.out hB)
    have HU2 : Hid (UnIn B w1 c.u c.al c.ac c.cl c.cc) := hun.out.low (low0 HG1.out hB)
    have hz := HG1.out.size
    clear he hg1 hub h0 y0 y1 y2 y3 y4 y5 y6 y7
    go_wp2_with fail
    refine (forms_any c B _ HM2 HU2 (by omega) er num HR2).mono ?_
    rintro e w2 ⟨hg2, he2⟩
    have HG2 : Hid (w.grownBy w2 none) := grown0_tr' HG1.out hg2
    clear hg2
    by_cases h1 : er = 0
    · obtain rfl : e = .returned (.tuple #[]) := by rw [if_pos h1] at he2; exact he2
      have HE : Hid (Thrown er num (.returned (.tuple #[]))) := he2
      clear he2 h1
      go_wp2
      go_end0
      exact ⟨HG2.out, HE.out⟩
    · obtain rfl : e = .panicked [fltE er num] := by rw [if_neg h1] at he2; exact he2
      have HE : Hid (Thrown er num (.panicked [fltE er num])) := he2
      clear he2 h1
      go_wp2
      exact ⟨rfl, HG2.out, HE.out⟩
  · obtain rfl : e = .panicked [fltE eh 0] := by rw [if_neg h0] at he; exact he
    have HR2 : Hid (er = eh ∧ num = 0) := by have := HR.out; rw [if_neg h0] at this; cases this; exact ⟨rfl, rfl⟩
    have HE : Hid (Thrown eh 0 (.panicked [fltE eh 0])) := he
    clear he hg1 hub h0
    go_wp2
    rw [HR2.out.1, HR2.out.2]
    exact ⟨rfl, HG1.out, HE.out⟩

set_option maxRecDepth 100000 in
set_option maxHeartbeats 2000000 in
/-- WHAT A LOOK AT A UNIT's FLOW DOES. -/
theorem flows1_any (c : FC) (B : Nat) (w : World) (hmd : Hid (ModIn B w c.m c.ab c.au)) (hun : Hid (UnIn B w c.u c.al c.ac c.cl c.cc)) (hB : B ≤ w.heap.size) (hR : Hid (Rt c.m)) (hu : Hid (Vf.headE c.m c.u = 0)) (hfo : Hid (Vf.Forms c.m c.u)) (er num : Int) (hr : Hid ((er, num) = ((Vf.flowF c.m c.u).1, ((Vf.flowF c.m c.u).2 : Int)))) :
    Calls Tryz.prog 35 #[utV c] w fun e w' => w.grownBy w' none ∧ Thrown er num e := by
  have hmm : ∀ w : World, (Instr.makeMap 88 Option.none).run Tryz.prog w = .ok (.map (some w.heap.size)) (w.alloc (.map #[] 0)) := fun _ => rfl
  obtain ⟨W, hW⟩ : ∃ W : World, ((w.alloc (utO c)).alloc (.map #[] 0)).alloc (flO { c with M := w.heap.size + 1 } none [] Vf.Fl.none 0 (.slice none 0 0)) = W := ⟨_, rfl⟩
  have hT : w.grownBy W none := by rw [← hW]; exact grown0_new (two_new _ _ _) _
  have hFb : W.heap[w.heap.size + 1 + 1]? = some (flO { c with M := w.heap.size + 1 } none [] Vf.Fl.none 0 (.slice none 0 0)) := by
    have e : ((w.alloc (utO c)).alloc (.map #[] 0)).heap.size = w.heap.size + 1 + 1 := by simp
    rw [← hW, ← e]
    exact heap_alloc_new _ _
  have H0 : Hid (FlIn { c with M := w.heap.size + 1 } W (w.heap.size + 1 + 1) none [] Vf.Fl.none 0 (.slice none 0 0)) := ⟨hFb, rfl⟩
  have HE : Hid (Env { c with M := w.heap.size + 1 } w.heap.size (w.heap.size + 1 + 1) W) := ⟨(hmd.out.mono hB).low (low0 hT (Nat.le_refl _)), (hun.out.mono hB).low (low0 hT (Nat.le_refl _)), by omega, lt_of_block hFb⟩
  have HC : Hid (ComeIn W (w.heap.size + 1) (fun _ => none)) := by
    have h1 := (ComeIn.new (w.alloc (utO c))).alloc (flO { c with M := w.heap.size + 1 } none [] Vf.Fl.none 0 (.slice none 0 0))
    have e : (w.alloc (utO c)).heap.size = w.heap.size + 1 := by simp
    rw [e, hW] at h1
    exact h1
  have HT := hide hT
  have HW := hide hW
  clear hW hT hFb
  go_enter Tryz.func35, Tryz.ntmps35
  go_wp2_with fail
  rw [show ((w.alloc (utO c)).alloc (.map #[] 0)).alloc (.cells #[.slice c.ab c.m.boxes.length c.cb, .slice c.au c.m.units.length c.cu, .int .i64 c.u.kind, .int .i64 c.u.params, .slice c.al c.u.locals.length c.cl, .int .i64 c.u.result, .int .i64 c.u.takes, .slice c.ac c.u.code.length c.cc, .pointer none, .int .i64 0, .int .u64 0, .int .u64 0, .int .u64 0, .int .u64 0, .int .i64 0, .slice none 0 0, .map (some (w.heap.size + 1))] 98) = W from HW.out]
  refine (whole_any { c with M := w.heap.size + 1 } w.heap.size (w.heap.size + 1 + 1) _ H0 HE HC (by simp) hR hu hfo er num hr).mono ?_
  rintro e w1 ⟨hb1, he⟩
  have HG1 : Hid (w.grownBy w1 none) := ⟨hb1.os.trans HT.out.os, hb1.tape.trans HT.out.tape, hb1.output.trans HT.out.output, Nat.le_trans HT.out.size (by have := hb1.size; exact this), fun k hk _ => (hb1.block k hk).trans (HT.out.block k hk (by simp))⟩
  clear hb1
  by_cases h1 : er = 0
  · obtain rfl : e = .returned (.tuple #[]) := by unfold Thrown at he; rw [if_pos h1] at he; exact he
    have HX : Hid (Thrown er num (.returned (.tuple #[]))) := he
    clear he h1
    go_wp2
    go_end0
    exact ⟨HG1.out, HX.out⟩
  · obtain rfl : e = .panicked [fltE er num] := by unfold Thrown at he; rw [if_neg h1] at he; exact he
    have HX : Hid (Thrown er num (.panicked [fltE er num])) := he
    clear he h1
    go_wp2
    exact ⟨rfl, HG1.out, HX.out⟩

end Go.Proofs.YtnfbfdajdflfgaaGreat

/- The walk of each, for both looks; of shapes and flows. -/
namespace Go.Proofs.YtnfbfdajdflfgaaGreat
open Go.RowKit
namespace Vf
/-- The first unit of which something is wrong, and what. -/
def eachW (f : Un → Int × Nat) : List Un → Nat → Int × Int × Int
  | [], _ => (0, 0, 0)
  | u :: l, k => if (f u).1 = 0 then eachW f l (k + 1) else ((f u).1, (k : Int), ((f u).2 : Int))
theorem firstE_zero {α : Type} (f : α → Int) : ∀ (l : List α) (k : Nat), (firstE f l k).1 = 0 → (firstE f l k).2 = 0
  | [], _, _ => rfl
  | x :: l, k, h => by
    unfold firstE at h ⊢
    split at h
    · rename_i hx
      rw [if_pos hx]
      exact firstE_zero f l (k + 1) h
    · rename_i hx
      exact absurd h hx
theorem shapeF_zero {m : Md} {u : Un} (h : (shapeF m u).1 = 0) : (shapeF m u).2 = 0 := by
  unfold shapeF at h ⊢
  split
  · rename_i hh
    rw [if_pos hh] at h
    exact firstE_zero _ _ _ h
  · rfl
theorem flow_zero {m : Md} {u : Un} : ∀ (f : Nat) (s : S), (flow m u f s).1 = 0 → (flow m u f s).2 = 0
  | 0, _, _ => rfl
  | f + 1, s, h => by
    unfold flow at h ⊢
    split
    · rfl
    · rename_i n row hrow
      rw [hrow] at h
      simp only at h
      split
      · rename_i e he
        rw [he] at h
        exact absurd h (look_nz _ _ _ _ e he)
      · rename_i s' hs
        rw [hs] at h
        exact flow_zero f s' h
end Vf
theorem each_drop (f : Vf.Un → Int × Nat) {l : List Vf.Un} {k : Nat} {x : Vf.Un} (h : l[k]? = some x) : Vf.eachW f (l.drop k) k = if (f x).1 = 0 then Vf.eachW f (l.drop (k + 1)) (k + 1) else ((f x).1, (k : Int), ((f x).2 : Int)) := by
  obtain ⟨hk, rfl⟩ := List.getElem?_eq_some_iff.1 h
  rw [List.drop_eq_getElem_cons hk]
  rfl

abbrev lkO (g : FuncId) : Obj := .cells #[.func (.func g) #[] #[]] 87 (0, 0)
abbrev whV (er un num : Int) : Value := .agg #[.int .i64 er, .int .i64 un, .int .i64 num]
abbrev whZ : Obj := .cells #[.int .i64 0, .int .i64 0, .int .i64 0] 44 (0, 0)
theorem md_cells {w : World} {N : Nat} {m : Vf.Md} {ab au : Option Addr} {cb cu : Nat} (h : w.heap[N]? = some (mdO m ab au cb cu)) :
    w.cell? ⟨N, 0, none⟩ = some (.slice ab m.boxes.length cb) ∧ w.cell? ⟨N, 1, none⟩ = some (.slice au m.units.length cu) := by
  simp [World.cell?, h]
theorem wh_cells {w : World} {N : Nat} {a b c : Value} (h : w.heap[N]? = some (.cells #[a, b, c] 44 (0, 0))) :
    (w.cell? ⟨N, 0, none⟩ = some a ∧ w.cell? ⟨N, 1, none⟩ = some b ∧ w.cell? ⟨N, 2, none⟩ = some c) ∧ w.frozen? ⟨N, 0, none⟩ = false ∧ w.frozen? ⟨N, 1, none⟩ = false ∧ w.frozen? ⟨N, 2, none⟩ = false := by
  simp [World.cell?, World.frozen?, h]

/-- What a closure that looks at a unit has caught. -/
structure E1 (g : FuncId) (c : FC) (LB MB UB : Nat) (w : World) : Prop where
  lk : w.heap[LB]? = some (lkO g)
  md : w.heap[MB]? = some (mdO c.m c.ab c.au c.cb c.cu)
  un : w.heap[UB]? = some (unO c.u c.al c.ac c.cl c.cc)


set_option maxRecDepth 100000 in
set_option maxHeartbeats 2000000 in
theorem each1S (c : FC) (B LB MB UB : Nat) (w : World) (h : Hid (E1 32 c LB MB UB w)) (hmd : Hid (ModIn B w c.m c.ab c.au)) (hun : Hid (UnIn B w c.u c.al c.ac c.cl c.cc)) (hB : B ≤ w.heap.size) (hmu : c.m.units.length ≤ 30) (er num : Int) (hr : Hid ((er, num) = ((Vf.shapeF c.m c.u).1, ((Vf.shapeF c.m c.u).2 : Int)))) :
    Calls Tryz.prog 55 #[.pointer (some ⟨LB, 0, none⟩), .pointer (some ⟨MB, 0, none⟩), .pointer (some ⟨UB, 0, none⟩)] w fun e w' => w.grownBy w' none ∧ Thrown er num e := by
  have l0 : w.cell? ⟨LB, 0, none⟩ = some (.func (.func 32) #[] #[]) := by simp [World.cell?, h.out.lk]
  obtain ⟨m0, m1⟩ := md_cells h.out.md
  obtain ⟨u0, u1, u2, u3, u4, u5⟩ := six_cells h.out.un
  go_enter Tryz.func55, Tryz.ntmps55
  go_wp2_with fail
  refine (shapes1_any c B _ hmd hun hB hmu er num hr).mono ?_
  rintro e w1 ⟨hg1, he⟩
  have HG1 := hide hg1
  clear hg1 l0 m0 m1 u0 u1 u2 u3 u4 u5
  by_cases h1 : er = 0
  · obtain rfl : e = .returned (.tuple #[]) := by unfold Thrown at he; rw [if_pos h1] at he; exact he
    have HX : Hid (Thrown er num (.returned (.tuple #[]))) := he
    clear he h1
    go_wp2
    go_end0
    exact ⟨HG1.out, HX.out⟩
  · obtain rfl : e = .panicked [fltE er num] := by unfold Thrown at he; rw [if_neg h1] at he; exact he
    have HX : Hid (Thrown er num (.panicked [fltE er num])) := he
    clear he h1
    go_wp2
    exact ⟨rfl, HG1.out, HX.out⟩
set_option maxRecDepth 100000 in
set_option maxHeartbeats 2000000 in
theorem each1F (c : FC) (B LB MB UB : Nat) (w : World) (h : Hid (E1 35 c LB MB UB w)) (hmd : Hid (ModIn B w c.m c.ab c.au)) (hun : Hid (UnIn B w c.u c.al c.ac c.cl c.cc)) (hB : B ≤ w.heap.size) (hR : Hid (Rt c.m)) (hu : Hid (Vf.headE c.m c.u = 0)) (hfo : Hid (Vf.Forms c.m c.u)) (er num : Int) (hr : Hid ((er, num) = ((Vf.flowF c.m c.u).1, ((Vf.flowF c.m c.u).2 : Int)))) :
    Calls Tryz.prog 55 #[.pointer (some ⟨LB, 0, none⟩), .pointer (some ⟨MB, 0, none⟩), .pointer (some ⟨UB, 0, none⟩)] w fun e w' => w.grownBy w' none ∧ Thrown er num e := by
  have l0 : w.cell? ⟨LB, 0, none⟩ = some (.func (.func 35) #[] #[]) := by simp [World.cell?, h.out.lk]
  obtain ⟨m0, m1⟩ := md_cells h.out.md
  obtain ⟨u0, u1, u2, u3, u4, u5⟩ := six_cells h.out.un
  go_enter Tryz.func55, Tryz.ntmps55
  go_wp2_with fail
  refine (flows1_any c B _ hmd hun hB hR hu hfo er num hr).mono ?_
  rintro e w1 ⟨hg1, he⟩
  have HG1 := hide hg1
  clear hg1 l0 m0 m1 u0 u1 u2 u3 u4 u5
  by_cases h1 : er = 0
  · obtain rfl : e = .returned (.tuple #[]) := by unfold Thrown at he; rw [if_pos h1] at he; exact he
    have HX : Hid (Thrown er num (.returned (.tuple #[]))) := he
    clear he h1
    go_wp2
    go_end0
    exact ⟨HG1.out, HX.out⟩
  · obtain rfl : e = .panicked [fltE er num] := by unfold Thrown at he; rw [if_neg h1] at he; exact he
    have HX : Hid (Thrown er num (.panicked [fltE er num])) := he
    clear he h1
    go_wp2
    exact ⟨rfl, HG1.out, HX.out⟩

/-- At the head of each's loop. -/
structure EaAt (f : Vf.Un → Int × Nat) (l : List Vf.Un) (w0 : World) (er un num : Int) (k : Nat) (W : World) : Prop where
  le : k ≤ l.length
  grown : w0.grownBy W none
  rest : (er, un, num) = Vf.eachW f (l.drop k) k

end Go.Proofs.YtnfbfdajdflfgaaGreat

