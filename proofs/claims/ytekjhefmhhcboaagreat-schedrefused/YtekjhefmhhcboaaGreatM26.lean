/- The walk of throw.Caught, for any work; the looks at a unit; each. -/
import Derived.Test.YtekjhefmhhcboaaGreatM25
set_option maxRecDepth 100000
set_option maxHeartbeats 4000000
namespace Go.Proofs.YtekjhefmhhcboaaGreat
open Go.RowKit
theorem two_cell {w : World} {b : Nat} {v0 v1 : Value} {t : TypeId} (h : w.heap[b]? = some (.cells #[v0, v1] t (0, 0))) :
  w.cell? ⟨b, 0, none⟩ = some v0 ∧ w.cell? ⟨b, 1, none⟩ = some v1 ∧ w.frozen? ⟨b, 0, none⟩ = false ∧ w.frozen? ⟨b, 1, none⟩ = false := by simp [World.cell?, World.frozen?, h]
theorem assert_fault (v : Value) (w : World) : (Instr.typeAssert (.iface 136 v) 20 136 false).run Tryz.prog w = .ok v w := by kernel_rfl
theorem catch_thrown (F : Nat) (er num : Int) (older : List PanicEntry) (w : World) (hF : w.heap[F]? = some (.cells #[.int .i64 0, .int .i64 0] 136 (0, 0))) :
  CallsD Tryz.prog 81 #[.pointer (some ⟨F, 0, none⟩)] (.panicking (fltE er num :: older)) w fun e u' w' =>
   e = .returned (.tuple #[]) ∧ u' = .panicking ({ v := .iface 136 (.agg #[.int .i64 er, .int .i64 num]), recovered := true } :: older) ∧ w' = (w.setCell ⟨F, 0, none⟩ (.int .i64 er)).setCell ⟨F, 1, none⟩ (.int .i64 num) := by
 obtain ⟨c0, c1, f0, f1⟩ := two_cell hF
 refine callsD_of_wpS Tryz.func81 rfl fun c₀ cs hu => ?_
 apply wpS_seq
 apply wpS_region
 simp [wpOpsS, go_sem, recoverD, hu, Tryz.ntmps81, Exit.thenS]
 apply wpS_seq
 apply wpS_region
 simp [wpOpsS, go_sem, Exit.thenS]
 refine wpS_cond (t := true) (by simp [Act.eval, Array.replicate]) ?_
 simp only [if_true]
 apply wpS_region
 simp [wpOpsS, go_sem, assert_fault, c0, c1, f0, f1, bodyPostS, results, Tryz.results81]
theorem catch_none (F : Nat) (w : World) :
  CallsD Tryz.prog 81 #[.pointer (some ⟨F, 0, none⟩)] .returning w fun e u' w' => e = .returned (.tuple #[]) ∧ u' = .returning ∧ w' = w := by
 refine callsD_of_wpS Tryz.func81 rfl fun c₀ cs hu => ?_
 apply wpS_seq
 apply wpS_region
 simp [wpOpsS, go_sem, recoverD, hu, Tryz.ntmps81, Exit.thenS]
 apply wpS_seq
 apply wpS_region
 simp [wpOpsS, go_sem, Exit.thenS]
 refine wpS_cond (t := false) (by simp [Act.eval, Array.replicate]) ?_
 simp only [Bool.false_eq_true, if_false]
 refine wpS_of_wp (wp_skip ?_)
 cases c₀
 simp_all [bodyPostS, results, Tryz.results81]
abbrev Z2C : Obj := .cells #[.int .i64 0, .int .i64 0] 136 (0, 0)
theorem caught_any (g : FuncId) (cap : Array Value) (er num : Int) (X : World → Prop) (w : World) (hz : er = 0 → num = 0) (hcf : ∀ w : World, (callFunc g cap).run Tryz.prog w = .ok (.enter g cap) w)
  (hw : Calls Tryz.prog g cap (w.alloc Z2C) fun e w' => X w' ∧ w'.heap[w.heap.size]? = some Z2C ∧ Thrown er num e) :
  Calls Tryz.prog 58 #[.func (.func g) #[] cap] w fun e w' => e = .returned (.agg #[.int .i64 er, .int .i64 num]) ∧ ∃ wx, X wx ∧ wx.heap[w.heap.size]? = some Z2C ∧ w' = (wx.setCell ⟨w.heap.size, 0, none⟩ (.int .i64 er)).setCell ⟨w.heap.size, 1, none⟩ (.int .i64 num) := by
 have hmf : ∀ (fn : Fn) (first cap : Array Value) (w : World), (Instr.makeFunc fn first cap).run Tryz.prog w = .ok (.func fn first cap) w := fun _ _ _ _ => rfl
 go_enter_defers Tryz.func58, Tryz.ntmps58
 go_wp2_with fail
 refine hw.mono ?_
 rintro e w1 ⟨hX, hF, ht⟩
 obtain ⟨c0, c1, f0, f1⟩ := two_cell hF
 have HX : Hid (X w1) := hX
 have HF : Hid (w1.heap[w.heap.size]? = some Z2C) := hF
 clear hX hF
 by_cases h0 : er = 0
 ·have hn := hz h0
  subst h0
  subst hn
  obtain rfl : e = .returned (.tuple #[]) := ht
  clear hw hz
  go_wp2
  refine leaves_cons (f := 81) (args := #[.pointer (some ⟨w.heap.size, 0, none⟩)]) (by simp) (by simp [go_sem]) ?_
  refine (catch_none w.heap.size _).mono ?_
  rintro e u' w'' ⟨rfl, rfl, rfl⟩
  show Leaves _ _ _ _ [] .returning _
  exact ⟨.agg #[.int .i64 0, .int .i64 0], by simp [results, Tryz.results58, go_sem, c0, c1], rfl, w1, HX.out, HF.out, rfl⟩
 ·obtain rfl : e = .panicked [fltE er num] := by unfold Thrown at ht; rw [if_neg h0] at ht; exact ht
  clear ht hw hz h0
  go_wp2
  refine leaves_cons (f := 81) (args := #[.pointer (some ⟨w.heap.size, 0, none⟩)]) (by simp) (by simp [go_sem]) ?_
  refine (catch_thrown w.heap.size er num [] _ HF.out).mono ?_
  rintro e u' w'' ⟨rfl, rfl, rfl⟩
  show Leaves _ _ _ _ [] .returning _
  exact ⟨.agg #[.int .i64 er, .int .i64 num], by simp [results, Tryz.results58, go_sem, c0, c1], rfl, w1, HX.out, HF.out, rfl⟩
theorem ModIn.mono {B C : Nat} {w : World} {m : Vf.Md} {ab au : Option Addr} (h : ModIn B w m ab au) (hB : B ≤ C) : ModIn C w m ab au := by
 refine ⟨h.few, fun i x hx => ?_, fun i x hx => ?_⟩
 ·obtain ⟨h1, h2, b, off, e, hb, r⟩ := h.boxes i x hx
  exact ⟨h1, h2, b, off, e, by omega, r⟩
 ·obtain ⟨b, off, al, cl, ac, cc, e, hb, hu, r⟩ := h.units i x hx
  refine ⟨b, off, al, cl, ac, cc, e, by omega, ⟨hu.nums, hu.few, hu.caps, fun j y hy => ?_, fun j y hy => ?_⟩, r⟩
  ·obtain ⟨h1, b, off, e, hb, r⟩ := hu.locals j y hy
   exact ⟨h1, b, off, e, by omega, r⟩
  ·obtain ⟨h1, h2, h3, b, off, e, hb, r⟩ := hu.code j y hy
   exact ⟨h1, h2, h3, b, off, e, by omega, r⟩
theorem UnIn.mono {B C : Nat} {w : World} {u : Vf.Un} {al ac : Option Addr} {cl cc : Nat} (hu : UnIn B w u al ac cl cc) (hB : B ≤ C) : UnIn C w u al ac cl cc := by
 refine ⟨hu.nums, hu.few, hu.caps, fun j y hy => ?_, fun j y hy => ?_⟩
 ·obtain ⟨h1, b, off, e, hb, r⟩ := hu.locals j y hy
  exact ⟨h1, b, off, e, by omega, r⟩
 ·obtain ⟨h1, h2, h3, b, off, e, hb, r⟩ := hu.code j y hy
  exact ⟨h1, h2, h3, b, off, e, by omega, r⟩
theorem shapes1_any (c : FC) (B : Nat) (w : World) (hmd : Hid (ModIn B w c.m c.ab c.au)) (hun : Hid (UnIn B w c.u c.al c.ac c.cl c.cc)) (hB : B ≤ w.heap.size) (hmu : c.m.units.length ≤ 30) (er num : Int) (hr : Hid ((er, num) = ((Vf.shapeF c.m c.u).1, ((Vf.shapeF c.m c.u).2 : Int)))) :
  Calls Tryz.prog 47 #[utV c] w fun e w' => w.grownBy w' none ∧ Thrown er num e := by
 obtain ⟨y0, y1, y2, y3, y4, y5, y6, y7⟩ := ut_cells (heap_alloc_new w (utO c))
 have HT : Hid (w.grownBy (w.alloc (utO c)) none) := grown0_new (World.grownBy.refl _ _) _
 have HM1 : Hid (ModIn B (w.alloc (utO c)) c.m c.ab c.au) := hmd.out.low (low0 HT.out hB)
 have HU1 : Hid (UnIn B (w.alloc (utO c)) c.u c.al c.ac c.cl c.cc) := hun.out.low (low0 HT.out hB)
 obtain ⟨eh, heh⟩ : ∃ eh, eh = Vf.headE c.m c.u := ⟨_, rfl⟩
 have HH := hide heh
 have HR : Hid ((er, num) = if eh = 0 then ((Vf.firstE (Vf.formE c.m c.u) c.u.code 0).1, ((Vf.firstE (Vf.formE c.m c.u) c.u.code 0).2 : Int)) else (eh, 0)) := by
  unfold Hid
  rw [hr.out, Vf.shapeF, ← heh]
  split <;> rfl
 clear hr heh
 go_enter Tryz.func47, Tryz.ntmps47
 go_wp2_with fail
 refine (head_any c B _ HM1 HU1 (by simp; omega) hmu eh HH).mono ?_
 rintro e w1 ⟨hg1, he⟩
 have HG1 : Hid (w.grownBy w1 none) := grown0_tr' HT.out hg1
 have hub : w1.heap[w.heap.size]? = some (utO c) := (kept0 hg1 (by simp)).trans (heap_alloc_new w _)
 by_cases h0 : eh = 0
 ·obtain rfl : e = .returned (.tuple #[]) := by rw [if_pos h0] at he; exact he
  have HR2 : Hid ((er, num) = ((Vf.firstE (Vf.formE c.m c.u) c.u.code 0).1, ((Vf.firstE (Vf.formE c.m c.u) c.u.code 0).2 : Int))) := by have := HR.out; rw [if_pos h0] at this; exact this
  obtain ⟨x0, x1, x2, x3, x4, x5, x6, x7⟩ := ut_cells hub
  have HM2 : Hid (ModIn B w1 c.m c.ab c.au) := hmd.out.low (low0 HG1.out hB)
  have HU2 : Hid (UnIn B w1 c.u c.al c.ac c.cl c.cc) := hun.out.low (low0 HG1.out hB)
  have hz := HG1.out.size
  clear he hg1 hub h0 y0 y1 y2 y3 y4 y5 y6 y7
  go_wp2_with fail
  refine (forms_any c B _ HM2 HU2 (by omega) er num HR2).mono ?_
  rintro e w2 ⟨hg2, he2⟩
  have HG2 : Hid (w.grownBy w2 none) := grown0_tr' HG1.out hg2
  clear hg2
  by_cases h1 : er = 0
  ·obtain rfl : e = .returned (.tuple #[]) := by rw [if_pos h1] at he2; exact he2
   have HE : Hid (Thrown er num (.returned (.tuple #[]))) := he2
   clear he2 h1
   go_wp2
   go_end0
   exact ⟨HG2.out, HE.out⟩
  ·obtain rfl : e = .panicked [fltE er num] := by rw [if_neg h1] at he2; exact he2
   have HE : Hid (Thrown er num (.panicked [fltE er num])) := he2
   clear he2 h1
   go_wp2
   exact ⟨rfl, HG2.out, HE.out⟩
 ·obtain rfl : e = .panicked [fltE eh 0] := by rw [if_neg h0] at he; exact he
  have HR2 : Hid (er = eh ∧ num = 0) := by have := HR.out; rw [if_neg h0] at this; cases this; exact ⟨rfl, rfl⟩
  have HE : Hid (Thrown eh 0 (.panicked [fltE eh 0])) := he
  clear he hg1 hub h0
  go_wp2
  rw [HR2.out.1, HR2.out.2]
  exact ⟨rfl, HG1.out, HE.out⟩
theorem flows1_any (c : FC) (B : Nat) (w : World) (hmd : Hid (ModIn B w c.m c.ab c.au)) (hun : Hid (UnIn B w c.u c.al c.ac c.cl c.cc)) (hB : B ≤ w.heap.size) (hR : Hid (Rt c.m)) (hu : Hid (Vf.headE c.m c.u = 0)) (hfo : Hid (Vf.Forms c.m c.u)) (er num : Int) (hr : Hid ((er, num) = ((Vf.flowF c.m c.u).1, ((Vf.flowF c.m c.u).2 : Int)))) :
  Calls Tryz.prog 50 #[utV c] w fun e w' => w.grownBy w' none ∧ Thrown er num e := by
 have hmm : ∀ w : World, (Instr.makeMap 109 Option.none).run Tryz.prog w = .ok (.map (some w.heap.size)) (w.alloc (.map #[] 0)) := fun _ => rfl
 obtain ⟨W, hW⟩ : ∃ W : World, ((w.alloc (utO c)).alloc (.map #[] 0)).alloc (flO { c with M := w.heap.size + 1 } none [] Vf.Fl.none 0 (.slice none 0 0)) = W := ⟨_, rfl⟩
 have hT : w.grownBy W none := by rw [← hW]; exact grown0_new (two_new _ _ _) _
 have hFb : W.heap[w.heap.size + 1 + 1]? = some (flO { c with M := w.heap.size + 1 } none [] Vf.Fl.none 0 (.slice none 0 0)) := by
  have e : ((w.alloc (utO c)).alloc (.map #[] 0)).heap.size = w.heap.size + 1 + 1 := by simp
  rw [← hW, ← e]
  exact heap_alloc_new _ _
 have H0 : Hid (FlIn { c with M := w.heap.size + 1 } W (w.heap.size + 1 + 1) none [] Vf.Fl.none 0 (.slice none 0 0)) := ⟨hFb, rfl⟩
 have HE : Hid (Env { c with M := w.heap.size + 1 } w.heap.size (w.heap.size + 1 + 1) W) := ⟨(hmd.out.mono hB).low (low0 hT (Nat.le_refl _)), (hun.out.mono hB).low (low0 hT (Nat.le_refl _)), by omega, lt_of_block hFb⟩
 have HC : Hid (ComeIn W (w.heap.size + 1) (fun _ => none)) := by
  have h1 := (ComeIn.new (w.alloc (utO c))).alloc (flO { c with M := w.heap.size + 1 } none [] Vf.Fl.none 0 (.slice none 0 0))
  have e : (w.alloc (utO c)).heap.size = w.heap.size + 1 := by simp
  rw [e, hW] at h1
  exact h1
 have HT := hide hT
 have HW := hide hW
 clear hW hT hFb
 go_enter Tryz.func50, Tryz.ntmps50
 go_wp2_with fail
 rw [show ((w.alloc (utO c)).alloc (.map #[] 0)).alloc (.cells #[.slice c.ab c.m.boxes.length c.cb, .slice c.au c.m.units.length c.cu, .int .i64 c.u.kind, .int .i64 c.u.params, .slice c.al c.u.locals.length c.cl, .int .i64 c.u.result, .int .i64 c.u.takes, .slice c.ac c.u.code.length c.cc, .pointer none, .int .i64 0, .int .u64 0, .int .u64 0, .int .u64 0, .int .u64 0, .int .i64 0, .slice none 0 0, .map (some (w.heap.size + 1))] 119) = W from HW.out]
 refine (whole_any { c with M := w.heap.size + 1 } w.heap.size (w.heap.size + 1 + 1) _ H0 HE HC (by simp) hR hu hfo er num hr).mono ?_
 rintro e w1 ⟨hb1, he⟩
 have HG1 : Hid (w.grownBy w1 none) := ⟨hb1.os.trans HT.out.os, hb1.tape.trans HT.out.tape, hb1.output.trans HT.out.output, Nat.le_trans HT.out.size (by have := hb1.size; exact this), fun k hk _ => (hb1.block k hk).trans (HT.out.block k hk (by simp))⟩
 clear hb1
 by_cases h1 : er = 0
 ·obtain rfl : e = .returned (.tuple #[]) := by unfold Thrown at he; rw [if_pos h1] at he; exact he
  have HX : Hid (Thrown er num (.returned (.tuple #[]))) := he
  clear he h1
  go_wp2
  go_end0
  exact ⟨HG1.out, HX.out⟩
 ·obtain rfl : e = .panicked [fltE er num] := by unfold Thrown at he; rw [if_neg h1] at he; exact he
  have HX : Hid (Thrown er num (.panicked [fltE er num])) := he
  clear he h1
  go_wp2
  exact ⟨rfl, HG1.out, HX.out⟩
namespace Vf
def eachW (f : Un → Int × Nat) : List Un → Nat → Int × Int × Int
 | [], _ => (0, 0, 0)
 | u :: l, k => if (f u).1 = 0 then eachW f l (k + 1) else ((f u).1, (k : Int), ((f u).2 : Int))
theorem firstE_zero {α : Type} (f : α → Int) : ∀ (l : List α) (k : Nat), (firstE f l k).1 = 0 → (firstE f l k).2 = 0
 | [], _, _ => rfl
 | x :: l, k, h => by
  unfold firstE at h ⊢
  split at h
  ·rename_i hx
   rw [if_pos hx]
   exact firstE_zero f l (k + 1) h
  ·rename_i hx
   exact absurd h hx
theorem shapeF_zero {m : Md} {u : Un} (h : (shapeF m u).1 = 0) : (shapeF m u).2 = 0 := by
 unfold shapeF at h ⊢
 split
 ·rename_i hh
  rw [if_pos hh] at h
  exact firstE_zero _ _ _ h
 ·rfl
theorem flow_zero {m : Md} {u : Un} : ∀ (f : Nat) (s : S), (flow m u f s).1 = 0 → (flow m u f s).2 = 0
 | 0, _, _ => rfl
 | f + 1, s, h => by
  unfold flow at h ⊢
  split
  ·rfl
  ·rename_i n row hrow
   rw [hrow] at h
   simp only at h
   split
   ·rename_i e he
    rw [he] at h
    exact absurd h (look_nz _ _ _ _ e he)
   ·rename_i s' hs
    rw [hs] at h
    exact flow_zero f s' h
end Vf
theorem each_drop (f : Vf.Un → Int × Nat) {l : List Vf.Un} {k : Nat} {x : Vf.Un} (h : l[k]? = some x) : Vf.eachW f (l.drop k) k = if (f x).1 = 0 then Vf.eachW f (l.drop (k + 1)) (k + 1) else ((f x).1, (k : Int), ((f x).2 : Int)) := by
 obtain ⟨hk, rfl⟩ := List.getElem?_eq_some_iff.1 h
 rw [List.drop_eq_getElem_cons hk]
 rfl
abbrev lkO (g : FuncId) : Obj := .cells #[.func (.func g) #[] #[]] 108 (0, 0)
abbrev whV (er un num : Int) : Value := .agg #[.int .i64 er, .int .i64 un, .int .i64 num]
abbrev whZ : Obj := .cells #[.int .i64 0, .int .i64 0, .int .i64 0] 70 (0, 0)
theorem md_cells {w : World} {N : Nat} {m : Vf.Md} {ab au : Option Addr} {cb cu : Nat} (h : w.heap[N]? = some (mdO m ab au cb cu)) :
  w.cell? ⟨N, 0, none⟩ = some (.slice ab m.boxes.length cb) ∧ w.cell? ⟨N, 1, none⟩ = some (.slice au m.units.length cu) := by
 simp [World.cell?, h]
theorem wh_cells {w : World} {N : Nat} {a b c : Value} (h : w.heap[N]? = some (.cells #[a, b, c] 70 (0, 0))) :
  (w.cell? ⟨N, 0, none⟩ = some a ∧ w.cell? ⟨N, 1, none⟩ = some b ∧ w.cell? ⟨N, 2, none⟩ = some c) ∧ w.frozen? ⟨N, 0, none⟩ = false ∧ w.frozen? ⟨N, 1, none⟩ = false ∧ w.frozen? ⟨N, 2, none⟩ = false := by
 simp [World.cell?, World.frozen?, h]
structure E1 (g : FuncId) (c : FC) (LB MB UB : Nat) (w : World) : Prop where
 lk : w.heap[LB]? = some (lkO g)
 md : w.heap[MB]? = some (mdO c.m c.ab c.au c.cb c.cu)
 un : w.heap[UB]? = some (unO c.u c.al c.ac c.cl c.cc)
theorem each1S (c : FC) (B LB MB UB : Nat) (w : World) (h : Hid (E1 47 c LB MB UB w)) (hmd : Hid (ModIn B w c.m c.ab c.au)) (hun : Hid (UnIn B w c.u c.al c.ac c.cl c.cc)) (hB : B ≤ w.heap.size) (hmu : c.m.units.length ≤ 30) (er num : Int) (hr : Hid ((er, num) = ((Vf.shapeF c.m c.u).1, ((Vf.shapeF c.m c.u).2 : Int)))) :
  Calls Tryz.prog 59 #[.pointer (some ⟨LB, 0, none⟩), .pointer (some ⟨MB, 0, none⟩), .pointer (some ⟨UB, 0, none⟩)] w fun e w' => w.grownBy w' none ∧ Thrown er num e := by
 have l0 : w.cell? ⟨LB, 0, none⟩ = some (.func (.func 47) #[] #[]) := by simp [World.cell?, h.out.lk]
 obtain ⟨m0, m1⟩ := md_cells h.out.md
 obtain ⟨u0, u1, u2, u3, u4, u5⟩ := six_cells h.out.un
 go_enter Tryz.func59, Tryz.ntmps59
 go_wp2_with fail
 refine (shapes1_any c B _ hmd hun hB hmu er num hr).mono ?_
 rintro e w1 ⟨hg1, he⟩
 have HG1 := hide hg1
 clear hg1 l0 m0 m1 u0 u1 u2 u3 u4 u5
 by_cases h1 : er = 0
 ·obtain rfl : e = .returned (.tuple #[]) := by unfold Thrown at he; rw [if_pos h1] at he; exact he
  have HX : Hid (Thrown er num (.returned (.tuple #[]))) := he
  clear he h1
  go_wp2
  go_end0
  exact ⟨HG1.out, HX.out⟩
 ·obtain rfl : e = .panicked [fltE er num] := by unfold Thrown at he; rw [if_neg h1] at he; exact he
  have HX : Hid (Thrown er num (.panicked [fltE er num])) := he
  clear he h1
  go_wp2
  exact ⟨rfl, HG1.out, HX.out⟩
theorem each1F (c : FC) (B LB MB UB : Nat) (w : World) (h : Hid (E1 50 c LB MB UB w)) (hmd : Hid (ModIn B w c.m c.ab c.au)) (hun : Hid (UnIn B w c.u c.al c.ac c.cl c.cc)) (hB : B ≤ w.heap.size) (hR : Hid (Rt c.m)) (hu : Hid (Vf.headE c.m c.u = 0)) (hfo : Hid (Vf.Forms c.m c.u)) (er num : Int) (hr : Hid ((er, num) = ((Vf.flowF c.m c.u).1, ((Vf.flowF c.m c.u).2 : Int)))) :
  Calls Tryz.prog 59 #[.pointer (some ⟨LB, 0, none⟩), .pointer (some ⟨MB, 0, none⟩), .pointer (some ⟨UB, 0, none⟩)] w fun e w' => w.grownBy w' none ∧ Thrown er num e := by
 have l0 : w.cell? ⟨LB, 0, none⟩ = some (.func (.func 50) #[] #[]) := by simp [World.cell?, h.out.lk]
 obtain ⟨m0, m1⟩ := md_cells h.out.md
 obtain ⟨u0, u1, u2, u3, u4, u5⟩ := six_cells h.out.un
 go_enter Tryz.func59, Tryz.ntmps59
 go_wp2_with fail
 refine (flows1_any c B _ hmd hun hB hR hu hfo er num hr).mono ?_
 rintro e w1 ⟨hg1, he⟩
 have HG1 := hide hg1
 clear hg1 l0 m0 m1 u0 u1 u2 u3 u4 u5
 by_cases h1 : er = 0
 ·obtain rfl : e = .returned (.tuple #[]) := by unfold Thrown at he; rw [if_pos h1] at he; exact he
  have HX : Hid (Thrown er num (.returned (.tuple #[]))) := he
  clear he h1
  go_wp2
  go_end0
  exact ⟨HG1.out, HX.out⟩
 ·obtain rfl : e = .panicked [fltE er num] := by unfold Thrown at he; rw [if_neg h1] at he; exact he
  have HX : Hid (Thrown er num (.panicked [fltE er num])) := he
  clear he h1
  go_wp2
  exact ⟨rfl, HG1.out, HX.out⟩
structure EaAt (f : Vf.Un → Int × Nat) (l : List Vf.Un) (w0 : World) (er un num : Int) (k : Nat) (W : World) : Prop where
 le : k ≤ l.length
 grown : w0.grownBy W none
 rest : (er, un, num) = Vf.eachW f (l.drop k) k
theorem new1 (w : World) (a b : Obj) : ((w.alloc a).alloc b).heap[w.heap.size + 1]? = some b := by
 have e : (w.alloc a).heap.size = w.heap.size + 1 := by simp
 rw [← e]
 exact heap_alloc_new _ _
theorem new2 (w : World) (a b c : Obj) : (((w.alloc a).alloc b).alloc c).heap[w.heap.size + 1 + 1]? = some c := by
 have e : ((w.alloc a).alloc b).heap.size = w.heap.size + 1 + 1 := by simp
 rw [← e]
 exact heap_alloc_new _ _
theorem three_new (w : World) (a b c : Obj) : w.grownBy (((w.alloc a).alloc b).alloc c) none ∧ (((w.alloc a).alloc b).alloc c).heap[w.heap.size]? = some a ∧ (((w.alloc a).alloc b).alloc c).heap[w.heap.size + 1]? = some b ∧ (((w.alloc a).alloc b).alloc c).heap[w.heap.size + 1 + 1]? = some c :=
 ⟨grown0_new (two_new _ _ _) _, (Below.heap_alloc _ _ _ (by simp; omega)).trans ((Below.heap_alloc _ _ _ (by simp)).trans (heap_alloc_new _ _)), (Below.heap_alloc _ _ _ (by simp)).trans (new1 _ _ _), new2 _ _ _ _⟩
theorem wh_set {w : World} {N : Nat} {a b c : Value} (h : w.heap[N]? = some (.cells #[a, b, c] 70 (0, 0))) (x y z : Value) : (((w.setCell ⟨N, 0, none⟩ x).setCell ⟨N, 1, none⟩ y).setCell ⟨N, 2, none⟩ z).heap[N]? = some (.cells #[x, y, z] 70 (0, 0)) := by
 simp only [World.setCell, Array.getElem?_modify, if_true, h, Option.map_some]
 rfl
theorem grown0_setN {w w' : World} {N : Nat} (h : w.grownBy w' none) (hN : w.heap.size ≤ N) (o : Nat) (v : Value) : w.grownBy (w'.setCell ⟨N, o, none⟩ v) none :=
 ⟨h.os, h.tape, h.output, by have := h.size; simp [World.setCell]; omega, fun k hk hne => by
  rw [Below.heap_setCell _ ⟨N, o, none⟩ _ _ (by show k ≠ N; omega)]
  exact h.block k hk hne⟩
theorem eachS (m : Vf.Md) (ab au : Option Addr) (cb cu B : Nat) (w : World) (hmd : Hid (ModIn B w m ab au)) (hB : B ≤ w.heap.size) (hmu : m.units.length ≤ 30)  (er un num : Int) (hr : Hid ((er, un, num) = Vf.eachW (Vf.shapeF m) m.units 0)) :
  Calls Tryz.prog 46 #[mdV m ab au cb cu, .func (.func 47) #[] #[]] w fun e w' => e = .returned (whV er un num) ∧ w.grownBy w' none := by
 have hmf : ∀ (fn : Fn) (first cap : Array Value) (w : World), (Instr.makeFunc fn first cap).run Tryz.prog w = .ok (.func fn first cap) w := fun _ _ _ _ => rfl
 obtain ⟨W0, hW0⟩ : ∃ W0 : World, ((w.alloc (mdO m ab au cb cu)).alloc (lkO 47)).alloc whZ = W0 := ⟨_, rfl⟩
 obtain ⟨t0, t1, t2, t3⟩ := three_new w (mdO m ab au cb cu) (lkO 47) whZ
 rw [hW0] at t0 t1 t2 t3
 have HT0 := hide t0
 have HT1 := hide t1
 have HT2 := hide t2
 have HT3 := hide t3
 have HW0 := hide hW0
 clear t0 t1 t2 t3 hW0
 go_enter Tryz.func46, Tryz.ntmps46
 go_wp2
 go_loopw [12] (fun v wr => ∃ k : Nat, v = .int .i64 k ∧ EaAt (Vf.shapeF m) m.units W0 er un num k wr) (fun v _ => m.units.length - (intOf v).toNat)
 case atStart => exact ⟨0, rfl, Nat.zero_le _, by rw [← HW0.out]; exact World.grownBy.refl _ _, hr.out⟩
 case round =>
  obtain ⟨k, rfl, hA⟩ := hrel
  have HA := hide hA
  have hk := hA.le
  have HG : Hid (w.grownBy wr none) := grown0_tr' HT0.out HA.out.grown
  have hz := HG.out.size
  have hwh : wr.heap[w.heap.size + 1 + 1]? = some whZ := (kept0 HA.out.grown (lt_of_block HT3.out)).trans HT3.out
  have HWH := hide hwh
  have hlk : wr.heap[w.heap.size + 1]? = some (lkO 47) := (kept0 HA.out.grown (lt_of_block HT2.out)).trans HT2.out
  have hmb : wr.heap[w.heap.size]? = some (mdO m ab au cb cu) := (kept0 HA.out.grown (lt_of_block HT1.out)).trans HT1.out
  have HLK := hide hlk
  have HMB := hide hmb
  have hsz2 : w.heap.size + 1 + 1 < wr.heap.size := lt_of_block hwh
  obtain ⟨⟨z0, z1, z2⟩, y0, y1, y2⟩ := wh_cells hwh
  clear hA hwh hlk hmb
  by_cases hlt : k < m.units.length
  ·obtain ⟨u, hu⟩ : ∃ u, m.units[k]? = some u := ⟨_, List.getElem?_eq_getElem hlt⟩
   have hmdr : ModIn B wr m ab au := hmd.out.low (low0 HG.out hB)
   obtain ⟨b, off, al, cl, ac, cc, ha, hb, hui, u0, u1, u2, u3, u4, u5⟩ := hmdr.units k u hu
   have HU := hide hu
   have HMD := hide hmdr
   have HUI := hide hui
   have hk1 : (k : Int) < (m.units.length : Int) := by omega
   obtain ⟨e1, n1, hen⟩ : ∃ (e1 : Int) (n1 : Nat), e1 = (Vf.shapeF m u).1 ∧ n1 = (Vf.shapeF m u).2 := ⟨_, _, rfl, rfl⟩
   have HEN := hide hen
   have HZ : Hid (e1 = 0 → (n1 : Int) = 0) := fun h0 => by
    have := Vf.shapeF_zero (show (Vf.shapeF m u).1 = 0 by rw [← hen.1]; exact h0)
    have h2 : (Vf.shapeF m u).2 = 0 := this
    rw [hen.2, h2]
    rfl
   have HN : Hid ((er, un, num) = if e1 = 0 then Vf.eachW (Vf.shapeF m) (m.units.drop (k + 1)) (k + 1) else (e1, (k : Int), (n1 : Int))) := by
    unfold Hid
    rw [HA.out.rest, each_drop _ hu, hen.1, hen.2]
   have HAU := hide ha
   clear hu hmdr hui hen ha
   rw [HAU.out]
   go_wp2_with fail
   obtain ⟨W1, hW1⟩ : ∃ W1 : World, W1 = wr.alloc (unO u al ac cl cc) := ⟨_, rfl⟩
   have HG1 : Hid (wr.grownBy W1 none) := by rw [hW1]; exact grown0_new (World.grownBy.refl _ _) _
   have HE1 : Hid (E1 47 ⟨m, u, ab, au, al, ac, cb, cu, cl, cc, 0⟩ (w.heap.size + 1) w.heap.size wr.heap.size (W1.alloc Z2C)) :=
    ⟨(Below.heap_alloc _ _ _ (by have := HG1.out.size; omega)).trans ((kept0 HG1.out (by omega)).trans HLK.out), (Below.heap_alloc _ _ _ (by have := HG1.out.size; omega)).trans ((kept0 HG1.out (by omega)).trans HMB.out), by
     have h1 : W1.heap[wr.heap.size]? = some (unO u al ac cl cc) := by rw [hW1]; exact heap_alloc_new _ _
     exact (Below.heap_alloc _ _ _ (lt_of_block h1)).trans h1⟩
   have HG2 : Hid (wr.grownBy (W1.alloc Z2C) none) := grown0_new HG1.out _
   have HW1 := hide hW1.symm
   rw [HW1.out]
   clear hW1
   refine (caught_any 59 #[.pointer (some ⟨w.heap.size + 1, 0, none⟩), .pointer (some ⟨w.heap.size, 0, none⟩), .pointer (some ⟨wr.heap.size, 0, none⟩)] e1 (n1 : Int) (fun wx => (W1.alloc Z2C).grownBy wx none) _ HZ.out ?_ ?_).mono ?_
   ·intro w'
    first | rfl | kernel_rfl | simp [go_sem]
   ·refine (each1S ⟨m, u, ab, au, al, ac, cb, cu, cl, cc, 0⟩ B (w.heap.size + 1) w.heap.size wr.heap.size _ HE1 (hide (HMD.out.low (low0 HG2.out (by omega)))) (hide (HUI.out.low (low0 HG2.out (by omega)))) (by have := HG2.out.size; omega) hmu e1 (n1 : Int) (hide (by rw [HEN.out.1, HEN.out.2]))).mono ?_
    rintro e wx ⟨hgx, hex⟩
    exact ⟨hgx, (kept0 hgx (by simp)).trans (heap_alloc_new _ _), hex⟩
   rintro e w2 ⟨rfl, wx, hgx, hzx, rfl⟩
   have HG3 : Hid (wr.grownBy ((wx.setCell ⟨W1.heap.size, 0, none⟩ (.int .i64 e1)).setCell ⟨W1.heap.size, 1, none⟩ (.int .i64 (n1 : Int))) none) := grown0_setN (grown0_setN (grown0_tr' HG2.out hgx) (by have := HG1.out.size; omega) _ _) (by have := HG1.out.size; omega) _ _
   obtain ⟨W3, hW3⟩ : ∃ W3 : World, (wx.setCell ⟨W1.heap.size, 0, none⟩ (.int .i64 e1)).setCell ⟨W1.heap.size, 1, none⟩ (.int .i64 (n1 : Int)) = W3 := ⟨_, rfl⟩
   rw [hW3] at HG3
   have HW3 := hide hW3
   rw [HW3.out]
   have hwh3 : W3.heap[w.heap.size + 1 + 1]? = some whZ := (kept0 HG3.out (by omega)).trans HWH.out
   have HWH3 := hide hwh3
   obtain ⟨⟨p0, p1, p2⟩, q0, q1, q2⟩ := wh_cells hwh3
   have hz3 := HG3.out.size
   have hsz3 : w.heap.size + 1 + 1 < W3.heap.size := by omega
   clear hgx hzx hwh3 hW3 z0 z1 z2 y0 y1 y2 u0 u1 u2 u3 u4 u5
   by_cases h0 : e1 = 0
   ·have e0 : (e1 != 0) = false := by simpa using h0
    have HN2 : Hid ((er, un, num) = Vf.eachW (Vf.shapeF m) (m.units.drop (k + 1)) (k + 1)) := by have := HN.out; rw [if_pos h0] at this; exact this
    clear h0
    go_wp2
    go_roundw
    case rel => exact ⟨k + 1, by go_num, hlt, grown0_new (grown0_tr' HA.out.grown HG3.out) _, HN2.out⟩
    case measure => simp [intOf]; omega
   ·have e0 : (e1 != 0) = true := by simpa using h0
    have HN2 : Hid (er = e1 ∧ un = (k : Int) ∧ num = (n1 : Int)) := by have := HN.out; rw [if_neg h0] at this; cases this; exact ⟨rfl, rfl, rfl⟩
    clear h0
    go_wp2
    have hX := wh_set HWH3.out (.int .i64 e1) (.int .i64 (k : Int)) (.int .i64 (n1 : Int))
    obtain ⟨⟨g0, g1, g2⟩, _⟩ := wh_cells ((Below.heap_alloc _ (.cells #[.int .i64 e1, .int .i64 (n1 : Int)] 136) _ (lt_of_block hX)).trans hX)
    refine bodyPost_ret (v := whV e1 (k : Int) (n1 : Int)) (by simp [results, Tryz.results46, go_sem, g0, g1, g2]) rfl ?_
    rw [HN2.out.1, HN2.out.2.1, HN2.out.2.2]
    exact ⟨rfl, grown0_new (grown0_setN (grown0_setN (grown0_setN (grown0_tr' HG.out HG3.out) (by omega) _ _) (by omega) _ _) (by omega) _ _) _⟩
  ·have HN2 : Hid (er = 0 ∧ un = 0 ∧ num = 0) := by
    have := HA.out.rest
    rw [List.drop_eq_nil_of_le (by omega)] at this
    cases this
    exact ⟨rfl, rfl, rfl⟩
   go_wp2
   refine bodyPost_ret (v := whV 0 0 0) (by simp [results, Tryz.results46, go_sem, z0, z1, z2]) rfl ?_
   rw [HN2.out.1, HN2.out.2.1, HN2.out.2.2]
   exact ⟨rfl, grown0_setN (grown0_setN (grown0_setN HG.out (by omega) _ _) (by omega) _ _) (by omega) _ _⟩
theorem eachF (m : Vf.Md) (ab au : Option Addr) (cb cu B : Nat) (w : World) (hmd : Hid (ModIn B w m ab au)) (hB : B ≤ w.heap.size) (hmu : m.units.length ≤ 30) (hR : Hid (Rt m)) (er un num : Int) (hr : Hid ((er, un, num) = Vf.eachW (Vf.flowF m) m.units 0)) :
  Calls Tryz.prog 46 #[mdV m ab au cb cu, .func (.func 50) #[] #[]] w fun e w' => e = .returned (whV er un num) ∧ w.grownBy w' none := by
 have hmf : ∀ (fn : Fn) (first cap : Array Value) (w : World), (Instr.makeFunc fn first cap).run Tryz.prog w = .ok (.func fn first cap) w := fun _ _ _ _ => rfl
 obtain ⟨W0, hW0⟩ : ∃ W0 : World, ((w.alloc (mdO m ab au cb cu)).alloc (lkO 50)).alloc whZ = W0 := ⟨_, rfl⟩
 obtain ⟨t0, t1, t2, t3⟩ := three_new w (mdO m ab au cb cu) (lkO 50) whZ
 rw [hW0] at t0 t1 t2 t3
 have HT0 := hide t0
 have HT1 := hide t1
 have HT2 := hide t2
 have HT3 := hide t3
 have HW0 := hide hW0
 clear t0 t1 t2 t3 hW0
 go_enter Tryz.func46, Tryz.ntmps46
 go_wp2
 go_loopw [12] (fun v wr => ∃ k : Nat, v = .int .i64 k ∧ EaAt (Vf.flowF m) m.units W0 er un num k wr) (fun v _ => m.units.length - (intOf v).toNat)
 case atStart => exact ⟨0, rfl, Nat.zero_le _, by rw [← HW0.out]; exact World.grownBy.refl _ _, hr.out⟩
 case round =>
  obtain ⟨k, rfl, hA⟩ := hrel
  have HA := hide hA
  have hk := hA.le
  have HG : Hid (w.grownBy wr none) := grown0_tr' HT0.out HA.out.grown
  have hz := HG.out.size
  have hwh : wr.heap[w.heap.size + 1 + 1]? = some whZ := (kept0 HA.out.grown (lt_of_block HT3.out)).trans HT3.out
  have HWH := hide hwh
  have hlk : wr.heap[w.heap.size + 1]? = some (lkO 50) := (kept0 HA.out.grown (lt_of_block HT2.out)).trans HT2.out
  have hmb : wr.heap[w.heap.size]? = some (mdO m ab au cb cu) := (kept0 HA.out.grown (lt_of_block HT1.out)).trans HT1.out
  have HLK := hide hlk
  have HMB := hide hmb
  have hsz2 : w.heap.size + 1 + 1 < wr.heap.size := lt_of_block hwh
  obtain ⟨⟨z0, z1, z2⟩, y0, y1, y2⟩ := wh_cells hwh
  clear hA hwh hlk hmb
  by_cases hlt : k < m.units.length
  ·obtain ⟨u, hu⟩ : ∃ u, m.units[k]? = some u := ⟨_, List.getElem?_eq_getElem hlt⟩
   have hmdr : ModIn B wr m ab au := hmd.out.low (low0 HG.out hB)
   obtain ⟨b, off, al, cl, ac, cc, ha, hb, hui, u0, u1, u2, u3, u4, u5⟩ := hmdr.units k u hu
   have HU := hide hu
   have HMD := hide hmdr
   have HUI := hide hui
   have hk1 : (k : Int) < (m.units.length : Int) := by omega
   obtain ⟨e1, n1, hen⟩ : ∃ (e1 : Int) (n1 : Nat), e1 = (Vf.flowF m u).1 ∧ n1 = (Vf.flowF m u).2 := ⟨_, _, rfl, rfl⟩
   have HEN := hide hen
   have HZ : Hid (e1 = 0 → (n1 : Int) = 0) := fun h0 => by
    have := Vf.flow_zero (Vf.mu u.code.length (Vf.start u) + 1) (Vf.start u) (show (Vf.flowF m u).1 = 0 by rw [← hen.1]; exact h0)
    have h2 : (Vf.flowF m u).2 = 0 := this
    rw [hen.2, h2]
    rfl
   have HN : Hid ((er, un, num) = if e1 = 0 then Vf.eachW (Vf.flowF m) (m.units.drop (k + 1)) (k + 1) else (e1, (k : Int), (n1 : Int))) := by
    unfold Hid
    rw [HA.out.rest, each_drop _ hu, hen.1, hen.2]
   have HAU := hide ha
   clear hu hmdr hui hen ha
   rw [HAU.out]
   go_wp2_with fail
   obtain ⟨W1, hW1⟩ : ∃ W1 : World, W1 = wr.alloc (unO u al ac cl cc) := ⟨_, rfl⟩
   have HG1 : Hid (wr.grownBy W1 none) := by rw [hW1]; exact grown0_new (World.grownBy.refl _ _) _
   have HE1 : Hid (E1 50 ⟨m, u, ab, au, al, ac, cb, cu, cl, cc, 0⟩ (w.heap.size + 1) w.heap.size wr.heap.size (W1.alloc Z2C)) :=
    ⟨(Below.heap_alloc _ _ _ (by have := HG1.out.size; omega)).trans ((kept0 HG1.out (by omega)).trans HLK.out), (Below.heap_alloc _ _ _ (by have := HG1.out.size; omega)).trans ((kept0 HG1.out (by omega)).trans HMB.out), by
     have h1 : W1.heap[wr.heap.size]? = some (unO u al ac cl cc) := by rw [hW1]; exact heap_alloc_new _ _
     exact (Below.heap_alloc _ _ _ (lt_of_block h1)).trans h1⟩
   have HG2 : Hid (wr.grownBy (W1.alloc Z2C) none) := grown0_new HG1.out _
   have HW1 := hide hW1.symm
   rw [HW1.out]
   clear hW1
   refine (caught_any 59 #[.pointer (some ⟨w.heap.size + 1, 0, none⟩), .pointer (some ⟨w.heap.size, 0, none⟩), .pointer (some ⟨wr.heap.size, 0, none⟩)] e1 (n1 : Int) (fun wx => (W1.alloc Z2C).grownBy wx none) _ HZ.out ?_ ?_).mono ?_
   ·intro w'
    first | rfl | kernel_rfl | simp [go_sem]
   ·refine (each1F ⟨m, u, ab, au, al, ac, cb, cu, cl, cc, 0⟩ B (w.heap.size + 1) w.heap.size wr.heap.size _ HE1 (hide (HMD.out.low (low0 HG2.out (by omega)))) (hide (HUI.out.low (low0 HG2.out (by omega)))) (by have := HG2.out.size; omega) hR (hide (hR.out.heads k u HU.out).1) (hide (hR.out.heads k u HU.out).2) e1 (n1 : Int) (hide (by rw [HEN.out.1, HEN.out.2]))).mono ?_
    rintro e wx ⟨hgx, hex⟩
    exact ⟨hgx, (kept0 hgx (by simp)).trans (heap_alloc_new _ _), hex⟩
   rintro e w2 ⟨rfl, wx, hgx, hzx, rfl⟩
   have HG3 : Hid (wr.grownBy ((wx.setCell ⟨W1.heap.size, 0, none⟩ (.int .i64 e1)).setCell ⟨W1.heap.size, 1, none⟩ (.int .i64 (n1 : Int))) none) := grown0_setN (grown0_setN (grown0_tr' HG2.out hgx) (by have := HG1.out.size; omega) _ _) (by have := HG1.out.size; omega) _ _
   obtain ⟨W3, hW3⟩ : ∃ W3 : World, (wx.setCell ⟨W1.heap.size, 0, none⟩ (.int .i64 e1)).setCell ⟨W1.heap.size, 1, none⟩ (.int .i64 (n1 : Int)) = W3 := ⟨_, rfl⟩
   rw [hW3] at HG3
   have HW3 := hide hW3
   rw [HW3.out]
   have hwh3 : W3.heap[w.heap.size + 1 + 1]? = some whZ := (kept0 HG3.out (by omega)).trans HWH.out
   have HWH3 := hide hwh3
   obtain ⟨⟨p0, p1, p2⟩, q0, q1, q2⟩ := wh_cells hwh3
   have hz3 := HG3.out.size
   have hsz3 : w.heap.size + 1 + 1 < W3.heap.size := by omega
   clear hgx hzx hwh3 hW3 z0 z1 z2 y0 y1 y2 u0 u1 u2 u3 u4 u5
   by_cases h0 : e1 = 0
   ·have e0 : (e1 != 0) = false := by simpa using h0
    have HN2 : Hid ((er, un, num) = Vf.eachW (Vf.flowF m) (m.units.drop (k + 1)) (k + 1)) := by have := HN.out; rw [if_pos h0] at this; exact this
    clear h0
    go_wp2
    go_roundw
    case rel => exact ⟨k + 1, by go_num, hlt, grown0_new (grown0_tr' HA.out.grown HG3.out) _, HN2.out⟩
    case measure => simp [intOf]; omega
   ·have e0 : (e1 != 0) = true := by simpa using h0
    have HN2 : Hid (er = e1 ∧ un = (k : Int) ∧ num = (n1 : Int)) := by have := HN.out; rw [if_neg h0] at this; cases this; exact ⟨rfl, rfl, rfl⟩
    clear h0
    go_wp2
    have hX := wh_set HWH3.out (.int .i64 e1) (.int .i64 (k : Int)) (.int .i64 (n1 : Int))
    obtain ⟨⟨g0, g1, g2⟩, _⟩ := wh_cells ((Below.heap_alloc _ (.cells #[.int .i64 e1, .int .i64 (n1 : Int)] 136) _ (lt_of_block hX)).trans hX)
    refine bodyPost_ret (v := whV e1 (k : Int) (n1 : Int)) (by simp [results, Tryz.results46, go_sem, g0, g1, g2]) rfl ?_
    rw [HN2.out.1, HN2.out.2.1, HN2.out.2.2]
    exact ⟨rfl, grown0_new (grown0_setN (grown0_setN (grown0_setN (grown0_tr' HG.out HG3.out) (by omega) _ _) (by omega) _ _) (by omega) _ _) _⟩
  ·have HN2 : Hid (er = 0 ∧ un = 0 ∧ num = 0) := by
    have := HA.out.rest
    rw [List.drop_eq_nil_of_le (by omega)] at this
    cases this
    exact ⟨rfl, rfl, rfl⟩
   go_wp2
   refine bodyPost_ret (v := whV 0 0 0) (by simp [results, Tryz.results46, go_sem, z0, z1, z2]) rfl ?_
   rw [HN2.out.1, HN2.out.2.1, HN2.out.2.2]
   exact ⟨rfl, grown0_setN (grown0_setN (grown0_setN HG.out (by omega) _ _) (by omega) _ _) (by omega) _ _⟩
theorem shapes_any (m : Vf.Md) (ab au : Option Addr) (cb cu B : Nat) (w : World) (hmd : Hid (ModIn B w m ab au)) (hB : B ≤ w.heap.size) (hmu : m.units.length ≤ 30) (er un num : Int) (hr : Hid ((er, un, num) = Vf.eachW (Vf.shapeF m) m.units 0)) :
  Calls Tryz.prog 33 #[mdV m ab au cb cu] w fun e w' => e = .returned (whV er un num) ∧ w.grownBy w' none := by
 have HT := hide (two_new w (mdO m ab au cb cu) whZ)
 have HM : Hid (ModIn B ((w.alloc (mdO m ab au cb cu)).alloc whZ) m ab au) := hmd.out.low (low0 HT.out hB)
 go_enter Tryz.func33, Tryz.ntmps33
 go_wp2_with fail
 refine (eachS m ab au cb cu B _ HM (by simp; omega) hmu er un num hr).mono ?_
 rintro e w2 ⟨rfl, hg2⟩
 have HG2 : Hid (w.grownBy w2 none) := grown0_tr' HT.out hg2
 have hwh : w2.heap[w.heap.size + 1]? = some whZ := (kept0 hg2 (by simp)).trans (new1 _ _ _)
 obtain ⟨⟨z0, z1, z2⟩, y0, y1, y2⟩ := wh_cells hwh
 clear hg2 hwh
 go_wp2
 refine bodyPost_ret (v := whV er un num) (by simp [results, Tryz.results33, go_sem, z0, z1, z2]) rfl ?_
 exact ⟨rfl, grown0_setN (grown0_setN (grown0_setN HG2.out (by omega) _ _) (by omega) _ _) (by omega) _ _⟩
theorem flows_any (m : Vf.Md) (ab au : Option Addr) (cb cu B : Nat) (w : World) (hmd : Hid (ModIn B w m ab au)) (hB : B ≤ w.heap.size) (hR : Hid (Rt m)) (er un num : Int) (hr : Hid ((er, un, num) = Vf.eachW (Vf.flowF m) m.units 0)) :
  Calls Tryz.prog 35 #[mdV m ab au cb cu] w fun e w' => e = .returned (whV er un num) ∧ w.grownBy w' none := by
 have HT := hide (two_new w (mdO m ab au cb cu) whZ)
 have HM : Hid (ModIn B ((w.alloc (mdO m ab au cb cu)).alloc whZ) m ab au) := hmd.out.low (low0 HT.out hB)
 go_enter Tryz.func35, Tryz.ntmps35
 go_wp2_with fail
 refine (eachF m ab au cb cu B _ HM (by simp; omega) hR.out.units hR er un num hr).mono ?_
 rintro e w2 ⟨rfl, hg2⟩
 have HG2 : Hid (w.grownBy w2 none) := grown0_tr' HT.out hg2
 have hwh : w2.heap[w.heap.size + 1]? = some whZ := (kept0 hg2 (by simp)).trans (new1 _ _ _)
 obtain ⟨⟨z0, z1, z2⟩, y0, y1, y2⟩ := wh_cells hwh
 clear hg2 hwh
 go_wp2
 refine bodyPost_ret (v := whV er un num) (by simp [results, Tryz.results35, go_sem, z0, z1, z2]) rfl ?_
 exact ⟨rfl, grown0_setN (grown0_setN (grown0_setN HG2.out (by omega) _ _) (by omega) _ _) (by omega) _ _⟩
end Go.Proofs.YtekjhefmhhcboaaGreat
