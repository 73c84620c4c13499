/- The walk of opt.newPasses. -/
import Derived.Test.YtlbihbfgglnfnaaM33
namespace Go.Proofs.Ytlbihbfgglnfnaa.Ow
open Go.RowKit Vf Vm Ot

theorem keepB {a b : World} {k : Nat} {o : Obj} (h : Below a.heap.size a b) (hk : a.heap[k]? = some o) : b.heap[k]? = some o := (h.block k (lt_of_block hk)).trans hk
theorem oldO (w : World) (o p : Obj) : ((w.alloc o).alloc p).heap[w.heap.size]? = some o := (Below.heap_alloc _ _ _ (by simp)).trans (heap_alloc_new _ _)
theorem newO (w : World) (o p : Obj) : ((w.alloc o).alloc p).heap[w.heap.size + 1]? = some p := by
  have := heap_alloc_new (w.alloc o) p
  rw [show (w.alloc o).heap.size = w.heap.size + 1 by simp] at this
  exact this
/-- What newPasses answers. -/
structure NewIs (l : List Ins) (w : World) (P : Nat) (w' : World) : Prop where
  all : ∃ lo hi w0 g cap R M W fs, PsIn lo hi w0 P g l.length cap R M W l.length fs (fun _ => false) w' ∧ Ap lo hi P g M W ∧ CdIn g cap W l.length w'.heap.size l w' ∧ g < w'.heap.size ∧ l.length ≤ cap ∧ cap ≤ 9223372036854775807 ∧ w.heap.size ≤ P ∧ w.heap.size ≤ g ∧ w.heap.size ≤ M ∧ w.heap.size ≤ W
  below : Below w.heap.size w w'
theorem new_fin {l : List Ins} {w X1 w1 X2 w2 wE : World} {n g cap R M W P : Nat} {fs : List (Nat × Array Value)} (hn : n = l.length) (hc1 : n ≤ cap) (hc2 : cap ≤ 9223372036854775807) (hg : X1.heap.size ≤ g) (hC : CodeIn w1.heap.size w1 l (some ⟨g, 0, none⟩)) (hBk : Blk w1 g 41 (cap * 3)) (hRl : RlsIn X2.heap.size w2.heap.size w2 R fs)
    (bw : Below w.heap.size w wE) (b1 : Below w1.heap.size w1 wE) (b2 : Below w2.heap.size w2 wE) (hM : wE.heap[M]? = some (.map #[] 0)) (hW : wE.heap[W]? = some (.cells (madeCells #[.int .i64 0] n) 3 (0, 0))) (hP : P = wE.heap.size)
    (s1 : w.heap.size ≤ X1.heap.size) (sM : w.heap.size ≤ M) (sW : w.heap.size ≤ W) (aM : M < X2.heap.size ∨ w2.heap.size ≤ M) (aW : W < X2.heap.size ∨ w2.heap.size ≤ W) (aG : w1.heap.size ≤ X2.heap.size) : NewIs l w P (wE.alloc (psO g n cap R M W n)) := by
  subst hP
  have hgl := hBk.lt
  have l1 := b1.size
  have l2 := b2.size
  have lM := lt_of_block hM
  have lW := lt_of_block hW
  have hMW : M ≠ W := fun e => by subst e; rw [hM] at hW; cases hW
  have gE : wE.heap[g]? = w1.heap[g]? := b1.block g hgl
  obtain ⟨cur, hcur, hcz⟩ := hBk.keep gE
  have hgM : g ≠ M := fun e => by subst e; rw [hM] at hcur; cases hcur
  have hgW : g ≠ W := fun e => by
    subst e
    rw [hW] at hcur
    simp at hcur
  have bE := one_below wE (psO g n cap R M W n)
  have zE : (wE.alloc (psO g n cap R M W n)).heap.size = wE.heap.size + 1 := by simp
  rw [hn] at hc1 hW ⊢
  rw [hn] at bE zE
  have hR2 := hRl.at'
  refine ⟨⟨X2.heap.size, w2.heap.size, w2, g, cap, R, M, W, fs, ⟨heap_alloc_new _ _, hRl, fun j h1 h2 => (bE.block j (by omega)).trans (b2.block j h2), ⟨#[], 0, (bE.block M lM).trans hM, fun _ h => (by cases h), fun _ => ⟨fun _ => rfl, fun h => (by cases h)⟩⟩, by omega⟩, ⟨by omega, by omega, by omega, hgM, hgW, hMW, .inr l2, .inl (by omega), aM, aW⟩, ⟨?_, hBk.keep ((bE.block g (by omega)).trans gE), ⟨_, (bE.block W lW).trans hW, size_madeCells _ _⟩⟩, by omega, hc1, hc2, bw.size, by omega, sM, sW⟩, bw.trans (bE.mono bw.size)⟩
  have h1 := code_keep hC ((bE.block g (by omega)).trans gE)
  intro i x hx
  obtain ⟨a1, a2, a3, b, o, e, hb, c0⟩ := h1 i x hx
  exact ⟨a1, a2, a3, b, o, e, by omega, c0⟩

set_option maxHeartbeats 2000000 in
set_option maxRecDepth 100000 in
theorem newPasses_any (B : Nat) (l : List Ins) (a : Option Addr) (c : Nat) (w : World) (h : Hid (CodeIn B w l a)) (hB : B ≤ w.heap.size) (hl0 : 0 < l.length) (hl : l.length ≤ 4000) :
    Calls Try.prog 22 #[.slice a l.length c] w fun e w' => ∃ P, e = .returned (.pointer (some ⟨P, 0, none⟩)) ∧ NewIs l w P w' := by
  obtain ⟨n, hn⟩ : ∃ n, n = l.length := ⟨_, rfl⟩
  rw [← hn]
  have HN := hide hn
  have n1 : (n : Int) ≤ 4000 := by omega
  have n0 : (0 : Int) ≤ (n : Int) := by omega
  clear hn
  have hmk : ∀ X : World, Sem.run Try.prog (Instr.makeSlice 35 (.int .i64 (n : Int)) (.int .i64 (n : Int))) X = .ok (.slice (some ⟨X.heap.size, 0, none⟩) n n) (X.alloc (.cells (madeCells #[.int .i64 0] n) 3)) := fun X => by
    obtain ⟨i0, hi, z0, z1, z2⟩ := info_partsO Try.infointO
    have := run_makeSlice (P := Try.prog) X 35 3 i0 _ Try.underlying35 hi z0 .i64 .i64 (n : Int) (n : Int) (by omega) (Int.le_refl _) (by rw [z1]; simp; omega) (by rw [z2]; omega) (by omega)
    rw [z1, Int.toNat_natCast, Nat.mul_one] at this
    exact this
  have hmm : ∀ X : World, Sem.run Try.prog (Instr.makeMap mt Option.none) X = .ok (.map (some X.heap.size)) (X.alloc (.map #[] 0)) := fun _ => rfl
  have HB0 : Hid (Below w.heap.size w w.drew) := Below.drew (Below.refl _ _)
  have HB1 : Hid (∀ o, Below w.heap.size w (w.alloc o).drew) := fun o => Below.drew (one_below _ _)
  have HB2 : Hid (∀ o p, Below w.heap.size w ((w.alloc o).alloc p).drew) := fun o p => Below.drew (two_belowO _ _ _)
  have HCP : Hid (∀ X, Below w.heap.size w X → Calls Try.prog 33 #[.slice a n c] X fun e w' => ∃ g c', e = .returned (.slice (some ⟨g, 0, none⟩) n c') ∧ n ≤ c' ∧ c' ≤ 9223372036854775807 ∧ X.heap.size ≤ g ∧ CodeIn w'.heap.size w' l (some ⟨g, 0, none⟩) ∧ Blk w' g 41 (c' * 3) ∧ Below X.heap.size X w') := fun X hX => by
    rw [HN.out]
    exact copied_code B l a c X (hide (code_on h.out hB hX)) hl0 hl
  go_enter Try.func22, Try.ntmps22
  go_wp2
  go_region_with (first | (go_at_call 33; refine (HCP.out _ (by first | exact HB0.out | exact HB1.out _ | exact HB2.out _ _)).mono ?_; rintro e w1 ⟨g, cap, rfl, hc1, hc2, hg, hC, hBk, hb1⟩) | (go_at_call 34; refine (rules_any _).mono ?_; rintro e w2 ⟨R, fs, rfl, hRl, hb2⟩))
  · have l1 := hb1.size
    have l2 := hb2.size
    simp only [World.size_drew] at l1 l2
    go_wp2
    go_ret
    exact ⟨_, rfl, new_fin HN.out hc1 hc2 hg hC hBk hRl (below_onO HB0.out (below_onO hb1 (below_onO (Below.refl _ _) (below_onO hb2 (two_belowO _ _ _))))) (below_onO (Below.refl _ _) (below_onO hb2 (two_belowO _ _ _))) (two_belowO _ _ _) (oldO _ _ _) (newO _ _ _) (by simp) (by first | (simp; done) | (simp; omega) | omega) (by first | (simp; done) | (simp; omega) | omega) (by first | (simp; done) | (simp; omega) | omega) (by first | (simp; done) | (simp; omega) | omega) (by first | (simp; done) | (simp; omega) | omega) (by first | (simp; done) | (simp; omega) | omega)⟩
  · have l1 := hb1.size
    have l2 := hb2.size
    simp only [World.size_drew] at l1 l2
    go_wp2
    go_ret
    exact ⟨_, rfl, new_fin HN.out hc1 hc2 hg hC hBk hRl (below_onO HB0.out (below_onO hb1 (below_onO (Below.refl _ _) (below_onO hb2 (two_belowO _ _ _))))) (below_onO (Below.refl _ _) (below_onO hb2 (two_belowO _ _ _))) (two_belowO _ _ _) (newO _ _ _) (oldO _ _ _) (by simp) (by first | (simp; done) | (simp; omega) | omega) (by first | (simp; done) | (simp; omega) | omega) (by first | (simp; done) | (simp; omega) | omega) (by first | (simp; done) | (simp; omega) | omega) (by first | (simp; done) | (simp; omega) | omega) (by first | (simp; done) | (simp; omega) | omega)⟩
  · have l1 := hb1.size
    have l2 := hb2.size
    simp only [World.size_drew, World.size_alloc] at l1 l2
    go_wp2
    go_ret
    exact ⟨_, rfl, new_fin HN.out hc1 hc2 hg hC hBk hRl (below_onO HB0.out (below_onO hb1 (below_onO (one_below _ _) (below_onO hb2 (one_below _ _))))) (below_onO (one_below _ _) (below_onO hb2 (one_below _ _))) (one_below _ _) (keepB (below_onO hb2 (one_below _ _)) (heap_alloc_new _ _)) (heap_alloc_new _ _) (by simp) (by first | (simp; done) | (simp; omega) | omega) (by first | (simp; done) | (simp; omega) | omega) (by first | (simp; done) | (simp; omega) | omega) (by first | (simp; done) | (simp; omega) | omega) (by first | (simp; done) | (simp; omega) | omega) (by first | (simp; done) | (simp; omega) | omega)⟩
  · have l1 := hb1.size
    have l2 := hb2.size
    simp only [World.size_drew, World.size_alloc] at l1 l2
    go_wp2
    go_ret
    exact ⟨_, rfl, new_fin HN.out hc1 hc2 hg hC hBk hRl (below_onO HB0.out (below_onO hb1 (below_onO (two_belowO _ _ _) (below_onO hb2 (Below.refl _ _))))) (below_onO (two_belowO _ _ _) (below_onO hb2 (Below.refl _ _))) (Below.refl _ _) (keepB (below_onO hb2 (Below.refl _ _)) (oldO _ _ _)) (keepB (below_onO hb2 (Below.refl _ _)) (newO _ _ _)) (by simp) (by first | (simp; done) | (simp; omega) | omega) (by first | (simp; done) | (simp; omega) | omega) (by first | (simp; done) | (simp; omega) | omega) (by first | (simp; done) | (simp; omega) | omega) (by first | (simp; done) | (simp; omega) | omega) (by first | (simp; done) | (simp; omega) | omega)⟩
  · have l1 := hb1.size
    have l2 := hb2.size
    simp only [World.size_drew, World.size_alloc] at l1 l2
    go_wp2
    go_ret
    exact ⟨_, rfl, new_fin HN.out hc1 hc2 hg hC hBk hRl (below_onO HB0.out (below_onO hb1 (below_onO (one_below _ _) (below_onO hb2 (one_below _ _))))) (below_onO (one_below _ _) (below_onO hb2 (one_below _ _))) (one_below _ _) (heap_alloc_new _ _) (keepB (below_onO hb2 (one_below _ _)) (heap_alloc_new _ _)) (by simp) (by first | (simp; done) | (simp; omega) | omega) (by first | (simp; done) | (simp; omega) | omega) (by first | (simp; done) | (simp; omega) | omega) (by first | (simp; done) | (simp; omega) | omega) (by first | (simp; done) | (simp; omega) | omega) (by first | (simp; done) | (simp; omega) | omega)⟩
  · have l1 := hb1.size
    have l2 := hb2.size
    simp only [World.size_drew, World.size_alloc] at l1 l2
    go_wp2
    go_ret
    exact ⟨_, rfl, new_fin HN.out hc1 hc2 hg hC hBk hRl (below_onO HB0.out (below_onO hb1 (below_onO (two_belowO _ _ _) (below_onO hb2 (Below.refl _ _))))) (below_onO (two_belowO _ _ _) (below_onO hb2 (Below.refl _ _))) (Below.refl _ _) (keepB (below_onO hb2 (Below.refl _ _)) (newO _ _ _)) (keepB (below_onO hb2 (Below.refl _ _)) (oldO _ _ _)) (by simp) (by first | (simp; done) | (simp; omega) | omega) (by first | (simp; done) | (simp; omega) | omega) (by first | (simp; done) | (simp; omega) | omega) (by first | (simp; done) | (simp; omega) | omega) (by first | (simp; done) | (simp; omega) | omega) (by first | (simp; done) | (simp; omega) | omega)⟩
  · have l1 := hb1.size
    have l2 := hb2.size
    simp only [World.size_drew, World.size_alloc] at l1 l2
    go_wp2
    go_ret
    exact ⟨_, rfl, new_fin HN.out hc1 hc2 hg hC hBk hRl (below_onO (HB1.out _) (below_onO hb1 (below_onO (Below.refl _ _) (below_onO hb2 (one_below _ _))))) (below_onO (Below.refl _ _) (below_onO hb2 (one_below _ _))) (one_below _ _) (keepB (below_onO hb1 (below_onO (Below.refl _ _) (below_onO hb2 (one_below _ _)))) (heap_alloc_new _ _)) (heap_alloc_new _ _) (by simp) (by first | (simp; done) | (simp; omega) | omega) (by first | (simp; done) | (simp; omega) | omega) (by first | (simp; done) | (simp; omega) | omega) (by first | (simp; done) | (simp; omega) | omega) (by first | (simp; done) | (simp; omega) | omega) (by first | (simp; done) | (simp; omega) | omega)⟩
  · have l1 := hb1.size
    have l2 := hb2.size
    simp only [World.size_drew, World.size_alloc] at l1 l2
    go_wp2
    go_ret
    exact ⟨_, rfl, new_fin HN.out hc1 hc2 hg hC hBk hRl (below_onO (HB1.out _) (below_onO hb1 (below_onO (one_below _ _) (below_onO hb2 (Below.refl _ _))))) (below_onO (one_below _ _) (below_onO hb2 (Below.refl _ _))) (Below.refl _ _) (keepB (below_onO hb1 (below_onO (one_below _ _) (below_onO hb2 (Below.refl _ _)))) (heap_alloc_new _ _)) (keepB (below_onO hb2 (Below.refl _ _)) (heap_alloc_new _ _)) (by simp) (by first | (simp; done) | (simp; omega) | omega) (by first | (simp; done) | (simp; omega) | omega) (by first | (simp; done) | (simp; omega) | omega) (by first | (simp; done) | (simp; omega) | omega) (by first | (simp; done) | (simp; omega) | omega) (by first | (simp; done) | (simp; omega) | omega)⟩
  · have l1 := hb1.size
    have l2 := hb2.size
    simp only [World.size_drew, World.size_alloc] at l1 l2
    go_wp2
    go_ret
    exact ⟨_, rfl, new_fin HN.out hc1 hc2 hg hC hBk hRl (below_onO (HB2.out _ _) (below_onO hb1 (below_onO (Below.refl _ _) (below_onO hb2 (Below.refl _ _))))) (below_onO (Below.refl _ _) (below_onO hb2 (Below.refl _ _))) (Below.refl _ _) (keepB (below_onO hb1 (below_onO (Below.refl _ _) (below_onO hb2 (Below.refl _ _)))) (oldO _ _ _)) (keepB (below_onO hb1 (below_onO (Below.refl _ _) (below_onO hb2 (Below.refl _ _)))) (newO _ _ _)) (by simp) (by first | (simp; done) | (simp; omega) | omega) (by first | (simp; done) | (simp; omega) | omega) (by first | (simp; done) | (simp; omega) | omega) (by first | (simp; done) | (simp; omega) | omega) (by first | (simp; done) | (simp; omega) | omega) (by first | (simp; done) | (simp; omega) | omega)⟩
  · have l1 := hb1.size
    have l2 := hb2.size
    simp only [World.size_drew, World.size_alloc] at l1 l2
    go_wp2
    go_ret
    exact ⟨_, rfl, new_fin HN.out hc1 hc2 hg hC hBk hRl (below_onO (HB1.out _) (below_onO hb1 (below_onO (Below.refl _ _) (below_onO hb2 (one_below _ _))))) (below_onO (Below.refl _ _) (below_onO hb2 (one_below _ _))) (one_below _ _) (heap_alloc_new _ _) (keepB (below_onO hb1 (below_onO (Below.refl _ _) (below_onO hb2 (one_below _ _)))) (heap_alloc_new _ _)) (by simp) (by first | (simp; done) | (simp; omega) | omega) (by first | (simp; done) | (simp; omega) | omega) (by first | (simp; done) | (simp; omega) | omega) (by first | (simp; done) | (simp; omega) | omega) (by first | (simp; done) | (simp; omega) | omega) (by first | (simp; done) | (simp; omega) | omega)⟩
  · have l1 := hb1.size
    have l2 := hb2.size
    simp only [World.size_drew, World.size_alloc] at l1 l2
    go_wp2
    go_ret
    exact ⟨_, rfl, new_fin HN.out hc1 hc2 hg hC hBk hRl (below_onO (HB1.out _) (below_onO hb1 (below_onO (one_below _ _) (below_onO hb2 (Below.refl _ _))))) (below_onO (one_below _ _) (below_onO hb2 (Below.refl _ _))) (Below.refl _ _) (keepB (below_onO hb2 (Below.refl _ _)) (heap_alloc_new _ _)) (keepB (below_onO hb1 (below_onO (one_below _ _) (below_onO hb2 (Below.refl _ _)))) (heap_alloc_new _ _)) (by simp) (by first | (simp; done) | (simp; omega) | omega) (by first | (simp; done) | (simp; omega) | omega) (by first | (simp; done) | (simp; omega) | omega) (by first | (simp; done) | (simp; omega) | omega) (by first | (simp; done) | (simp; omega) | omega) (by first | (simp; done) | (simp; omega) | omega)⟩
  · have l1 := hb1.size
    have l2 := hb2.size
    simp only [World.size_drew, World.size_alloc] at l1 l2
    go_wp2
    go_ret
    exact ⟨_, rfl, new_fin HN.out hc1 hc2 hg hC hBk hRl (below_onO (HB2.out _ _) (below_onO hb1 (below_onO (Below.refl _ _) (below_onO hb2 (Below.refl _ _))))) (below_onO (Below.refl _ _) (below_onO hb2 (Below.refl _ _))) (Below.refl _ _) (keepB (below_onO hb1 (below_onO (Below.refl _ _) (below_onO hb2 (Below.refl _ _)))) (newO _ _ _)) (keepB (below_onO hb1 (below_onO (Below.refl _ _) (below_onO hb2 (Below.refl _ _)))) (oldO _ _ _)) (by simp) (by first | (simp; done) | (simp; omega) | omega) (by first | (simp; done) | (simp; omega) | omega) (by first | (simp; done) | (simp; omega) | omega) (by first | (simp; done) | (simp; omega) | omega) (by first | (simp; done) | (simp; omega) | omega) (by first | (simp; done) | (simp; omega) | omega)⟩
end Go.Proofs.Ytlbihbfgglnfnaa.Ow

