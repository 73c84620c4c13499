/-
  DERIVED: THE SHELF's CONTRACTS AT THIS DUMP, IN PLAIN WORDS (tools/lay-plain.mjs out of 'TryShelf.lean', which tools/lay-shelf.mjs wrote): THE SAME DECLARATIONS UNDER THE SAME NAMES: 'import', 'namespace', 'open', 'def', 'theorem' AND NOTHING ELSE: no command of the shelf's: FOR A HAND-IN. Each laying: the table of numbers ('.._ren') and one theorem, a field a fact of the dump's own or the kernel's comparison; each contract: ONE APPLICATION.
-/
import Derived.Shelf.Slices.Turned
import Derived.Ground.SlgnProg
import Derived.Shelf.SlicesE.Index
import Derived.Test.YtlbihbfgglnfnaaProg
import Derived.Test.YtlbihbfgglnfnaaM7
namespace Go.Proofs
open Go.Shelf
def Try.lays107_ren : Go.Shelf.Ren := ⟨fun | 107 => 75 | 108 => 85 | n => n, fun | 28 => 35 | 3 => 3 | 4 => 4 | 0 => 0 | n => n, fun | n => n⟩
theorem Try.lays107 : Go.Proofs.Lays.n107 Try.prog Try.lays107_ren := {
  mixed := by kernel_rfl
  f107 := Try.func75.trans (congrArg some (by kernel_rfl))
  f108 := Try.func85.trans (congrArg some (by kernel_rfl))
  t0 := Try.underlying0
  a0 := Try.isAgg0
  z0 := Try.sizeOf0
  v0 := Try.zeroValue0
  t3 := Try.underlying3
  a3 := Try.isAgg3
  z3 := Try.sizeOf3
  v3 := Try.zeroValue3
  t4 := Try.underlying4
  a4 := Try.isAgg4
  z4 := Try.sizeOf4
  v4 := Try.zeroValue4
  t28 := Try.underlying35
  a28 := Try.isAgg35
  z28 := Try.sizeOf35
  v28 := Try.zeroValue35 }
open Go.Lib in
/-- slices.Contains at []int: "Contains reports whether v is present in s.": IT RETURNS 'elements.contains v'; the world is as it was. ITS CALLEE slices.Index IS MET BY ITS OWN CONTRACT OFF THE SHELF (lay that first): no loop is walked here. (LAID: no walk: one application.) -/
theorem Try.slices_Contains_int (b off n c : Nat) (zs : List Int) (x : Int) (w : World) (hz : n ≤ zs.length) (hbig : n ≤ 9223372036854775807) (hc : ∀ j, j < zs.length → w.cell? ⟨b, off + j, none⟩ = some (.int .i64 (zs.getD j 0))) :
    Calls Try.prog 75 #[.slice (some ⟨b, off, none⟩) n c, .int .i64 x] w fun e w' => e = .returned (.bool ((zs.take n).contains x)) ∧ w' = w := Any.slices_Contains_int Try.lays107 b off n c zs x w hz hbig hc
end Go.Proofs

/- The walk of opt's rules for two instructions. -/
namespace Go.Proofs.Ytlbihbfgglnfnaa.Ow
open Go.RowKit Vf Vm Ot

/-- What such a rule holds. -/
structure PairIn (w : World) (S F U G N : Nat) (second : Int) (first : List Int) : Prop where
  s : w.heap[S]? = some (.cells #[.int .i64 second] 3 (0, 0))
  f : w.heap[F]? = some (.cells #[.slice (some ⟨G, 0, none⟩) first.length first.length] 35 (0, 0))
  u : w.heap[U]? = some (.cells #[.func (.func N) #[] #[]] 97 (0, 0))
  g : w.heap[G]? = some (.cells (first.map (Value.int .i64)).toArray 3 (0, 0))
theorem drewN_below {B : Nat} {w w1 : World} (h : Below B w w1) (d : Nat) : Below B w (w1.drewN d) := ⟨h.os, h.tape, h.output, h.size, h.block⟩
theorem ch_cells {w : World} {k : Nat} {x y : Value} {t : TypeId} (h : w.heap[k]? = some (.cells #[x, y] t (0, 0))) : w.cell? ⟨k, 0, none⟩ = some x ∧ w.cell? ⟨k, 1, none⟩ = some y ∧ w.frozen? ⟨k, 0, none⟩ = false ∧ w.frozen? ⟨k, 1, none⟩ = false := by simp [World.cell?, World.frozen?, h]
theorem cell_one {w : World} {N : Nat} {v : Value} {t : TypeId} (h : w.heap[N]? = some (.cells #[v] t (0, 0))) : w.cell? ⟨N, 0, none⟩ = some v := by simp [World.cell?, h]

set_option maxHeartbeats 2000000 in
set_option maxRecDepth 100000 in
theorem pair1_any (lo hi : Nat) (w0 : World) (S F U G N : Nat) (second : Int) (first : List Int) (put : Ins → Ins → List Ins) (hf : first.length ≤ 3) (hP : PairIn w0 S F U G N second first) (hS : lo ≤ S ∧ S < hi) (hF : lo ≤ F ∧ F < hi) (hU : lo ≤ U ∧ U < hi) (hG : lo ≤ G ∧ G < hi) (hN : PutC N put) :
    RuleC lo hi w0 74 #[.pointer (some ⟨S, 0, none⟩), .pointer (some ⟨F, 0, none⟩), .pointer (some ⟨U, 0, none⟩)] (fun _ => pair second put first) := by
  refine ⟨fun args w => by kernel_rfl, fun k l b off cap B w hk hl0 hl hC hB hH => ?_⟩
  have s0 : w.cell? ⟨S, 0, none⟩ = some (.int .i64 second) := cell_one ((hH S hS.1 hS.2).trans hP.s)
  have f0 : w.cell? ⟨F, 0, none⟩ = some (.slice (some ⟨G, 0, none⟩) first.length first.length) := cell_one ((hH F hF.1 hF.2).trans hP.f)
  have u0 : w.cell? ⟨U, 0, none⟩ = some (.func (.func N) #[] #[]) := cell_one ((hH U hU.1 hU.2).trans hP.u)
  have hg : w.heap[G]? = some (.cells (first.map (Value.int .i64)).toArray 3 (0, 0)) := (hH G hG.1 hG.2).trans hP.g
  have HG : Hid (∀ W : World, W.heap[G]? = w.heap[G]? → ∀ j, j < first.length → W.cell? ⟨G, 0 + j, none⟩ = some (.int .i64 (first.getD j 0))) := fun W hW j hj => by
    simp [World.cell?, hW, hg, hj]
  have hGl := lt_of_block hg
  clear hg hP hS hF hU hG hH
  cases l with
  | nil => simp at hl0
  | cons a r =>
    cases r with
    | nil =>
      have HR : Hid (pair second put first [a] = (0, [])) := rfl
      have HBV : Hid (∀ d o x y, Below w.heap.size w ((((w.alloc o).drewN d).setCell ⟨w.heap.size, 0, none⟩ x).setCell ⟨w.heap.size, 1, none⟩ y)) := fun d o x y => (Below.setCell (p := ⟨w.heap.size, 0, none⟩) (drewN_below (one_below w o) d) (Nat.le_refl _) _).setCell (p := ⟨w.heap.size, 1, none⟩) (Nat.le_refl _) _
      go_enter Try.func74, Try.ntmps74
      go_wp2
      go_quiet (fail)
      go_wp2
      exact bodyPost_ret (v := .agg #[.int .i64 0, .slice none 0 0]) (by simp [results, Try.results74, go_sem]) rfl ⟨_, _, _, by rw [HR.out]; rfl, by rw [HR.out]; exact .none _ _, HBV.out _ _ _ _⟩
    | cons c r =>
      obtain ⟨hb, a0, a1, a2⟩ := code_cells hC (i := 0) (x := a) rfl
      obtain ⟨_, c0, c1, c2⟩ := code_cells hC (i := 1) (x := c) rfl
      rw [Nat.zero_mul, Nat.add_zero] at a0 a1 a2
      rw [Nat.one_mul] at c0 c1 c2
      have hbw : b < w.heap.size := by omega
      have HE := hide (pair_eq second put first a c r)
      obtain ⟨n, hn⟩ : ∃ n, n = (a :: c :: r).length := ⟨_, rfl⟩
      rw [← hn]
      have n0 : (0 : Int) < (n : Int) := by rw [hn]; simp; omega
      have n0' : 0 < n := by omega
      have n1 : (1 : Int) < (n : Int) := by rw [hn]; simp; omega
      have n2 : ¬ (n : Int) < 2 := by omega
      clear hC hn hl hl0
      have hSl : S < w.heap.size := World.block_lt_of_cell? w _ s0
      have hFl : F < w.heap.size := World.block_lt_of_cell? w _ f0
      have hUl : U < w.heap.size := World.block_lt_of_cell? w _ u0
      have HGV : Hid (∀ d o j, j < first.length → ((w.alloc o).drewN d).cell? ⟨G, 0 + j, none⟩ = some (.int .i64 (first.getD j 0))) := fun d o => HG.out ((w.alloc o).drewN d) (Below.heap_alloc _ _ _ hGl)
      have HBV : Hid (∀ d o x y, Below w.heap.size w ((((w.alloc o).drewN d).setCell ⟨w.heap.size, 0, none⟩ x).setCell ⟨w.heap.size, 1, none⟩ y)) := fun d o x y => (Below.setCell (p := ⟨w.heap.size, 0, none⟩) (drewN_below (one_below w o) d) (Nat.le_refl _) _).setCell (p := ⟨w.heap.size, 1, none⟩) (Nat.le_refl _) _
      by_cases h1 : c.op = second
      · have e1 : (c.op != second) = false := by simpa using h1
        go_enter Try.func74, Try.ntmps74
        go_upto_region 1 with fail
        go_region_held3 (fun w' => w'.cell? ⟨S, 0, none⟩ = some (.int .i64 second) ∧ w'.cell? ⟨F, 0, none⟩ = some (.slice (some ⟨G, 0, none⟩) first.length first.length) ∧ w'.cell? ⟨b, off, none⟩ = some (.int .i64 a.op) ∧ w'.cell? ⟨b, off + 3, none⟩ = some (.int .i64 c.op)) (go_keep) ((go_at_call 75; refine (Try.slices_Contains_int G 0 first.length first.length first a.op _ (Nat.le_refl _) (by omega) (HGV.out 1 _)).mono ?_; rintro e w1 ⟨rfl, rfl⟩))
        have u1 : ((w.alloc (.cells #[.int .i64 0, .slice none 0 0] 82)).drewN 1).cell? ⟨U, 0, none⟩ = some (.func (.func N) #[] #[]) := alloc_cell u0
        have x0 : ((w.alloc (.cells #[.int .i64 0, .slice none 0 0] 82)).drewN 1).cell? ⟨b, off, none⟩ = some (.int .i64 a.op) := alloc_cell a0
        have x1 : ((w.alloc (.cells #[.int .i64 0, .slice none 0 0] 82)).drewN 1).cell? ⟨b, off + 1, none⟩ = some (.int .i64 a.a) := alloc_cell a1
        generalize hq : decide (a.op ∈ first) = q
        cases q with
        | true =>
          have h2 : a.op ∈ first := of_decide_eq_true hq
          have HR : Hid (pair second put first (a :: c :: r) = (2, put a c)) := by unfold Hid; rw [HE.out, if_pos ⟨h1, h2⟩]
          clear h1 h2 HE hq e1
          have en := hN.enter
          have nU : ¬ w.heap.size = U := by omega
          have nb : ¬ w.heap.size = b := by omega
          have hz : w.heap.size < (w.alloc (.cells #[.int .i64 0, .slice none 0 0] 82)).heap.size := by simp
          go_wp2
          go_region_held3 (fun w' => w'.cell? ⟨U, 0, none⟩ = some (.func (.func N) #[] #[]) ∧ w'.cell? ⟨b, off, none⟩ = some (.int .i64 a.op) ∧ w'.cell? ⟨b, off + 1, none⟩ = some (.int .i64 a.a) ∧ w'.cell? ⟨b, off + 2, none⟩ = some (.int .i64 a.n) ∧ w'.cell? ⟨b, off + 3, none⟩ = some (.int .i64 c.op) ∧ w'.cell? ⟨b, off + 3 + 1, none⟩ = some (.int .i64 c.a) ∧ w'.cell? ⟨b, off + 3 + 2, none⟩ = some (.int .i64 c.n)) (go_keep) ((refine (hN.call a c _).mono ?_; rintro e w1 ⟨va, vn, vc, rfl, hp, hb1⟩; have HP := hide hp; have HB1 := hide hb1; clear hp hb1; have k0 := (HB1.out.cell (p := ⟨U, 0, none⟩) (Nat.lt_trans hUl hz)).trans (alloc_cell u0); have k1 := (HB1.out.cell (p := ⟨b, off, none⟩) (Nat.lt_trans hbw hz)).trans (alloc_cell a0); have k2 := (HB1.out.cell (p := ⟨b, off + 1, none⟩) (Nat.lt_trans hbw hz)).trans (alloc_cell a1); have k3 := (HB1.out.cell (p := ⟨b, off + 2, none⟩) (Nat.lt_trans hbw hz)).trans (alloc_cell a2); have k4 := (HB1.out.cell (p := ⟨b, off + 3, none⟩) (Nat.lt_trans hbw hz)).trans (alloc_cell c0); have k5 := (HB1.out.cell (p := ⟨b, off + 3 + 1, none⟩) (Nat.lt_trans hbw hz)).trans (alloc_cell c1); have k6 := (HB1.out.cell (p := ⟨b, off + 3 + 2, none⟩) (Nat.lt_trans hbw hz)).trans (alloc_cell c2); obtain ⟨m0, m1, z0, z1⟩ := ch_cells ((HB1.out.block w.heap.size hz).trans (heap_alloc_new w _))))
          have HBE : Hid (∀ x y, Below w.heap.size w ((w1.setCell ⟨w.heap.size, 0, none⟩ x).setCell ⟨w.heap.size, 1, none⟩ y)) := fun x y => (Below.setCell (p := ⟨w.heap.size, 0, none⟩) ((drewN_below (one_below w (.cells #[.int .i64 0, .slice none 0 0] 82)) 2).trans (HB1.out.mono (Nat.le_of_lt hz))) (Nat.le_refl _) _).setCell (p := ⟨w.heap.size, 1, none⟩) (Nat.le_refl _) _
          have HPE : Hid (PutIs w ((w1.setCell ⟨w.heap.size, 0, none⟩ (.int .i64 2)).setCell ⟨w.heap.size, 1, none⟩ (.slice va vn vc)) (.slice va vn vc) (put a c)) := by
            rcases HP.out with h | ⟨c', q, h1, h2, h3, h4⟩
            · exact .inl h
            · have hq : w.heap.size < q := Nat.lt_of_lt_of_le hz h3
              exact .inr ⟨c', q, h1, h2, by omega, by rw [Below.heap_setCell _ ⟨w.heap.size, 1, none⟩ _ _ (by show q ≠ w.heap.size; omega), Below.heap_setCell _ ⟨w.heap.size, 0, none⟩ _ _ (by show q ≠ w.heap.size; omega)]; exact h4⟩
          go_wp2
          exact bodyPost_ret (v := .agg #[.int .i64 2, .slice va vn vc]) (by simp [results, Try.results74, go_sem, m0, m1]) rfl ⟨_, _, _, by rw [HR.out]; rfl, by rw [HR.out]; exact HPE.out, HBE.out _ _⟩
        | false =>
          have h2 : ¬ a.op ∈ first := of_decide_eq_false hq
          have HR : Hid (pair second put first (a :: c :: r) = (0, [])) := by unfold Hid; rw [HE.out, if_neg (fun h => h2 h.2)]
          clear h1 h2 HE hq e1
          go_wp2
          exact bodyPost_ret (v := .agg #[.int .i64 0, .slice none 0 0]) (by simp [results, Try.results74, go_sem]) rfl ⟨_, _, _, by rw [HR.out]; rfl, by rw [HR.out]; exact .none _ _, HBV.out _ _ _ _⟩
      · have e1 : (c.op != second) = true := by simpa using h1
        have HR : Hid (pair second put first (a :: c :: r) = (0, [])) := by unfold Hid; rw [HE.out, if_neg (fun h => h1 h.1)]
        clear h1 HE
        go_enter Try.func74, Try.ntmps74
        go_upto_region 1 with fail
        go_quiet (fail)
        go_wp2
        exact bodyPost_ret (v := .agg #[.int .i64 0, .slice none 0 0]) (by simp [results, Try.results74, go_sem]) rfl ⟨_, _, _, by rw [HR.out]; rfl, by rw [HR.out]; exact .none _ _, HBV.out _ _ _ _⟩
end Go.Proofs.Ytlbihbfgglnfnaa.Ow

