/- Rows of one's own; the walks of Clone and End. -/
import Derived.Test.YtnfbfdajdflfgaaGreatM25
import Derived.Test.YtnfbfdajdflfgaaGreatM44
namespace Go.Proofs.YtnfbfdajdflfgaaGreat.Vw
open Go.RowKit Vf Vm

theorem own_ty {w : World} {B e size n g : Nat} {v : Value} {xs : List Value} (h : w.ownsRow B e size v n xs) (hg : v.ownBlock = some g) : ∃ cur, w.heap[g]? = some (.cells cur e (0, 0)) := by
  rcases h.2 with ⟨rfl, _⟩ | ⟨g', cap, cur, rfl, _, hh, _⟩
  · cases hg
  · simp [Value.ownBlock] at hg
    subst hg
    exact ⟨cur, hh⟩


theorem own_cell {w : World} {B e n : Nat} {va : Option Addr} {vc : Nat} {xs : List Value} (h : w.ownsRow B e 1 (.slice va n vc) n xs) {k : Nat} {u : Value} (hk : xs[k]? = some u) : ∃ g, va = some ⟨g, 0, none⟩ ∧ w.cell? ⟨g, k, none⟩ = some u := by
  rcases h.2 with ⟨e1, h0⟩ | ⟨g, cap, cur, e1, _⟩
  · have hl := h.1
    rw [h0] at hl
    have hx : xs = [] := List.eq_nil_of_length_eq_zero (by simpa using hl)
    rw [hx] at hk; cases hk
  · have e2 := e1
    simp at e2
    refine ⟨g, e2.1, ?_⟩
    have := h.cells (g := g) (by rw [e1]; rfl) k _ hk
    rw [add_none] at this
    simpa using this


theorem is_nil (w : World) : Sem.run Tryz.prog (binOp BinOp.eql 28 (.slice none 0 0) (.slice none 0 0)) w = .ok (.bool true) w := by kernel_rfl
theorem own_base {w : World} {B C e size n : Nat} {v : Value} {xs : List Value} (h : w.ownsRow C e size v n xs) (hB : B ≤ C) : w.ownsRow B e size v n xs := by
  refine ⟨h.1, ?_⟩
  rcases h.2 with h2 | ⟨g, cap, cur, hv, hg, r⟩
  · exact .inl h2
  · exact .inr ⟨g, cap, cur, hv, by omega, r⟩
theorem own_slice {w : World} {B e size n : Nat} {v : Value} {xs : List Value} (h : w.ownsRow B e size v n xs) : ∃ a c, v = .slice a n c := by
  rcases h.2 with ⟨rfl, h0⟩ | ⟨g, cap, cur, rfl, _⟩
  · rw [h0]; exact ⟨_, _, rfl⟩
  · exact ⟨_, _, rfl⟩
theorem ints_one (ws : List Int) : ∀ v ∈ ints ws, v.oneCell' = true := by
  intro v hv
  simp only [ints, List.mem_map] at hv
  obtain ⟨x, _, rfl⟩ := hv
  rfl

set_option maxRecDepth 100000 in
set_option maxHeartbeats 400000 in
theorem clone_any (vO : Value) (l : List Int) (w : World) (h : Hid (w.ownsRow 0 2 1 vO l.length (ints l))) (hl : l.length ≤ 1000000) :
    Calls Tryz.prog 53 #[vO] w fun e w' => ∃ v, e = .returned v ∧ w'.ownsRow w.heap.size 2 1 v l.length (ints l) ∧ Below w.heap.size w w' := by
  obtain ⟨i0, hi, hz0, hz1, hz2⟩ := info_parts Sb.Tryz.info2
  rcases h.out.2 with ⟨rfl, h0⟩ | ⟨g, cap, cur, rfl, _, hh, h1, h2, h3, h4⟩
  · have HL := Sb.hide h0
    clear h0
    have hnn := is_nil w
    go_enter Tryz.func53, Tryz.ntmps53
    go_wp2
    go_ret
    exact ⟨_, rfl, ⟨h.out.1, .inl ⟨rfl, HL.out⟩⟩, .refl _ _⟩
  · have hnn := Sb.not_nil g l.length cap w
    have HO : Hid ((w.alloc (.cells #[] 2)).ownsRow w.heap.size 2 1 (.slice (some ⟨w.heap.size, 0, none⟩) 0 0) 0 []) := ⟨rfl, .inr ⟨w.heap.size, 0, #[], rfl, Nat.le_refl _, heap_alloc_new w _, Nat.le_refl _, Nat.zero_le _, rfl, rfl⟩⟩
    have HN : Hid (∀ j u, (ints l)[j]? = some u → (w.alloc (.cells #[] 2)).cell? ((⟨g, 0, none⟩ : Addr).add j) = some u) := (h.out.alloc (.cells #[] 2)).cells (g := g) rfl
    have HL : Hid ((ints l).length = l.length * 1) := by unfold Hid; simp
    obtain ⟨n, hn⟩ : ∃ n, n = l.length := ⟨_, rfl⟩
    have HNL := Sb.hide hn
    rw [← hn] at hl hnn HL ⊢
    clear hn hh h1 h2 h3 h4
    go_enter Tryz.func53, Tryz.ntmps53
    go_wp2_with (at_builtin; refine wpList_append_own _ rfl _ _ 28 rfl w.heap.size 2 i0 (.int .i64 0) 1 8 Tryz.underlying28 hi hz0 hz1 hz2 rfl (by decide) _ _ _ rfl HO.out ⟨g, 0, none⟩ n cap (ints l) rfl HL.out HN.out (ints_one l) (by unfold maxLen; omega) (by omega) (by simp) ?_; intro v' w3 hown hgrow hz)
    have HW : Hid (w3.ownsRow w.heap.size 2 1 v' n (ints l)) := by
      unfold Hid
      simpa using hown
    have hg2 : (w.alloc (.cells #[] 2)).grownBy w3 (some w.heap.size) := hgrow
    have HB : Hid (Below w.heap.size w w3) := ((Below.refl _ w).alloc (Nat.le_refl _) _).grown hg2 (by simp) (fun k hk => by simp at hk; omega)
    clear hown hgrow hz hg2
    go_wp2
    go_ret
    exact ⟨v', rfl, HW.out, HB.out⟩

theorem zero_end {w : World} {b : Nat} (h : w.heap[b]? = some (.cells #[.int .i64 0, .int .i64 0, .int .i64 0, .slice none 0 0] 80)) : (w.cell? ⟨b, 0, none⟩ = some (.int .i64 0) ∧ w.cell? ⟨b, 1, none⟩ = some (.int .i64 0) ∧ w.cell? ⟨b, 2, none⟩ = some (.int .i64 0) ∧ w.cell? ⟨b, 3, none⟩ = some (.slice none 0 0)) ∧ ∀ j, w.frozen? ⟨b, j, none⟩ = false := by simp [World.cell?, World.frozen?, h]
section
variable {β : Type} (E : Env β) (X : Bxs β) (c : Cx) (vB ev : Value) (o T : Nat) (L : Lab) (P : Nat → Nat) (w : World) (t : Tk) (x : β) (vR vO : Value) (H : Hid (St E c vB ev o T L P w t x vR vO))
include H
abbrev enV (s q tr : Nat) (v : Value) : Value := .agg #[.int .i64 s, .int .i64 q, .int .i64 tr, v]

set_option maxRecDepth 100000 in
set_option maxHeartbeats 1000000 in
/-- WHAT End ANSWERS. -/
theorem end_any' (hX : Hid (BoxesAt E X c vB)) (hs : Hid (t.over = 0 → ∃ f rs u i, AtOk c t f rs u i)) (ho : t.out.length ≤ 1000000) :
    Calls Tryz.prog 29 #[.pointer (some ⟨T, 0, none⟩)] w fun e w' => ∃ v, e = .returned (enV (stat X c.m t x).1 (stat X c.m t x).2 t.trap v) ∧ w'.ownsRow w.heap.size 2 1 v t.out.length (ints t.out) ∧ Below w.heap.size w w' := by
  obtain ⟨s, hs1⟩ : ∃ s, s = (stat X c.m t x).1 := ⟨_, rfl⟩
  obtain ⟨q, hq1⟩ : ∃ s, s = (stat X c.m t x).2 := ⟨_, rfl⟩
  rw [← hs1, ← hq1]
  have HS1 := Sb.hide hs1
  have HQ1 := Sb.hide hq1
  have hTz := lt_of_block H.out.tk.blk
  clear hs1 hq1
  go_enter Tryz.func29, Tryz.ntmps29
  go_wp2_with fail
  have hb0 : Below w.heap.size w (w.alloc (.cells #[.int .i64 0, .int .i64 0, .int .i64 0, .slice none 0 0] 80)) := (Below.refl _ w).alloc (Nat.le_refl _) _
  have hzb : (w.alloc (.cells #[.int .i64 0, .int .i64 0, .int .i64 0, .slice none 0 0] 80)).heap[w.heap.size]? = some (.cells #[.int .i64 0, .int .i64 0, .int .i64 0, .slice none 0 0] 80) := heap_alloc_new w _
  have HB0 := Sb.hide hb0
  have HZB := Sb.hide hzb
  have hz0 : (w.alloc (.cells #[.int .i64 0, .int .i64 0, .int .i64 0, .slice none 0 0] 80)).heap.size = w.heap.size + 1 := by simp
  clear hb0 hzb
  generalize w.alloc (.cells #[.int .i64 0, .int .i64 0, .int .i64 0, .slice none 0 0] 80) = W0 at *
  refine (state_any E X c vB ev o T L P _ t x vR vO (Sb.hide (H.out.below HB0.out)) hX hs).mono ?_
  rw [← HS1.out, ← HQ1.out]
  rintro e w1 ⟨rfl, hb1⟩
  have HB1 : Hid (Below w.heap.size w w1) := HB0.out.trans (hb1.mono (by omega))
  have HZ1 : Hid (w1.heap[w.heap.size]? = some (.cells #[.int .i64 0, .int .i64 0, .int .i64 0, .slice none 0 0] 80)) := (hb1.block _ (by omega)).trans HZB.out
  have HS := Sb.hide (H.out.below HB1.out)
  have d := tk_cells HS.out.tk.blk
  have d5 := d.2.2.2.2.2.1
  have d7 := d.2.2.2.2.2.2.2.1
  have hz1 := hb1.size
  have hne1 : ¬ w.heap.size = T := by omega
  have hne2 : ¬ T = w.heap.size := by omega
  clear hb1 d
  have fr1 : w1.frozen? ⟨w.heap.size, 0, none⟩ = false ∧ w1.frozen? ⟨w.heap.size, 1, none⟩ = false ∧ w1.frozen? ⟨w.heap.size, 2, none⟩ = false ∧ w1.frozen? ⟨w.heap.size, 3, none⟩ = false := by simp [World.frozen?, HZ1.out]
  go_wp2_with fail
  go_region_held3 (fun w' => w'.cell? ⟨T, 5, none⟩ = some vO ∧ w'.cell? ⟨T, 7, none⟩ = some (.int .i64 t.trap)) (go_keep) ((go_at_call 53; refine (clone_any vO t.out _ (Sb.hide (by exact HS.out.tk.out)) ho).mono ?_; rintro e w2 ⟨v, rfl, hown, hb2⟩; obtain ⟨va, vc, rfl⟩ := own_slice hown; have HO : Hid (w2.ownsRow w1.heap.size 2 1 (.slice va t.out.length vc) t.out.length (ints t.out)) := hown; have HB2 : Hid (Below w1.heap.size w1 w2) := ⟨hb2.os, hb2.tape, hb2.output, hb2.size, hb2.block⟩; have d5 : w2.cell? ⟨T, 5, none⟩ = some vO := (hb2.cell (p := ⟨T, 5, none⟩) (by show T < _; have := HB1.out.size; simp; omega)).trans d5; have d7 : w2.cell? ⟨T, 7, none⟩ = some (.int .i64 t.trap) := (hb2.cell (p := ⟨T, 7, none⟩) (by show T < _; have := HB1.out.size; simp; omega)).trans d7; have z2 : w2.heap[w.heap.size]? = some (.cells #[.int .i64 0, .int .i64 0, .int .i64 0, .slice none 0 0] 80) := (hb2.block _ (by have := HB0.out.size; simp; omega)).trans HZ1.out; have HZ2 := Sb.hide z2; have k2 := (zero_end z2).1; have f2 := (zero_end z2).2; clear hown hb2 z2))
  clear fr1
  have HB4 : Hid (Below w.heap.size w ((((w2.setCell ⟨w.heap.size, 0, none⟩ (.int .i64 s)).setCell ⟨w.heap.size, 1, none⟩ (.int .i64 q)).setCell ⟨w.heap.size, 2, none⟩ (.int .i64 t.trap)).setCell ⟨w.heap.size, 3, none⟩ (.slice va t.out.length vc))) := by
    have hb : Below w.heap.size w w2 := HB1.out.trans (HB2.out.mono HB1.out.size)
    exact (((hb.setCell (p := ⟨w.heap.size, 0, none⟩) (Nat.le_refl _) _).setCell (p := ⟨w.heap.size, 1, none⟩) (Nat.le_refl _) _).setCell (p := ⟨w.heap.size, 2, none⟩) (Nat.le_refl _) _).setCell (p := ⟨w.heap.size, 3, none⟩) (Nat.le_refl _) _
  have HO4 : Hid (((((w2.setCell ⟨w.heap.size, 0, none⟩ (.int .i64 s)).setCell ⟨w.heap.size, 1, none⟩ (.int .i64 q)).setCell ⟨w.heap.size, 2, none⟩ (.int .i64 t.trap)).setCell ⟨w.heap.size, 3, none⟩ (.slice va t.out.length vc)).ownsRow w.heap.size 2 1 (.slice va t.out.length vc) t.out.length (ints t.out)) := by
    have h2 : w2.ownsRow w.heap.size 2 1 (.slice va t.out.length vc) t.out.length (ints t.out) := own_base HO.out HB1.out.size
    refine own_keep h2 (fun b hb => ?_)
    have hbl := (HO.out.lt b hb).1
    have hne : b ≠ w.heap.size := by have := HB0.out.size; omega
    rw [Below.heap_setCell _ ⟨w.heap.size, 3, none⟩ _ _ hne, Below.heap_setCell _ ⟨w.heap.size, 2, none⟩ _ _ hne, Below.heap_setCell _ ⟨w.heap.size, 1, none⟩ _ _ hne, Below.heap_setCell _ ⟨w.heap.size, 0, none⟩ _ _ hne]
  go_wp2
  have hX : ((((w2.setCell ⟨w.heap.size, 0, none⟩ (.int .i64 s)).setCell ⟨w.heap.size, 1, none⟩ (.int .i64 q)).setCell ⟨w.heap.size, 2, none⟩ (.int .i64 t.trap)).setCell ⟨w.heap.size, 3, none⟩ (.slice va t.out.length vc)).heap[w.heap.size]? = some (.cells #[.int .i64 s, .int .i64 q, .int .i64 t.trap, .slice va t.out.length vc] 80) := by
    simp only [World.setCell, Array.getElem?_modify, if_true, HZ2.out, Option.map_some]
    rfl
  refine bodyPost_ret (v := enV s q t.trap (.slice va t.out.length vc)) ?_ rfl ⟨_, rfl, HO4.out, HB4.out⟩
  generalize (((w2.setCell ⟨w.heap.size, 0, none⟩ (.int .i64 s)).setCell ⟨w.heap.size, 1, none⟩ (.int .i64 q)).setCell ⟨w.heap.size, 2, none⟩ (.int .i64 t.trap)).setCell ⟨w.heap.size, 3, none⟩ (.slice va t.out.length vc) = W4 at *
  have g : (W4.cell? ⟨w.heap.size, 0, none⟩ = some (.int .i64 s) ∧ W4.cell? ⟨w.heap.size, 1, none⟩ = some (.int .i64 q) ∧ W4.cell? ⟨w.heap.size, 2, none⟩ = some (.int .i64 t.trap) ∧ W4.cell? ⟨w.heap.size, 3, none⟩ = some (.slice va t.out.length vc)) := by simp [World.cell?, hX]
  obtain ⟨g0, g1, g2, g3⟩ := g
  simp [results, Tryz.results29, go_sem, g0, g1, g2, g3]
end
end Go.Proofs.YtnfbfdajdflfgaaGreat.Vw

/- The walk of feed: lists out of feeds. -/
namespace Go.Proofs.YtnfbfdajdflfgaaGreat.Vw
open Go.RowKit Vf Vm

theorem Tryz.info64 : (Tryz.prog.info? 64).map (fun i => (i.zero, i.size, i.bytes)) = some (some (.pointer none), 1, 8) := by kernel_rfl
theorem Tryz.info134 : (Tryz.prog.info? 134).map (fun i => (i.zero, i.size, i.bytes)) = some (some .nilIface, 1, 16) := by kernel_rfl
def ifcs (Q : Nat → Nat) (n : Nat) : List Value := (List.range n).map fun i => .iface 64 (.pointer (some ⟨Q i, 0, none⟩))
theorem ifcs_at (Q : Nat → Nat) {n i : Nat} (h : i < n) : (ifcs Q n)[i]? = some (.iface 64 (.pointer (some ⟨Q i, 0, none⟩))) := by simp [ifcs, h]
theorem ifcs_succ (Q : Nat → Nat) (n : Nat) : ifcs Q (n + 1) = ifcs Q n ++ [.iface 64 (.pointer (some ⟨Q n, 0, none⟩))] := by simp [ifcs, List.range_succ]
theorem ptrs_succ (Q : Nat → Nat) (n : Nat) : ptrs Q (n + 1) = ptrs Q n ++ [.pointer (some ⟨Q n, 0, none⟩)] := by simp [ptrs, List.range_succ]
theorem ifcs_eq {Q Q' : Nat → Nat} {n : Nat} (h : ∀ i, i < n → Q i = Q' i) : ifcs Q n = ifcs Q' n := List.map_congr_left (fun i hi => by rw [h i (by simpa using hi)])
theorem ptrs_eq {Q Q' : Nat → Nat} {n : Nat} (h : ∀ i, i < n → Q i = Q' i) : ptrs Q n = ptrs Q' n := List.map_congr_left (fun i hi => by rw [h i (by simpa using hi)])

/-- What holds at the head of feed's loop. -/
structure FeAt (w : World) (fs : List (List Int)) (fa : Nat → Option Addr) (fc : Nat → Nat) (k : Nat) (vl vb : Value) (Q : Nat → Nat) (wr : World) : Prop where
  le : k ≤ fs.length
  below : Below w.heap.size w wr
  ptr : wr.ownsRow w.heap.size 64 1 vl k (ptrs Q k)
  ifc : wr.ownsRow w.heap.size 134 1 vb k (ifcs Q k)
  blk : ∀ (i : Nat) f, i < k → fs[i]? = some f → wr.heap[Q i]? = some (lsO (fa i) f.length (fc i) 0 (.slice none 0 0))
  low : ∀ i, i < k → w.heap.size ≤ Q i
  inj : ∀ i j, i < j → j < k → Q i < Q j
/-- A list more. -/
theorem FeAt.more {w wr : World} {fs : List (List Int)} {fa : Nat → Option Addr} {fc : Nat → Nat} {k : Nat} {vl vb : Value} {Q : Nat → Nat} (h : FeAt w fs fa fc k vl vb Q wr) {f : List Int} (hf : fs[k]? = some f) {w3 w5 : World} {vl' vb' : Value}
    (h3 : w3.ownsRow w.heap.size 64 1 vl' (k + 1) (ptrs Q k ++ [.pointer (some ⟨wr.heap.size, 0, none⟩)])) (g3 : ((wr.alloc (lsO (fa k) f.length (fc k) 0 (.slice none 0 0))).alloc (.cells #[.pointer (some ⟨wr.heap.size, 0, none⟩)] 64)).grownBy w3 vl.ownBlock)
    (h5 : w5.ownsRow w.heap.size 134 1 vb' (k + 1) (ifcs Q k ++ [.iface 64 (.pointer (some ⟨wr.heap.size, 0, none⟩))])) (g5 : (w3.alloc (.cells #[.iface 64 (.pointer (some ⟨wr.heap.size, 0, none⟩))] 134)).grownBy w5 vb.ownBlock) :
    FeAt w fs fa fc (k + 1) vl' vb' (fun i => if i = k then wr.heap.size else Q i) w5 := by
  have hz3 := g3.size
  have hz5 := g5.size
  simp at hz3 hz5
  have hbz := h.below.size
  have hQ : ∀ i, i < k → (if i = k then wr.heap.size else Q i) = Q i := fun i hi => if_neg (by omega)
  -- blocks of other types stay
  have stay3 : ∀ b, b < wr.heap.size + 1 → vl.ownBlock ≠ some b → w3.heap[b]? = (wr.alloc (lsO (fa k) f.length (fc k) 0 (.slice none 0 0))).heap[b]? := fun b hb hne => (g3.block b (by simp; omega) (fun e => hne e.symm)).trans (Below.heap_alloc _ _ _ (by simp; omega))
  have stay5 : ∀ b, b < w3.heap.size → vb.ownBlock ≠ some b → w5.heap[b]? = w3.heap[b]? := fun b hb hne => (g5.block b (by simp; omega) (fun e => hne e.symm)).trans (Below.heap_alloc _ _ _ hb)
  have lsy : ∀ (b : Nat) (o : Obj), wr.heap[b]? = some o → (∀ cur, o ≠ .cells cur 64 (0, 0)) → vl.ownBlock ≠ some b := fun b o hb hn e => by
    obtain ⟨cur, hc⟩ := own_ty h.ptr e
    rw [hb] at hc
    exact hn cur (Option.some.inj hc)
  have new3 : w3.heap[wr.heap.size]? = some (lsO (fa k) f.length (fc k) 0 (.slice none 0 0)) := (stay3 _ (by omega) (fun e => by have := (h.ptr.lt _ e).2; omega)).trans (heap_alloc_new wr _)
  have old3 : ∀ b, b < wr.heap.size → vl.ownBlock ≠ some b → w3.heap[b]? = wr.heap[b]? := fun b hb hne => (stay3 b (by omega) hne).trans (Below.heap_alloc _ _ _ hb)
  have vbn : ∀ b, vb.ownBlock = some b → b < wr.heap.size := fun b e => (h.ifc.lt b e).2
  have keepL : ∀ (b : Nat) af m cf vS, w3.heap[b]? = some (lsO af m cf 0 vS) → b < wr.heap.size + 1 → vb.ownBlock ≠ some b := fun b af m cf vS hb _ e => by
    obtain ⟨cur, hc⟩ := own_ty h.ifc e
    have hne : vl.ownBlock ≠ some b := fun e2 => by
      obtain ⟨cur2, hc2⟩ := own_ty h.ptr e2
      rw [hc] at hc2
      simp at hc2
    rw [old3 b (vbn b e) hne, hc] at hb
    simp at hb
  refine ⟨(List.getElem?_eq_some_iff.1 hf).1, ?_, ?_, ?_, fun i f' hi hf' => ?_, fun i hi => ?_, fun i j hij hj => ?_⟩
  · have b1 : Below w.heap.size w ((wr.alloc (lsO (fa k) f.length (fc k) 0 (.slice none 0 0))).alloc (.cells #[.pointer (some ⟨wr.heap.size, 0, none⟩)] 64)) := (h.below.alloc hbz _).alloc (by simp; omega) _
    have b3 : Below w.heap.size w w3 := b1.grown g3 (by simp; omega) (fun b hb => (h.ptr.lt b hb).1)
    exact (b3.alloc (by omega) _).grown g5 (by simp; omega) (fun b hb => (h.ifc.lt b hb).1)
  · rw [ptrs_succ, ptrs_eq hQ, if_pos rfl]
    refine own_keep h3 (fun b hb => stay5 b (h3.lt b hb).2 (fun e => ?_))
    obtain ⟨cur, hc⟩ := own_ty h3 hb
    obtain ⟨cur2, hc2⟩ := own_ty h.ifc e
    have hne : vl.ownBlock ≠ some b := fun e2 => by
      obtain ⟨cur3, hc3⟩ := own_ty h.ptr e2
      rw [hc2] at hc3
      simp at hc3
    rw [old3 b (vbn b e) hne, hc2] at hc
    simp at hc
  · rw [ifcs_succ, ifcs_eq hQ, if_pos rfl]
    exact h5
  · by_cases e : i = k
    · subst e
      rw [hf] at hf'
      cases hf'
      simp only [if_true]
      exact (stay5 _ (by omega) (keepL _ _ _ _ _ new3 (by omega))).trans new3
    · simp only [if_neg e]
      have hb := h.blk i f' (by omega) hf'
      have hlt := lt_of_block hb
      have hb3 := (old3 _ hlt (lsy _ _ hb (fun cur e2 => by simp at e2))).trans hb
      exact (stay5 _ (by omega) (keepL _ _ _ _ _ hb3 (by omega))).trans hb3
  · show _ ≤ if i = k then _ else _
    split
    · exact hbz
    · exact h.low i (by omega)
  · show (if i = k then _ else _) < (if j = k then _ else _)
    rw [if_neg (by omega)]
    split
    · obtain ⟨f', hf'⟩ : ∃ f', fs[i]? = some f' := ⟨_, List.getElem?_eq_getElem (by have := h.le; omega)⟩
      exact lt_of_block (h.blk i f' (by omega) hf')
    · exact h.inj i j hij (by omega)

set_option maxRecDepth 100000 in
set_option maxHeartbeats 1000000 in
theorem feed_any (B : Nat) (fs : List (List Int)) (a : Option Addr) (cap : Nat) (fa : Nat → Option Addr) (fc : Nat → Nat) (w : World) (hfd : Hid (FdIn B w fs a fa fc)) (hB : B ≤ w.heap.size) (hfew : fs.length ≤ 30) :
    Calls Tryz.prog 11 #[.slice a fs.length cap] w fun e w' => ∃ vl vb Q, e = .returned (.tuple #[vl, vb]) ∧ FeAt w fs fa fc fs.length vl vb Q w' := by
  obtain ⟨i0, hi, hz0, hz1, hz2⟩ := info_parts Tryz.info64
  obtain ⟨i1, hi1, hy0, hy1, hy2⟩ := info_parts Tryz.info134
  have HST : Hid (FeAt w fs fa fc 0 (.slice none 0 0) (.slice none 0 0) (fun _ => 0) w) := ⟨Nat.zero_le _, .refl _ _, ⟨rfl, .inl ⟨rfl, rfl⟩⟩, ⟨rfl, .inl ⟨rfl, rfl⟩⟩, fun i f hi => by omega, fun i hi => by omega, fun i j _ hj => by omega⟩
  go_enter Tryz.func11, Tryz.ntmps11
  go_wp2
  go_loopw [4, 5, 11] (fun vl vb v wr => ∃ k : Nat, v = .int .i64 k ∧ ∃ Q, FeAt w fs fa fc k vl vb Q wr) (fun _ _ v _ => fs.length - (intOf v).toNat)
  case atStart => exact ⟨0, rfl, _, HST.out⟩
  case round =>
    obtain ⟨k, rfl, Q, hA⟩ := hrel
    have HA := Sb.hide hA
    have hbz := hA.below.size
    have hk := hA.le
    clear hA HST
    by_cases hlt : k < fs.length
    · obtain ⟨f, hf⟩ : ∃ f, fs[k]? = some f := ⟨_, List.getElem?_eq_getElem hlt⟩
      obtain ⟨fb, foff, rfl, hfb, y0⟩ := hfd.out.rows k f hf
      have y1 : wr.cell? ⟨fb, foff + k, none⟩ = some (.slice (fa k) f.length (fc k)) := (cell_eq (HA.out.below.block fb (by omega)) _).trans y0
      have HF := Sb.hide hf
      obtain ⟨ml, hml⟩ : ∃ m, m = fs.length := ⟨_, rfl⟩
      rw [← hml] at hlt hfew ⊢
      have HML := Sb.hide hml
      have n0 : (0 : Int) ≤ (k : Int) := by omega
      have n1 : (k : Int) < (ml : Int) := by omega
      have HP : Hid (((wr.alloc (lsO (fa k) f.length (fc k) 0 (.slice none 0 0))).alloc (.cells #[.pointer (some ⟨wr.heap.size, 0, none⟩)] 64)).ownsRow w.heap.size 64 1 u4 k (ptrs Q k)) := (HA.out.ptr.alloc _).alloc _
      clear hml hf y0 hfd
      go_wp2_with (at_builtin; refine wpList_append_where rfl (.tmp 18) (.tmp 20) 48 rfl w.heap.size 64 i0 (.pointer none) 1 8 Tryz.underlying48 hi hz0 hz1 hz2 rfl (by decide) u4 k (ptrs Q k) rfl HP.out ⟨(wr.alloc (lsO (fa k) f.length (fc k) 0 (.slice none 0 0))).heap.size, 0, none⟩ 1 1 [.pointer (some ⟨wr.heap.size, 0, none⟩)] (by rw [show (wr.alloc (lsO (fa k) f.length (fc k) 0 (.slice none 0 0))).heap.size = wr.heap.size + 1 by simp]; rfl) rfl (news1 (wr.alloc (lsO (fa k) f.length (fc k) 0 (.slice none 0 0))) _ _) (ones1 rfl) (by decide) (by unfold maxLen; omega) (by omega) (by simp; omega) ?_)
      intro R3 cap3 w3 hown3 hg3 hR3
      have H3 := Sb.hide hown3
      have G3 := Sb.hide hg3
      have hz3 := hg3.size
      simp at hz3
      have HI : Hid ((w3.alloc (.cells #[.iface 64 (.pointer (some ⟨wr.heap.size, 0, none⟩))] 134)).ownsRow w.heap.size 134 1 u5 k (ifcs Q k)) := by
        refine World.ownsRow.alloc (own_keep HA.out.ifc (fun b hb => ?_)) _
        have hbl := (HA.out.ifc.lt b hb).2
        refine (hg3.block b (by simp; omega) (fun e => ?_)).trans ((Below.heap_alloc _ _ _ (by simp; omega)).trans (Below.heap_alloc _ _ _ hbl))
        obtain ⟨cur, hc⟩ := own_ty HA.out.ifc hb
        obtain ⟨cur2, hc2⟩ := own_ty HA.out.ptr e.symm
        rw [hc] at hc2
        simp at hc2
      clear hown3 hg3 hR3
      go_wp2_with (at_builtin; refine wpList_append_where rfl (.tmp 22) (.tmp 25) 49 rfl w.heap.size 134 i1 .nilIface 1 16 Tryz.underlying49 hi1 hy0 hy1 hy2 rfl (by decide) u5 k (ifcs Q k) rfl HI.out ⟨w3.heap.size, 0, none⟩ 1 1 [.iface 64 (.pointer (some ⟨wr.heap.size, 0, none⟩))] rfl rfl (news1 w3 _ _) (ones1 rfl) (by decide) (by unfold maxLen; omega) (by omega) (by simp; omega) ?_)
      intro R5 cap5 w5 hown5 hg5 hR5
      have HREL := Sb.hide (HA.out.more HF.out H3.out G3.out hown5 hg5)
      clear hown5 hg5 hR5
      go_wp2
      go_roundw
      case rel => exact ⟨k + 1, by go_num, _, HREL.out⟩
      case measure => simp [intOf]; omega
    · have n1 : ¬ (k : Int) < (fs.length : Int) := by omega
      have ek : k = fs.length := by omega
      subst ek
      go_wp2
      exact bodyPost_ret (v := .tuple #[_, _]) (by simp [results, Tryz.results11, go_sem] <;> first | exact ⟨rfl, rfl⟩ | rfl) rfl ⟨_, _, rfl, Q, HA.out⟩
end Go.Proofs.YtnfbfdajdflfgaaGreat.Vw

