/- The places of a unit's numbers: the walk of unit's closure. -/
import Derived.Test.YtlicfdligldhdaaDoorM18
namespace Go.Proofs.YtlicfdligldhdaaDoor.Aw
open Go.RowKit As

theorem enter_loc (args : Array Value) (w : World) : Sem.run Tryd.prog (callFunc 42 args) w = .ok (.enter 42 args) w := by kernel_rfl

abbrev unB (kd p : Int) (vl : Value) (r t : Int) : Obj := .cells #[.int .i64 kd, .int .i64 p, vl, .int .i64 r, .int .i64 t, .slice none 0 0] 43 (0, 0)
theorem unB_cells {w : World} {N : Nat} {kd p r t : Int} {vl : Value} (h : w.heap[N]? = some (unB kd p vl r t)) : w.cell? ⟨N, 0, none⟩ = some (.int .i64 kd) ∧ w.cell? ⟨N, 1, none⟩ = some (.int .i64 p) ∧ w.cell? ⟨N, 2, none⟩ = some vl ∧ w.cell? ⟨N, 3, none⟩ = some (.int .i64 r) ∧ w.cell? ⟨N, 4, none⟩ = some (.int .i64 t) ∧ w.cell? ⟨N, 5, none⟩ = some (.slice none 0 0) ∧ w.frozen? ⟨N, 1, none⟩ = false ∧ w.frozen? ⟨N, 2, none⟩ = false ∧ w.frozen? ⟨N, 3, none⟩ = false ∧ w.frozen? ⟨N, 4, none⟩ = false := by
  simp [World.cell?, World.frozen?, h]

set_option maxHeartbeats 1000000 in
theorem loc_any (C N : Nat) (n : Int) (kd p r t : Int) (j : Nat) (xs : List Value) (vl : Value) (w : World) (hj : Hid (j ≤ 70000)) (hC : Hid (C ≤ w.heap.size)) (hN : Hid (w.heap[N]? = some (unB kd p vl r t))) (ho : Hid (w.ownsRow C 3 1 vl j xs)) :
    Calls Tryd.prog 42 #[.int .i64 n, ptI N 0] w fun e w' => e = .returned (.tuple #[]) ∧ ∃ vl' w1 w2, w' = w2.setCell ⟨N, 2, none⟩ vl' ∧ Below w.heap.size w w1 ∧ w1.grownBy w2 vl.ownBlock ∧ w2.ownsRow C 3 1 vl' (j + 1) (xs ++ [.int .i64 n]) := by
  obtain ⟨i0, hi, hz0, hz1, hz2⟩ := info_parts infoInt
  obtain ⟨_, _, c2, _, _, _, _, f2, _, _⟩ := unB_cells hN.out
  have hNl := lt_of_block hN.out
  obtain ⟨av, cv, rfl⟩ := own_form ho.out
  go_enter Tryd.func42, Tryd.ntmps42
  go_wp2_with (at_builtin; refine wpList_append_own _ rfl _ _ 40 rfl C 3 i0 (.int .i64 0) 1 8 Tryd.underlying40 hi hz0 hz1 hz2 rfl (by decide) _ j xs rfl (own_new ho.out ((Below.refl _ _).alloc (Nat.le_refl _) _)) ⟨w.heap.size, 0, none⟩ 1 1 [.int .i64 n] rfl rfl (news_at w [.int .i64 n] _) (all_one rfl) (by have := hj.out; unfold maxLen; omega) (by have := hj.out; omega) (by have := hC.out; simp; omega) ?_; intro v' w2 hown' hgrow _; have hblk := (hgrow.block N (by simp; omega) (fun e => own_ty ho.out hN.out (by decide) e.symm)).trans ((Below.heap_alloc _ _ _ hNl).trans hN.out); obtain ⟨_, _, b2, _, _, _, _, g2, _, _⟩ := unB_cells hblk; have HO := hide hown'; have HG := hide hgrow; obtain ⟨a2, c2', hv2⟩ := own_form hown'; subst hv2; clear hown' hgrow hblk)
  go_wp2
  go_end0
  exact ⟨rfl, _, _, w2, rfl, (Below.refl _ _).alloc (Nat.le_refl _) _, HG.out, HO.out⟩

abbrev funV (p : Nat × Array Value) : Value := .func (.func p.1) #[] p.2
/-- The places of a unit's k numbers. -/
def fsU (N k : Nat) : List (Nat × Array Value) := [(57, #[ptI (N + 1) 0]), (57, #[ptI (N + 1 + 1) 0]), (57, #[ptI (N + 1 + 1 + 1) 0])] ++ List.replicate (k - 3) (42, #[ptI N 0])
theorem fsU_len {N k : Nat} (h : 3 ≤ k) : (fsU N k).length = k := by simp [fsU]; omega
theorem fsU_at {N k i : Nat} {p : Nat × Array Value} (h : (fsU N k)[i]? = some p) : (i = 0 ∧ p = (57, #[ptI (N + 1) 0])) ∨ (i = 1 ∧ p = (57, #[ptI (N + 1 + 1) 0])) ∨ (i = 2 ∧ p = (57, #[ptI (N + 1 + 1 + 1) 0])) ∨ (3 ≤ i ∧ p = (42, #[ptI N 0])) := by
  match i, h with
  | 0, h => exact .inl ⟨rfl, by simp [fsU] at h; exact h.symm⟩
  | 1, h => exact .inr (.inl ⟨rfl, by simp [fsU] at h; exact h.symm⟩)
  | 2, h => exact .inr (.inr (.inl ⟨rfl, by simp [fsU] at h; exact h.symm⟩))
  | i + 3, h =>
    refine .inr (.inr (.inr ⟨by omega, ?_⟩))
    simp [fsU, List.getElem?_replicate] at h
    exact h.2.symm

def locL (ws : List By) (k : Nat) : List Int := ((ws.drop 3).take (k - 3)).map guess
theorem locL_next {ws : List By} {k : Nat} {x : By} (hk : 3 ≤ k) (hx : ws[k]? = some x) : locL ws (k + 1) = locL ws k ++ [guess x] := by
  have h1 : (ws.drop 3)[k - 3]? = some x := by rw [List.getElem?_drop, show 3 + (k - 3) = k by omega]; exact hx
  obtain ⟨hl, rfl⟩ := List.getElem?_eq_some_iff.1 h1
  unfold locL
  rw [show k + 1 - 3 = k - 3 + 1 by omega, List.take_succ_eq_append_getElem hl, List.map_append]
  rfl
theorem locL_low (ws : List By) {k : Nat} (hk : k ≤ 3) : locL ws k = [] := by unfold locL; rw [show k - 3 = 0 by omega]; rfl

structure UnI (B N : Nat) (w : World) (ws : List By) (kd : Int) (vp : Value) (n : Nat) (k : Nat) (W : World) : Prop where
  le : k ≤ 70000
  gv : GV B w
  hB : B ≤ w.heap.size
  hN : w.heap.size ≤ N
  below : Below w.heap.size w W
  size : N + 4 ≤ W.heap.size
  un : ∃ vl, W.heap[N]? = some (unB kd (fld ws k 0) vl (fld ws k 1) (fld ws k 2)) ∧ W.ownsRow N 3 1 vl (locL ws k).length ((locL ws k).map (Value.int .i64))
  p0 : W.heap[N + 1]? = some (.cells #[ptI N 1] 93 (0, 0))
  p1 : W.heap[N + 1 + 1]? = some (.cells #[ptI N 3] 93 (0, 0))
  p2 : W.heap[N + 1 + 1 + 1]? = some (.cells #[ptI N 4] 93 (0, 0))
  pl : W.ownsRow N 91 1 vp n ((fsU N n).map funV)

theorem setU_1 {w : World} {N : Nat} {kd p r t : Int} {vl : Value} (h : w.heap[N]? = some (unB kd p vl r t)) (v : Int) : (w.setCell ⟨N, 1, none⟩ (.int .i64 v)).heap[N]? = some (unB kd v vl r t) := by
  simp only [World.setCell, Array.getElem?_modify, if_true, h, Option.map_some]
  rfl
theorem setU_2 {w : World} {N : Nat} {kd p r t : Int} {vl : Value} (h : w.heap[N]? = some (unB kd p vl r t)) (v : Value) : (w.setCell ⟨N, 2, none⟩ v).heap[N]? = some (unB kd p v r t) := by
  simp only [World.setCell, Array.getElem?_modify, if_true, h, Option.map_some]
  rfl
theorem setU_3 {w : World} {N : Nat} {kd p r t : Int} {vl : Value} (h : w.heap[N]? = some (unB kd p vl r t)) (v : Int) : (w.setCell ⟨N, 3, none⟩ (.int .i64 v)).heap[N]? = some (unB kd p vl v t) := by
  simp only [World.setCell, Array.getElem?_modify, if_true, h, Option.map_some]
  rfl
theorem setU_4 {w : World} {N : Nat} {kd p r t : Int} {vl : Value} (h : w.heap[N]? = some (unB kd p vl r t)) (v : Int) : (w.setCell ⟨N, 4, none⟩ (.int .i64 v)).heap[N]? = some (unB kd p vl r v) := by
  simp only [World.setCell, Array.getElem?_modify, if_true, h, Option.map_some]
  rfl
/-- A number of a unit's head is set. -/
theorem UnI.set {B N n k o : Nat} {w W : World} {ws : List By} {kd : Int} {vp v : Value} (h : UnI B N w ws kd vp n k W) (hk : k < 3) (hun : ∀ vl, W.heap[N]? = some (unB kd (fld ws k 0) vl (fld ws k 1) (fld ws k 2)) → (W.setCell ⟨N, o, none⟩ v).heap[N]? = some (unB kd (fld ws (k + 1) 0) vl (fld ws (k + 1) 1) (fld ws (k + 1) 2))) : UnI B N w ws kd vp n (k + 1) (W.setCell ⟨N, o, none⟩ v) := by
  obtain ⟨vl, h1, h2⟩ := h.un
  have hk1 := kt_set h1 o v
  refine ⟨by omega, h.gv, h.hB, h.hN, h.below.setCell (p := ⟨N, o, none⟩) h.hN _, by simpa [World.setCell] using h.size, ⟨vl, hun vl h1, ?_⟩, hk1 _ _ _ _ h.p0 (by decide), hk1 _ _ _ _ h.p1 (by decide), hk1 _ _ _ _ h.p2 (by decide), own_kt h.pl hk1 (by decide)⟩
  rw [locL_low ws (by omega)]
  rw [locL_low ws (by omega)] at h2
  exact own_kt h2 hk1 (by decide)

theorem un_places (B N n : Nat) (w : World) (ws : List By) (kd : Int) (g c : Nat) (aw : Option Addr) (hs : StrsW w ws aw) (hl : ws.length ≤ 60010) : Places B ws (fsU N n) aw (some ⟨g, 0, none⟩) (UnI B N w ws kd (.slice (some ⟨g, 0, none⟩) n c) n) := by
  refine ⟨fun k W h => ⟨h.gv.below h.below h.hB, by have := h.size; have := h.hN; have := h.hB; omega⟩, fun k W W' h hb => ?_, fun k W i x h hx => ?_, fun k W i F caps h hf => ?_, fun i F caps hf args W => ?_, fun k F caps x m W hf hx hn h => ?_⟩
  · have hz := h.size
    obtain ⟨vl, h1, h2⟩ := h.un
    exact ⟨h.le, h.gv, h.hB, h.hN, below_on h.below hb, Nat.le_trans hz hb.size, ⟨vl, (hb.block _ (lt_of_block h1)).trans h1, own_new h2 hb⟩, (hb.block _ (lt_of_block h.p0)).trans h.p0, (hb.block _ (lt_of_block h.p1)).trans h.p1, (hb.block _ (lt_of_block h.p2)).trans h.p2, own_new h.pl hb⟩
  · obtain ⟨b, off, e, hb, hc⟩ := hs i x hx
    exact ⟨b, off, e, (h.below.cell (p := ⟨b, off + i, none⟩) hb).trans hc⟩
  · obtain ⟨g', e, _, _, hc⟩ := own_cell h.pl (j := i) (v := funV (F, caps)) (by rw [List.getElem?_map, hf]; rfl)
    cases e
    exact ⟨g, 0, rfl, by rw [Nat.zero_add]; exact hc⟩
  · rcases fsU_at hf with ⟨_, e⟩ | ⟨_, e⟩ | ⟨_, e⟩ | ⟨_, e⟩ <;> cases e
    · exact enter_to args W
    · exact enter_to args W
    · exact enter_to args W
    · exact enter_loc args W
  · obtain ⟨vl, h1, h2⟩ := h.un
    obtain ⟨_, c1, c2, c3, c4, _, g1, g2, g3, g4⟩ := unB_cells h1
    rcases fsU_at hf with ⟨rfl, e⟩ | ⟨rfl, e⟩ | ⟨rfl, e⟩ | ⟨hk, e⟩ <;> cases e
    · refine (toInt1_any ⟨N, 1, none⟩ (N + 1) m _ W (blk1_cell h.p0) c1 g1).mono ?_
      rintro e W' ⟨rfl, rfl⟩
      refine ⟨rfl, h.set (by omega) (fun vl' hv => ?_)⟩
      rw [fld_at hx hn, fld_same ws (k := 0) (i := 1) (by decide), fld_same ws (k := 0) (i := 2) (by decide)]
      exact setU_1 hv _
    · refine (toInt1_any ⟨N, 3, none⟩ (N + 1 + 1) m _ W (blk1_cell h.p1) c3 g3).mono ?_
      rintro e W' ⟨rfl, rfl⟩
      refine ⟨rfl, h.set (by omega) (fun vl' hv => ?_)⟩
      rw [fld_at hx hn, fld_same ws (k := 1) (i := 0) (by decide), fld_same ws (k := 1) (i := 2) (by decide)]
      exact setU_3 hv _
    · refine (toInt1_any ⟨N, 4, none⟩ (N + 1 + 1 + 1) m _ W (blk1_cell h.p2) c4 g4).mono ?_
      rintro e W' ⟨rfl, rfl⟩
      refine ⟨rfl, h.set (by omega) (fun vl' hv => ?_)⟩
      rw [fld_at hx hn, fld_same ws (k := 2) (i := 0) (by decide), fld_same ws (k := 2) (i := 1) (by decide)]
      exact setU_4 hv _
    · have hkl := (List.getElem?_eq_some_iff.1 hx).1
      have hll : (locL ws k).length ≤ 70000 := by simp [locL]; omega
      refine (loc_any N N m kd _ _ _ _ _ vl W (hide hll) (hide (by have := h.size; omega)) (hide h1) (hide h2)).mono ?_
      rintro e W' ⟨rfl, vl', w1, w2, rfl, hb, hg, ho⟩
      have hk2 := kt_grow h2 hb hg
      have hN2 := hk2 _ _ _ _ h1 (by decide)
      have hk3 := hk2.trans (kt_set hN2 2 vl')
      have hn' : m = guess x := num_guess hn
      have hsz : W.heap.size ≤ w2.heap.size := Nat.le_trans hb.size hg.size
      refine ⟨rfl, by omega, h.gv, h.hB, h.hN, ?_, by have := h.size; simp [World.setCell]; omega, ⟨vl', ?_, ?_⟩, hk3 _ _ _ _ h.p0 (by decide), hk3 _ _ _ _ h.p1 (by decide), hk3 _ _ _ _ h.p2 (by decide), own_kt h.pl hk3 (by decide)⟩
      · refine Below.setCell (p := ⟨N, 2, none⟩) ?_ h.hN _
        refine (h.below.trans (hb.mono h.below.size)).grown hg (Nat.le_trans h.below.size hb.size) (fun j hj => ?_)
        have := (own_block h2 hj).1
        have := h.hN
        omega
      · rw [fld_same ws (by omega), fld_same ws (by omega), fld_same ws (by omega)]
        exact setU_2 hN2 _
      · rw [locL_next hk hx, List.length_append, List.map_append, ← hn']
        exact own_set_far ho hN2 (by decide)

end Go.Proofs.YtlicfdligldhdaaDoor.Aw

