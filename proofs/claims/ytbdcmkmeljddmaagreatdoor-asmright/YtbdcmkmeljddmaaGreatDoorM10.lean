/- The places of a unit's numbers: the walk of unit's closure. -/
import Derived.Test.YtbdcmkmeljddmaaGreatDoorM9
namespace Go.Proofs.YtbdcmkmeljddmaaGreatDoor.Aw
open Go.RowKit As

theorem enter_loc (args : Array Value) (w : World) : Sem.run Tryz.prog (callFunc 54 args) w = .ok (.enter 54 args) w := by kernel_rfl

abbrev unB (kd p : Int) (vl : Value) (r t : Int) : Obj := .cells #[.int .i64 kd, .int .i64 p, vl, .int .i64 r, .int .i64 t, .slice none 0 0] 41 (0, 0)
theorem unB_cells {w : World} {N : Nat} {kd p r t : Int} {vl : Value} (h : w.heap[N]? = some (unB kd p vl r t)) : w.cell? ⟨N, 0, none⟩ = some (.int .i64 kd) ∧ w.cell? ⟨N, 1, none⟩ = some (.int .i64 p) ∧ w.cell? ⟨N, 2, none⟩ = some vl ∧ w.cell? ⟨N, 3, none⟩ = some (.int .i64 r) ∧ w.cell? ⟨N, 4, none⟩ = some (.int .i64 t) ∧ w.cell? ⟨N, 5, none⟩ = some (.slice none 0 0) ∧ w.frozen? ⟨N, 1, none⟩ = false ∧ w.frozen? ⟨N, 2, none⟩ = false ∧ w.frozen? ⟨N, 3, none⟩ = false ∧ w.frozen? ⟨N, 4, none⟩ = false := by
  simp [World.cell?, World.frozen?, h]

set_option maxHeartbeats 1000000 in
theorem loc_any (C N : Nat) (n : Int) (kd p r t : Int) (j : Nat) (xs : List Value) (vl : Value) (w : World) (hj : Hid (j ≤ 70000)) (hC : Hid (C ≤ w.heap.size)) (hN : Hid (w.heap[N]? = some (unB kd p vl r t))) (ho : Hid (w.ownsRow C 3 1 vl j xs)) :
    Calls Tryz.prog 54 #[.int .i64 n, ptI N 0] w fun e w' => e = .returned (.tuple #[]) ∧ ∃ vl' w1 w2, w' = w2.setCell ⟨N, 2, none⟩ vl' ∧ Below w.heap.size w w1 ∧ w1.grownBy w2 vl.ownBlock ∧ w2.ownsRow C 3 1 vl' (j + 1) (xs ++ [.int .i64 n]) := by
  obtain ⟨i0, hi, hz0, hz1, hz2⟩ := info_parts infoInt
  obtain ⟨_, _, c2, _, _, _, _, f2, _, _⟩ := unB_cells hN.out
  have hNl := lt_of_block hN.out
  obtain ⟨av, cv, rfl⟩ := own_form ho.out
  go_enter Tryz.func54, Tryz.ntmps54
  go_wp2_with (at_builtin; refine wpList_append_own _ rfl _ _ 38 rfl C 3 i0 (.int .i64 0) 1 8 Tryz.underlying38 hi hz0 hz1 hz2 rfl (by decide) _ j xs rfl (own_new ho.out ((Below.refl _ _).alloc (Nat.le_refl _) _)) ⟨w.heap.size, 0, none⟩ 1 1 [.int .i64 n] rfl rfl (news_at w [.int .i64 n] _) (all_one rfl) (by have := hj.out; unfold maxLen; omega) (by have := hj.out; omega) (by have := hC.out; simp; omega) ?_; intro v' w2 hown' hgrow _; have hblk := (hgrow.block N (by simp; omega) (fun e => own_ty ho.out hN.out (by decide) e.symm)).trans ((Below.heap_alloc _ _ _ hNl).trans hN.out); obtain ⟨_, _, b2, _, _, _, _, g2, _, _⟩ := unB_cells hblk; have HO := hide hown'; have HG := hide hgrow; obtain ⟨a2, c2', hv2⟩ := own_form hown'; subst hv2; clear hown' hgrow hblk)
  go_wp2
  go_end0
  exact ⟨rfl, _, _, w2, rfl, (Below.refl _ _).alloc (Nat.le_refl _) _, HG.out, HO.out⟩

abbrev funV (p : Nat × Array Value) : Value := .func (.func p.1) #[] p.2
/-- The places of a unit's k numbers. -/
def fsU (N k : Nat) : List (Nat × Array Value) := [(80, #[ptI (N + 1) 0]), (80, #[ptI (N + 1 + 1) 0]), (80, #[ptI (N + 1 + 1 + 1) 0])] ++ List.replicate (k - 3) (54, #[ptI N 0])
theorem fsU_len {N k : Nat} (h : 3 ≤ k) : (fsU N k).length = k := by simp [fsU]; omega
theorem fsU_at {N k i : Nat} {p : Nat × Array Value} (h : (fsU N k)[i]? = some p) : (i = 0 ∧ p = (80, #[ptI (N + 1) 0])) ∨ (i = 1 ∧ p = (80, #[ptI (N + 1 + 1) 0])) ∨ (i = 2 ∧ p = (80, #[ptI (N + 1 + 1 + 1) 0])) ∨ (3 ≤ i ∧ p = (54, #[ptI N 0])) := by
  match i, h with
  | 0, h => exact .inl ⟨rfl, by simp [fsU] at h; exact h.symm⟩
  | 1, h => exact .inr (.inl ⟨rfl, by simp [fsU] at h; exact h.symm⟩)
  | 2, h => exact .inr (.inr (.inl ⟨rfl, by simp [fsU] at h; exact h.symm⟩))
  | i + 3, h =>
    refine .inr (.inr (.inr ⟨by omega, ?_⟩))
    simp [fsU, List.getElem?_replicate] at h
    exact h.2.symm

def locL (ws : List By) (k : Nat) : List Int := ((ws.drop 3).take (k - 3)).map guess
theorem locL_next {ws : List By} {k : Nat} {x : By} (hk : 3 ≤ k) (hx : ws[k]? = some x) : locL ws (k + 1) = locL ws k ++ [guess x] := by
  have h1 : (ws.drop 3)[k - 3]? = some x := by rw [List.getElem?_drop, show 3 + (k - 3) = k by omega]; exact hx
  obtain ⟨hl, rfl⟩ := List.getElem?_eq_some_iff.1 h1
  unfold locL
  rw [show k + 1 - 3 = k - 3 + 1 by omega, List.take_succ_eq_append_getElem hl, List.map_append]
  rfl
theorem locL_low (ws : List By) {k : Nat} (hk : k ≤ 3) : locL ws k = [] := by unfold locL; rw [show k - 3 = 0 by omega]; rfl

structure UnI (B N : Nat) (w : World) (ws : List By) (kd : Int) (vp : Value) (n : Nat) (k : Nat) (W : World) : Prop where
  le : k ≤ 70000
  gv : GV B w
  hB : B ≤ w.heap.size
  hN : w.heap.size ≤ N
  below : Below w.heap.size w W
  size : N + 4 ≤ W.heap.size
  un : ∃ vl, W.heap[N]? = some (unB kd (fld ws k 0) vl (fld ws k 1) (fld ws k 2)) ∧ W.ownsRow N 3 1 vl (locL ws k).length ((locL ws k).map (Value.int .i64))
  p0 : W.heap[N + 1]? = some (.cells #[ptI N 1] 114 (0, 0))
  p1 : W.heap[N + 1 + 1]? = some (.cells #[ptI N 3] 114 (0, 0))
  p2 : W.heap[N + 1 + 1 + 1]? = some (.cells #[ptI N 4] 114 (0, 0))
  pl : W.ownsRow N 112 1 vp n ((fsU N n).map funV)

theorem setU_1 {w : World} {N : Nat} {kd p r t : Int} {vl : Value} (h : w.heap[N]? = some (unB kd p vl r t)) (v : Int) : (w.setCell ⟨N, 1, none⟩ (.int .i64 v)).heap[N]? = some (unB kd v vl r t) := by
  simp only [World.setCell, Array.getElem?_modify, if_true, h, Option.map_some]
  rfl
theorem setU_2 {w : World} {N : Nat} {kd p r t : Int} {vl : Value} (h : w.heap[N]? = some (unB kd p vl r t)) (v : Value) : (w.setCell ⟨N, 2, none⟩ v).heap[N]? = some (unB kd p v r t) := by
  simp only [World.setCell, Array.getElem?_modify, if_true, h, Option.map_some]
  rfl
theorem setU_3 {w : World} {N : Nat} {kd p r t : Int} {vl : Value} (h : w.heap[N]? = some (unB kd p vl r t)) (v : Int) : (w.setCell ⟨N, 3, none⟩ (.int .i64 v)).heap[N]? = some (unB kd p vl v t) := by
  simp only [World.setCell, Array.getElem?_modify, if_true, h, Option.map_some]
  rfl
theorem setU_4 {w : World} {N : Nat} {kd p r t : Int} {vl : Value} (h : w.heap[N]? = some (unB kd p vl r t)) (v : Int) : (w.setCell ⟨N, 4, none⟩ (.int .i64 v)).heap[N]? = some (unB kd p vl r v) := by
  simp only [World.setCell, Array.getElem?_modify, if_true, h, Option.map_some]
  rfl
/-- A number of a unit's head is set. -/
theorem UnI.set {B N n k o : Nat} {w W : World} {ws : List By} {kd : Int} {vp v : Value} (h : UnI B N w ws kd vp n k W) (hk : k < 3) (hun : ∀ vl, W.heap[N]? = some (unB kd (fld ws k 0) vl (fld ws k 1) (fld ws k 2)) → (W.setCell ⟨N, o, none⟩ v).heap[N]? = some (unB kd (fld ws (k + 1) 0) vl (fld ws (k + 1) 1) (fld ws (k + 1) 2))) : UnI B N w ws kd vp n (k + 1) (W.setCell ⟨N, o, none⟩ v) := by
  obtain ⟨vl, h1, h2⟩ := h.un
  have hk1 := kt_set h1 o v
  refine ⟨by omega, h.gv, h.hB, h.hN, h.below.setCell (p := ⟨N, o, none⟩) h.hN _, by simpa [World.setCell] using h.size, ⟨vl, hun vl h1, ?_⟩, hk1 _ _ _ _ h.p0 (by decide), hk1 _ _ _ _ h.p1 (by decide), hk1 _ _ _ _ h.p2 (by decide), own_kt h.pl hk1 (by decide)⟩
  rw [locL_low ws (by omega)]
  rw [locL_low ws (by omega)] at h2
  exact own_kt h2 hk1 (by decide)

theorem un_places (B N n : Nat) (w : World) (ws : List By) (kd : Int) (g c : Nat) (aw : Option Addr) (hs : StrsW w ws aw) (hl : ws.length ≤ 60010) : Places B ws (fsU N n) aw (some ⟨g, 0, none⟩) (UnI B N w ws kd (.slice (some ⟨g, 0, none⟩) n c) n) := by
  refine ⟨fun k W h => ⟨h.gv.below h.below h.hB, by have := h.size; have := h.hN; have := h.hB; omega⟩, fun k W W' h hb => ?_, fun k W i x h hx => ?_, fun k W i F caps h hf => ?_, fun i F caps hf args W => ?_, fun k F caps x m W hf hx hn h => ?_⟩
  · have hz := h.size
    obtain ⟨vl, h1, h2⟩ := h.un
    exact ⟨h.le, h.gv, h.hB, h.hN, below_on h.below hb, Nat.le_trans hz hb.size, ⟨vl, (hb.block _ (lt_of_block h1)).trans h1, own_new h2 hb⟩, (hb.block _ (lt_of_block h.p0)).trans h.p0, (hb.block _ (lt_of_block h.p1)).trans h.p1, (hb.block _ (lt_of_block h.p2)).trans h.p2, own_new h.pl hb⟩
  · obtain ⟨b, off, e, hb, hc⟩ := hs i x hx
    exact ⟨b, off, e, (h.below.cell (p := ⟨b, off + i, none⟩) hb).trans hc⟩
  · obtain ⟨g', e, _, _, hc⟩ := own_cell h.pl (j := i) (v := funV (F, caps)) (by rw [List.getElem?_map, hf]; rfl)
    cases e
    exact ⟨g, 0, rfl, by rw [Nat.zero_add]; exact hc⟩
  · rcases fsU_at hf with ⟨_, e⟩ | ⟨_, e⟩ | ⟨_, e⟩ | ⟨_, e⟩ <;> cases e
    · exact enter_to args W
    · exact enter_to args W
    · exact enter_to args W
    · exact enter_loc args W
  · obtain ⟨vl, h1, h2⟩ := h.un
    obtain ⟨_, c1, c2, c3, c4, _, g1, g2, g3, g4⟩ := unB_cells h1
    rcases fsU_at hf with ⟨rfl, e⟩ | ⟨rfl, e⟩ | ⟨rfl, e⟩ | ⟨hk, e⟩ <;> cases e
    · refine (toInt1_any ⟨N, 1, none⟩ (N + 1) m _ W (blk1_cell h.p0) c1 g1).mono ?_
      rintro e W' ⟨rfl, rfl⟩
      refine ⟨rfl, h.set (by omega) (fun vl' hv => ?_)⟩
      rw [fld_at hx hn, fld_same ws (k := 0) (i := 1) (by decide), fld_same ws (k := 0) (i := 2) (by decide)]
      exact setU_1 hv _
    · refine (toInt1_any ⟨N, 3, none⟩ (N + 1 + 1) m _ W (blk1_cell h.p1) c3 g3).mono ?_
      rintro e W' ⟨rfl, rfl⟩
      refine ⟨rfl, h.set (by omega) (fun vl' hv => ?_)⟩
      rw [fld_at hx hn, fld_same ws (k := 1) (i := 0) (by decide), fld_same ws (k := 1) (i := 2) (by decide)]
      exact setU_3 hv _
    · refine (toInt1_any ⟨N, 4, none⟩ (N + 1 + 1 + 1) m _ W (blk1_cell h.p2) c4 g4).mono ?_
      rintro e W' ⟨rfl, rfl⟩
      refine ⟨rfl, h.set (by omega) (fun vl' hv => ?_)⟩
      rw [fld_at hx hn, fld_same ws (k := 2) (i := 0) (by decide), fld_same ws (k := 2) (i := 1) (by decide)]
      exact setU_4 hv _
    · have hkl := (List.getElem?_eq_some_iff.1 hx).1
      have hll : (locL ws k).length ≤ 70000 := by simp [locL]; omega
      refine (loc_any N N m kd _ _ _ _ _ vl W (hide hll) (hide (by have := h.size; omega)) (hide h1) (hide h2)).mono ?_
      rintro e W' ⟨rfl, vl', w1, w2, rfl, hb, hg, ho⟩
      have hk2 := kt_grow h2 hb hg
      have hN2 := hk2 _ _ _ _ h1 (by decide)
      have hk3 := hk2.trans (kt_set hN2 2 vl')
      have hn' : m = guess x := num_guess hn
      have hsz : W.heap.size ≤ w2.heap.size := Nat.le_trans hb.size hg.size
      refine ⟨rfl, by omega, h.gv, h.hB, h.hN, ?_, by have := h.size; simp [World.setCell]; omega, ⟨vl', ?_, ?_⟩, hk3 _ _ _ _ h.p0 (by decide), hk3 _ _ _ _ h.p1 (by decide), hk3 _ _ _ _ h.p2 (by decide), own_kt h.pl hk3 (by decide)⟩
      · refine Below.setCell (p := ⟨N, 2, none⟩) ?_ h.hN _
        refine (h.below.trans (hb.mono h.below.size)).grown hg (Nat.le_trans h.below.size hb.size) (fun j hj => ?_)
        have := (own_block h2 hj).1
        have := h.hN
        omega
      · rw [fld_same ws (by omega), fld_same ws (by omega), fld_same ws (by omega)]
        exact setU_2 hN2 _
      · rw [locL_next hk hx, List.length_append, List.map_append, ← hn']
        exact own_set_far ho hN2 (by decide)

end Go.Proofs.YtbdcmkmeljddmaaGreatDoor.Aw

/- The walk of reader.unit. -/
namespace Go.Proofs.YtbdcmkmeljddmaaGreatDoor.Aw
open Go.RowKit As

def unitL (m : Vf.Md) (word : By) (ws : List By) : Option Vf.Md := match nums ws with
  | none => none
  | some l => if kindOf word = 0 then none else match l with
    | p :: r :: t :: ls => some ⟨m.boxes, m.units ++ [⟨kindOf word, p, ls, r, t, []⟩]⟩
    | _ => none
theorem unitL_kind {m : Vf.Md} {word : By} {ws : List By} (h : kindOf word = 0) : unitL m word ws = none := by
  unfold unitL
  split
  · rfl
  · rw [if_pos h]
theorem unitL_no {m : Vf.Md} {word : By} {ws : List By} (h : ws.length < 3 ∨ nums ws = none) : unitL m word ws = none := by
  unfold unitL
  split
  · rfl
  · rename_i l hl
    split
    · rfl
    · split
      · rename_i p r t ls
        exfalso
        rcases h with h | h
        · have := (nums_some hl).1
          rw [← this] at h
          simp at h
          omega
        · rw [h] at hl; cases hl
      · rfl
theorem unitL_yes {m : Vf.Md} {word : By} {ws : List By} {ns : List Int} (hn : nums ws = some ns) (hk : kindOf word ≠ 0) (hl : 3 ≤ ws.length) : unitL m word ws = some ⟨m.boxes, m.units ++ [⟨kindOf word, fld ws ws.length 0, locL ws ws.length, fld ws ws.length 1, fld ws ws.length 2, []⟩]⟩ := by
  have hg := nums_guess hn
  unfold unitL
  rw [hn]
  simp only
  rw [if_neg hk]
  match ws, hl, hg with
  | x :: y :: z :: ws, _, hg =>
    subst hg
    simp [fld, locL]

/-- The places so far. -/
structure PlAt (N : Nat) (w W0 : World) (kd : Int) (k : Nat) (v : Value) (W : World) : Prop where
  below : Below w.heap.size w W
  size : N + 5 ≤ W.heap.size
  un : W.heap[N]? = some (unB kd 0 (.slice none 0 0) 0 0)
  p0 : W.heap[N + 1]? = some (.cells #[ptI N 1] 114 (0, 0))
  p1 : W.heap[N + 1 + 1]? = some (.cells #[ptI N 3] 114 (0, 0))
  p2 : W.heap[N + 1 + 1 + 1]? = some (.cells #[ptI N 4] 114 (0, 0))
  pl : W.ownsRow N 112 1 v k ((fsU N k).map funV)
theorem fsU_next {N k : Nat} (h : 3 ≤ k) : (fsU N (k + 1)).map funV = (fsU N k).map funV ++ [.func (.func 54) #[] #[ptI N 0]] := by
  unfold fsU
  rw [show k + 1 - 3 = k - 3 + 1 by omega, List.replicate_succ', List.map_append, List.map_append, List.map_append]
  simp
theorem PlAt.step {N k : Nat} {w W0 W w1 w2 : World} {kd : Int} {v v' : Value} (h : PlAt N w W0 kd k v W) (hN : w.heap.size ≤ N) (hk : 3 ≤ k) (hb : Below W.heap.size W w1) (hg : w1.grownBy w2 v.ownBlock) (ho : w2.ownsRow N 112 1 v' (k + 1) ((fsU N k).map funV ++ [.func (.func 54) #[] #[ptI N 0]])) : PlAt N w W0 kd (k + 1) v' w2 := by
  have hk2 := kt_grow h.pl hb hg
  refine ⟨(h.below.trans (hb.mono h.below.size)).grown hg (Nat.le_trans h.below.size hb.size) (fun j hj => ?_), Nat.le_trans h.size (Nat.le_trans hb.size hg.size), hk2 _ _ _ _ h.un (by decide), hk2 _ _ _ _ h.p0 (by decide), hk2 _ _ _ _ h.p1 (by decide), hk2 _ _ _ _ h.p2 (by decide), by rw [fsU_next hk]; exact ho⟩
  have := (own_block h.pl hj).1
  omega
theorem five_new (w : World) (a b c d e : Obj) : (((((w.alloc a).alloc b).alloc c).alloc d).alloc e).heap.size = w.heap.size + 5 ∧ (((((w.alloc a).alloc b).alloc c).alloc d).alloc e).heap[w.heap.size]? = some a ∧ (((((w.alloc a).alloc b).alloc c).alloc d).alloc e).heap[w.heap.size + 1]? = some b ∧ (((((w.alloc a).alloc b).alloc c).alloc d).alloc e).heap[w.heap.size + 1 + 1]? = some c ∧ (((((w.alloc a).alloc b).alloc c).alloc d).alloc e).heap[w.heap.size + 1 + 1 + 1]? = some d ∧ (((((w.alloc a).alloc b).alloc c).alloc d).alloc e).heap[w.heap.size + 1 + 1 + 1 + 1]? = some e := by
  obtain ⟨s, h1, h2, h3, h4⟩ := four_new w a b c d
  refine ⟨by simp, ?_, ?_, ?_, ?_, ?_⟩
  · rw [Below.heap_alloc _ _ _ (by omega)]; exact h1
  · rw [Below.heap_alloc _ _ _ (by omega)]; exact h2
  · rw [Below.heap_alloc _ _ _ (by omega)]; exact h3
  · rw [Below.heap_alloc _ _ _ (by omega)]; exact h4
  · have := heap_alloc_new ((((w.alloc a).alloc b).alloc c).alloc d) e
    rw [s] at this
    exact this

def lenV : Value → Nat
  | .slice _ n _ => n
  | _ => 0
abbrev uvO (x : UV) : Obj := .cells #[.int .i64 x.u.kind, .int .i64 x.u.params, .slice x.al x.u.locals.length x.cl, .int .i64 x.u.result, .int .i64 x.u.takes, .slice x.ac x.u.code.length x.cc] 41 (0, 0)
theorem uvO_cells {w : World} {N : Nat} {x : UV} (h : w.heap[N]? = some (uvO x)) : w.cell? ⟨N, 0, none⟩ = some (.int .i64 x.u.kind) ∧ w.cell? ⟨N, 1, none⟩ = some (.int .i64 x.u.params) ∧ w.cell? ⟨N, 2, none⟩ = some (.slice x.al x.u.locals.length x.cl) ∧ w.cell? ⟨N, 3, none⟩ = some (.int .i64 x.u.result) ∧ w.cell? ⟨N, 4, none⟩ = some (.int .i64 x.u.takes) ∧ w.cell? ⟨N, 5, none⟩ = some (.slice x.ac x.u.code.length x.cc) := by
  simp [World.cell?, h]
theorem fld_mem {ws : List By} {i : Nat} (h : i < ws.length) : fld ws ws.length i ∈ ws.map guess := by
  unfold fld
  rw [if_pos h, List.getD_eq_getElem?_getD, List.getElem?_eq_getElem h]
  exact List.mem_map.2 ⟨ws[i], List.getElem_mem h, rfl⟩

set_option maxHeartbeats 4000000 in
set_option maxRecDepth 100000 in
theorem unit_r (B R U J K : Nat) (hK : Hid (K ≤ 60000)) (word : By) (ws : List By) (aw : Option Addr) (cw : Nat) (hw : Hid (∀ x ∈ ws, x.length ≤ 60000)) (hwl : Hid (ws.length ≤ 60010)) (w : World) (hg : Hid (GV B w)) (m : Vf.Md) (h : Hid (RD B R U J K w m)) (hs : Hid (StrsW w ws aw)) (r : Option Vf.Md) (hr : Hid (r = unitL m word ws)) :
    Calls Tryz.prog 34 #[ptI R 0, sv word, .slice aw ws.length cw] w fun e w' => ∃ b, e = .returned (.bool b) ∧ LineR B R U J K w w' b r := by
  obtain ⟨i0, hi, hz0, hz1, hz2⟩ := info_parts Tryz.infounit
  obtain ⟨i1, hj, hy0, hy1, hy2⟩ := info_parts infoPlace
  obtain ⟨vb, vu, us, C, hx⟩ := h.out
  obtain ⟨ab, cb, rfl⟩ := own_form hx.boxes
  obtain ⟨au, cu, rfl⟩ := own_form hx.units
  have HFW : Hid (us.length + 1 ≤ 60001) := by unfold Hid; have := hx.few.2.1; have := hK.out; omega
  have HX0 := hide hx
  obtain ⟨_, _, c2, c3, _⟩ := rd_cells hx.blk
  clear hx
  obtain ⟨ix, hix⟩ : ∃ ix, ix = idxI word unitW := ⟨_, rfl⟩
  have HIX := hide hix
  clear hix
  go_enter Tryz.func34, Tryz.ntmps34
  go_wp2_with fail
  refine (kind_any U unitW word 2 (by decide) (by decide) w (hide HX0.out.wu) ix HIX).mono ?_
  rintro e wa ⟨rfl, hba⟩
  have HBA := hide hba
  clear hba c2 c3
  obtain ⟨kd, hkd⟩ : ∃ kd, kd = 2 + ix := ⟨_, rfl⟩
  rw [← hkd]
  have HKD := hide hkd
  clear hkd
  generalize hok : decide (0 ≤ ix) = okb
  have HOK := hide hok
  clear hok
  have HPL : Hid (PlAt wa.heap.size w w kd 3 (.slice (some ⟨wa.heap.size + 1 + 1 + 1 + 1, 0, none⟩) 3 3) (((((wa.alloc (unB kd 0 (.slice none 0 0) 0 0)).alloc (.cells #[ptI wa.heap.size 1] 114)).alloc (.cells #[ptI wa.heap.size 3] 114)).alloc (.cells #[ptI wa.heap.size 4] 114)).alloc (.cells #[toF (wa.heap.size + 1), toF (wa.heap.size + 1 + 1), toF (wa.heap.size + 1 + 1 + 1)] 112))) := by
    obtain ⟨z0, z1, z2, z3, z4, z5⟩ := five_new wa (unB kd 0 (.slice none 0 0) 0 0) (.cells #[ptI wa.heap.size 1] 114) (.cells #[ptI wa.heap.size 3] 114) (.cells #[ptI wa.heap.size 4] 114) (.cells #[toF (wa.heap.size + 1), toF (wa.heap.size + 1 + 1), toF (wa.heap.size + 1 + 1 + 1)] 112)
    refine ⟨below_on HBA.out (((((((Below.refl wa.heap.size wa).alloc (by simp) _).alloc (by simp) _).alloc (by simp; omega) _).alloc (by simp; omega) _).alloc (by simp; omega) _)), Nat.le_of_eq z0.symm, z1, z2, z3, z4, ?_⟩
    exact ⟨by simp [fsU], .inr ⟨_, 3, _, rfl, by omega, z5, Nat.le_refl _, by unfold maxLen; omega, rfl, rfl⟩⟩
  go_wp2_with fail
  refine (toInt_any ⟨wa.heap.size, 1, none⟩ _).mono ?_
  rintro e w1 ⟨rfl, rfl⟩
  go_wp2_with fail
  refine (toInt_any ⟨wa.heap.size, 3, none⟩ _).mono ?_
  rintro e w2 ⟨rfl, rfl⟩
  go_wp2_with fail
  refine (toInt_any ⟨wa.heap.size, 4, none⟩ _).mono ?_
  rintro e w3 ⟨rfl, rfl⟩
  go_wp2_with fail
  obtain ⟨N, hN⟩ : ∃ N, N = wa.heap.size := ⟨_, rfl⟩
  have HN : Hid (w.heap.size ≤ N) := by unfold Hid; rw [hN]; exact HBA.out.size
  rw [← hN] at HPL ⊢
  generalize (((((wa.alloc (unB kd 0 (.slice none 0 0) 0 0)).alloc (.cells #[ptI N 1] 114)).alloc (.cells #[ptI N 3] 114)).alloc (.cells #[ptI N 4] 114)).alloc (.cells #[toF (N + 1), toF (N + 1 + 1), toF (N + 1 + 1 + 1)] 112)) = V0 at HPL ⊢
  clear hN HBA
  go_loopw [10] (fun v wr => ∃ k : Nat, 3 ≤ k ∧ (k = 3 ∨ k ≤ ws.length) ∧ PlAt N w w kd k v wr) (fun v _ => ws.length - lenV v)
  case atStart => exact ⟨3, Nat.le_refl _, .inl rfl, HPL.out⟩
  case round =>
    obtain ⟨k, hk3, hkl, hP⟩ := hrel
    obtain ⟨a1, cp, hv⟩ := own_form hP.pl
    subst hv
    have HP := hide hP
    have HKL := hide hkl
    clear hP hkl HPL
    by_cases hlt : k < ws.length
    · have hlt' : (k : Int) < (ws.length : Int) := by omega
      have HP2 := hide (drew_alloc wr)
      go_wp2_with (at_builtin; refine wpList_append_own _ rfl _ _ 108 rfl N 112 i1 .nilFunc 1 8 Tryz.underlying108 hj hy0 hy1 hy2 rfl (by decide) _ k ((fsU N k).map funV) rfl (own_new HP.out.pl ((Below.refl _ _).alloc (Nat.le_refl _) _)) ⟨wr.heap.size, 0, none⟩ 1 1 [.func (.func 54) #[] #[ptI N 0]] rfl rfl (news_at wr [.func (.func 54) #[] #[ptI N 0]] _) (all_one rfl) (by have := hwl.out; unfold maxLen; omega) (by have := hwl.out; omega) (by have := HP.out.size; simp; omega) ?_; intro v' w4 hown' hgrow _; have HP4 := hide (HP.out.step HN.out hk3 ((Below.refl _ _).alloc (Nat.le_refl _) _) hgrow hown'); obtain ⟨a4, c4, hv4⟩ := own_form hown'; subst hv4; clear hown' hgrow)
      go_wp2
      go_roundw
      case rel => exact ⟨k + 1, by omega, .inr (by omega), HP4.out⟩
      case measure => simp [lenV]; omega
    · have hlt' : ¬ (k : Int) < (ws.length : Int) := by omega
      cases okb with
      | false =>
        have HR : Hid (LineR B R U J K w wr false r) := by
          have e1 : r = none := by
            rw [hr.out]
            refine unitL_kind ?_
            rcases idx_unit word with ⟨h0, _⟩ | ⟨h2, _, h4⟩
            · exact h0
            · have := HOK.out
              rw [HIX.out, h4] at this
              simp at this
              omega
          rw [e1]
          exact ⟨HP.out.below.mono HX0.out.lt.1, rfl, fun m' h => by cases h⟩
        go_wp2
        go_ret
        exact .inl ⟨rfl, HR.out⟩
      | true =>
        have HKO : Hid (kindOf word ≠ 0 ∧ kd = kindOf word ∧ 2 ≤ kd ∧ kd ≤ 4) := by
          have h0 := HOK.out
          rcases idx_unit word with ⟨_, h1⟩ | ⟨h2, h3, h4⟩
          · rw [HIX.out, h1] at h0; simp at h0
          · have := HKD.out
            rw [HIX.out, h4] at this
            exact ⟨by omega, by omega, by omega, by omega⟩
        obtain ⟨g, ha1⟩ : ∃ g, a1 = some ⟨g, 0, none⟩ := by
          rcases HP.out.pl.2 with ⟨e, h0⟩ | ⟨g, _, _, e, _⟩
          · omega
          · cases e; exact ⟨g, rfl⟩
        subst ha1
        have HI0 : Hid (UnI B N w ws kd (.slice (some ⟨g, 0, none⟩) k cp) k 0 wr) := ⟨by omega, hg.out, HX0.out.lt.1, HN.out, HP.out.below, by have := HP.out.size; omega, ⟨.slice none 0 0, HP.out.un, by rw [locL_low ws (by omega)]; exact ⟨rfl, .inl ⟨rfl, rfl⟩⟩⟩, HP.out.p0, HP.out.p1, HP.out.p2, HP.out.pl⟩
        have hcall := fill_any B ws (fsU N k) aw (some ⟨g, 0, none⟩) cw cp (UnI B N w ws kd (.slice (some ⟨g, 0, none⟩) k cp) k) hw.out (by rw [fsU_len hk3]; have := hwl.out; have := HKL.out; omega) (hide (un_places B N k w ws kd g cp aw hs.out hwl.out)) wr HI0
        rw [fsU_len hk3] at hcall
        have HCL := hide hcall
        clear hcall HI0
        go_wp2_with fail
        refine HCL.out.mono ?_
        clear HCL
        rintro e W1 ⟨b, rfl, hF⟩
        cases b with
        | false =>
          obtain ⟨h1, k', hI⟩ := hF.2 rfl
          have HR : Hid (LineR B R U J K w W1 false r) := by
            have e1 : r = none := by
              rw [hr.out]
              refine unitL_no ?_
              rcases h1 with h1 | h1
              · left
                have := HKL.out
                omega
              · exact .inr h1
            rw [e1]
            exact ⟨hI.below.mono HX0.out.lt.1, rfl, fun m' h => by cases h⟩
          clear hF h1 hI
          go_wp2
          go_ret
          exact ⟨false, rfl, HR.out⟩
        | true =>
          obtain ⟨h1, ⟨ns, hns⟩, hI⟩ := hF.1 rfl
          have hgs := nums_guess hns
          have h64 := nums_i64 hns
          rw [hgs] at h64
          obtain ⟨vl, hun, hvl⟩ := hI.un
          obtain ⟨al, cl, rfl⟩ := own_form hvl
          rw [← h1] at hun hvl hk3
          obtain ⟨xx, hxx⟩ : ∃ xx : UV, xx = ⟨⟨kd, fld ws ws.length 0, locL ws ws.length, fld ws ws.length 1, fld ws ws.length 2, []⟩, al, none, cl, 0⟩ := ⟨_, rfl⟩
          have hbx : W1.heap[N]? = some (uvO xx) := by rw [hxx]; exact hun
          have HX1 : Hid (xx.u.code = []) := by rw [hxx]; exact rfl
          have HX2 : Hid (xx.ac = none) := by rw [hxx]; exact rfl
          have HX3 : Hid (xx.cc = 0) := by rw [hxx]; exact rfl
          have HRR : Hid (r = some ⟨m.boxes, m.units ++ [xx.u]⟩) := by
            unfold Hid
            rw [hr.out, hxx, unitL_yes hns HKO.out.1 hk3, HKO.out.2.1]
          have HUO : Hid (UOk B W1 xx) := by
            rw [hxx]
            refine ⟨⟨⟨by have := HKO.out; show _ ≤ kd; omega, by have := HKO.out; show kd ≤ _; omega⟩, h64 _ (fld_mem (by omega)), h64 _ (fld_mem (by omega)), h64 _ (fld_mem (by omega))⟩, fun n hn => ?_, fun i hi => (by cases hi), own_base hvl (Nat.le_trans HX0.out.lt.1 HN.out), ⟨rfl, .inl ⟨rfl, rfl⟩⟩⟩
            obtain ⟨y, hy, rfl⟩ := List.mem_map.1 hn
            exact h64 _ (List.mem_map.2 ⟨y, List.mem_of_mem_drop (List.mem_of_mem_take hy), rfl⟩)
          have HB1 : Hid (Below B w W1) := hI.below.mono HX0.out.lt.1
          have HX := hide (HX0.out.new hI.below)
          obtain ⟨c0, c1, _, _, _, _, _, f1⟩ := rd_cells HX.out.blk
          obtain ⟨d0, d1, d2, d3, d4, d5⟩ := uvO_cells hbx
          have hRl1 := HX.out.lt.2
          clear hF hI hbx hns hgs h64 h1 hxx HX0 hun hvl HP HKO HKD HIX HOK HKL
          go_wp2
          refine wp_region_any (by kernel_rfl) ?_
          change wpAny _ _ _ _ _ _ _ (World.drew _)
          refine wpAny_take (i := 0) (v := ptI R 0) rfl (by kernel_rfl) (by kernel_rfl) (by kernel_rfl) (fun _ _ _ h => h) (Or.inl ⟨by rfl, ?_⟩) ?_
          · intro w; go_simp
          simp only [Act.put]
          refine wpAny_take (i := 1) (v := ptI R 0) rfl (by kernel_rfl) (by kernel_rfl) (by kernel_rfl) (fun _ _ _ h => h) (Or.inl ⟨by rfl, ?_⟩) ?_
          · intro w; go_simp
          simp only [Act.put]
          refine wpAny_take (i := 2) (v := ptI R 0) rfl (by kernel_rfl) (by kernel_rfl) (by kernel_rfl) (fun _ _ _ h => h) (Or.inl ⟨by rfl, ?_⟩) ?_
          · intro w; go_simp
          simp only [Act.put]
          refine wpAny_take (i := 3) (v := ptI R 0) rfl (by kernel_rfl) (by kernel_rfl) (by kernel_rfl) (fun _ _ _ h => h) (Or.inl ⟨by rfl, ?_⟩) ?_
          · intro w; go_simp
          simp only [Act.put]
          refine wpAny_take (i := 4) (v := ptI R 1) rfl (by kernel_rfl) (by kernel_rfl) (by kernel_rfl) (fun _ _ _ h => h) (Or.inl ⟨by rfl, ?_⟩) ?_
          · intro w; go_simp
          simp only [Act.put]
          refine wpAny_ready (rs := [5, 6]) (by kernel_rfl) (by simp) ?_
          refine AllReady.cons rfl (fun K hK => ?_) ?_
          · go_simp
            refine hK _ _ ?_
            clear hK K
            refine wpAny_ready (rs := [6]) (by kernel_rfl) (by simp) ?_
            refine AllReady.cons rfl (fun K hK => ?_) ?_
            · go_simp
              refine hK _ _ ?_
              clear hK K
              refine wpAny_ready (rs := [7]) (by kernel_rfl) (by simp) ?_
              refine AllReady.cons rfl (fun K hK => ?_) ?_
              · go_simp
                refine hK _ _ ?_
                clear hK K
                refine wpAny_ready (rs := [8]) (by kernel_rfl) (by simp) ?_
                refine AllReady.cons rfl (fun K hK => ?_) ?_
                · refine step_append_own rfl (.tmp 51) (.tmp 53) 23 rfl B 41 i0 (.agg #[.int .i64 0, .int .i64 0, .slice none 0 0, .int .i64 0, .int .i64 0, .slice none 0 0]) 6 80 Tryz.underlying23 hi hz0 hz1 hz2 rfl (by decide) _ us.length (uvs us) rfl (own_new HX.out.units (drew_alloc W1 _)) ⟨W1.heap.size, 0, none⟩ 1 1 (uvC xx) rfl rfl (news_at W1.drew (uvC xx) _) (all_one rfl) (by have := HFW.out; unfold maxLen; omega) (by have := HFW.out; omega) (by have := HX.out.lt.1; simp; omega) ?_
                  intro vu' w4 hown4 hg4
                  obtain ⟨hRD, hBl, cR, gR⟩ := HX.out.unit HUO.out HX1.out HX2.out HX3.out (drew_alloc W1 _) hg4 hown4
                  obtain ⟨a', c', hv'⟩ := own_form hown4
                  subst hv'
                  have HRD := hide hRD
                  have HBl := hide hBl
                  clear hown4 hg4 hRD hBl
                  refine hK _ _ ?_
                  clear hK K
                  simp only [Act.put]
                  refine wpAny_take (i := 9) (v := ptI R 0) rfl (by kernel_rfl) (by kernel_rfl) (by kernel_rfl) (fun _ _ _ h => h) (Or.inl ⟨by rfl, ?_⟩) ?_
                  · intro w; go_simp
                  simp only [Act.put]
                  refine wpAny_take (i := 10) (v := ptI R 0) rfl (by kernel_rfl) (by kernel_rfl) (by kernel_rfl) (fun _ _ _ h => h) (Or.inl ⟨by rfl, ?_⟩) ?_
                  · intro w; go_simp
                  simp only [Act.put]
                  refine wpAny_take (i := 11) (v := ptI R 1) rfl (by kernel_rfl) (by kernel_rfl) (by kernel_rfl) (fun _ _ _ h => h) (Or.inl ⟨by rfl, ?_⟩) ?_
                  · intro w; go_simp
                  simp only [Act.put]
                  refine wpAny_ready (rs := [12]) (by kernel_rfl) (by simp) ?_
                  refine AllReady.cons rfl (fun K hK => ?_) ?_
                  · go_simp
                    refine hK _ _ ?_
                    clear hK K
                    refine wpAny_done (by kernel_rfl) ?_ _
                    go_wp2
                    go_ret
                    exact ⟨true, rfl, HB1.out.trans HBl.out, by rw [HRR.out]; rfl, fun m' hm' => by rw [HRR.out] at hm'; cases hm'; exact ⟨_, _, _, _, HRD.out⟩⟩
                  exact AllReady.nil
                exact AllReady.nil
              exact AllReady.nil
            exact AllReady.nil
          refine AllReady.cons rfl (fun K hK => ?_) ?_
          · go_simp
            refine hK _ _ ?_
            clear hK K
            refine wpAny_ready (rs := [5, 7]) (by kernel_rfl) (by simp) ?_
            refine AllReady.cons rfl (fun K hK => ?_) ?_
            · go_simp
              refine hK _ _ ?_
              clear hK K
              refine wpAny_ready (rs := [7]) (by kernel_rfl) (by simp) ?_
              refine AllReady.cons rfl (fun K hK => ?_) ?_
              · go_simp
                refine hK _ _ ?_
                clear hK K
                refine wpAny_ready (rs := [8]) (by kernel_rfl) (by simp) ?_
                refine AllReady.cons rfl (fun K hK => ?_) ?_
                · refine step_append_own rfl (.tmp 51) (.tmp 53) 23 rfl B 41 i0 (.agg #[.int .i64 0, .int .i64 0, .slice none 0 0, .int .i64 0, .int .i64 0, .slice none 0 0]) 6 80 Tryz.underlying23 hi hz0 hz1 hz2 rfl (by decide) _ us.length (uvs us) rfl (own_new HX.out.units (drew_alloc W1 _)) ⟨W1.heap.size, 0, none⟩ 1 1 (uvC xx) rfl rfl (news_at W1.drew (uvC xx) _) (all_one rfl) (by have := HFW.out; unfold maxLen; omega) (by have := HFW.out; omega) (by have := HX.out.lt.1; simp; omega) ?_
                  intro vu' w4 hown4 hg4
                  obtain ⟨hRD, hBl, cR, gR⟩ := HX.out.unit HUO.out HX1.out HX2.out HX3.out (drew_alloc W1 _) hg4 hown4
                  obtain ⟨a', c', hv'⟩ := own_form hown4
                  subst hv'
                  have HRD := hide hRD
                  have HBl := hide hBl
                  clear hown4 hg4 hRD hBl
                  refine hK _ _ ?_
                  clear hK K
                  simp only [Act.put]
                  refine wpAny_take (i := 9) (v := ptI R 0) rfl (by kernel_rfl) (by kernel_rfl) (by kernel_rfl) (fun _ _ _ h => h) (Or.inl ⟨by rfl, ?_⟩) ?_
                  · intro w; go_simp
                  simp only [Act.put]
                  refine wpAny_take (i := 10) (v := ptI R 0) rfl (by kernel_rfl) (by kernel_rfl) (by kernel_rfl) (fun _ _ _ h => h) (Or.inl ⟨by rfl, ?_⟩) ?_
                  · intro w; go_simp
                  simp only [Act.put]
                  refine wpAny_take (i := 11) (v := ptI R 1) rfl (by kernel_rfl) (by kernel_rfl) (by kernel_rfl) (fun _ _ _ h => h) (Or.inl ⟨by rfl, ?_⟩) ?_
                  · intro w; go_simp
                  simp only [Act.put]
                  refine wpAny_ready (rs := [12]) (by kernel_rfl) (by simp) ?_
                  refine AllReady.cons rfl (fun K hK => ?_) ?_
                  · go_simp
                    refine hK _ _ ?_
                    clear hK K
                    refine wpAny_done (by kernel_rfl) ?_ _
                    go_wp2
                    go_ret
                    exact ⟨true, rfl, HB1.out.trans HBl.out, by rw [HRR.out]; rfl, fun m' hm' => by rw [HRR.out] at hm'; cases hm'; exact ⟨_, _, _, _, HRD.out⟩⟩
                  exact AllReady.nil
                exact AllReady.nil
              exact AllReady.nil
            refine AllReady.cons rfl (fun K hK => ?_) ?_
            · go_simp
              refine hK _ _ ?_
              clear hK K
              refine wpAny_ready (rs := [5]) (by kernel_rfl) (by simp) ?_
              refine AllReady.cons rfl (fun K hK => ?_) ?_
              · go_simp
                refine hK _ _ ?_
                clear hK K
                refine wpAny_ready (rs := [8]) (by kernel_rfl) (by simp) ?_
                refine AllReady.cons rfl (fun K hK => ?_) ?_
                · refine step_append_own rfl (.tmp 51) (.tmp 53) 23 rfl B 41 i0 (.agg #[.int .i64 0, .int .i64 0, .slice none 0 0, .int .i64 0, .int .i64 0, .slice none 0 0]) 6 80 Tryz.underlying23 hi hz0 hz1 hz2 rfl (by decide) _ us.length (uvs us) rfl (own_new HX.out.units (drew_alloc W1 _)) ⟨W1.heap.size, 0, none⟩ 1 1 (uvC xx) rfl rfl (news_at W1.drew (uvC xx) _) (all_one rfl) (by have := HFW.out; unfold maxLen; omega) (by have := HFW.out; omega) (by have := HX.out.lt.1; simp; omega) ?_
                  intro vu' w4 hown4 hg4
                  obtain ⟨hRD, hBl, cR, gR⟩ := HX.out.unit HUO.out HX1.out HX2.out HX3.out (drew_alloc W1 _) hg4 hown4
                  obtain ⟨a', c', hv'⟩ := own_form hown4
                  subst hv'
                  have HRD := hide hRD
                  have HBl := hide hBl
                  clear hown4 hg4 hRD hBl
                  refine hK _ _ ?_
                  clear hK K
                  simp only [Act.put]
                  refine wpAny_take (i := 9) (v := ptI R 0) rfl (by kernel_rfl) (by kernel_rfl) (by kernel_rfl) (fun _ _ _ h => h) (Or.inl ⟨by rfl, ?_⟩) ?_
                  · intro w; go_simp
                  simp only [Act.put]
                  refine wpAny_take (i := 10) (v := ptI R 0) rfl (by kernel_rfl) (by kernel_rfl) (by kernel_rfl) (fun _ _ _ h => h) (Or.inl ⟨by rfl, ?_⟩) ?_
                  · intro w; go_simp
                  simp only [Act.put]
                  refine wpAny_take (i := 11) (v := ptI R 1) rfl (by kernel_rfl) (by kernel_rfl) (by kernel_rfl) (fun _ _ _ h => h) (Or.inl ⟨by rfl, ?_⟩) ?_
                  · intro w; go_simp
                  simp only [Act.put]
                  refine wpAny_ready (rs := [12]) (by kernel_rfl) (by simp) ?_
                  refine AllReady.cons rfl (fun K hK => ?_) ?_
                  · go_simp
                    refine hK _ _ ?_
                    clear hK K
                    refine wpAny_done (by kernel_rfl) ?_ _
                    go_wp2
                    go_ret
                    exact ⟨true, rfl, HB1.out.trans HBl.out, by rw [HRR.out]; rfl, fun m' hm' => by rw [HRR.out] at hm'; cases hm'; exact ⟨_, _, _, _, HRD.out⟩⟩
                  exact AllReady.nil
                exact AllReady.nil
              exact AllReady.nil
            exact AllReady.nil
          exact AllReady.nil

end Go.Proofs.YtbdcmkmeljddmaaGreatDoor.Aw

