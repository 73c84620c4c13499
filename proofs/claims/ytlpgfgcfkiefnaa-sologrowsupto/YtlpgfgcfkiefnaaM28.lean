/- The walk of End. -/
import Derived.Test.YtlpgfgcfkiefnaaM27
namespace Go.Proofs.Ytlpgfgcfkiefnaa.Vw
open Go.RowKit Vf Vm

theorem is_nil (w : World) : Sem.run Try.prog (binOp BinOp.eql 38 (.slice none 0 0) (.slice none 0 0)) w = .ok (.bool true) w := by kernel_rfl
theorem own_base {w : World} {B C e size n : Nat} {v : Value} {xs : List Value} (h : w.ownsRow C e size v n xs) (hB : B ≤ C) : w.ownsRow B e size v n xs := by
  refine ⟨h.1, ?_⟩
  rcases h.2 with h2 | ⟨g, cap, cur, hv, hg, r⟩
  · exact .inl h2
  · exact .inr ⟨g, cap, cur, hv, by omega, r⟩
theorem own_slice {w : World} {B e size n : Nat} {v : Value} {xs : List Value} (h : w.ownsRow B e size v n xs) : ∃ a c, v = .slice a n c := by
  rcases h.2 with ⟨rfl, h0⟩ | ⟨g, cap, cur, rfl, _⟩
  · rw [h0]; exact ⟨_, _, rfl⟩
  · exact ⟨_, _, rfl⟩
theorem ints_one (ws : List Int) : ∀ v ∈ ints ws, v.oneCell' = true := by
  intro v hv
  simp only [ints, List.mem_map] at hv
  obtain ⟨x, _, rfl⟩ := hv
  rfl

set_option maxRecDepth 100000 in
set_option maxHeartbeats 400000 in
theorem clone_any (vO : Value) (l : List Int) (w : World) (h : Hid (w.ownsRow 0 2 1 vO l.length (ints l))) (hl : l.length ≤ 1000000) :
    Calls Try.prog 65 #[vO] w fun e w' => ∃ v, e = .returned v ∧ w'.ownsRow w.heap.size 2 1 v l.length (ints l) ∧ Below w.heap.size w w' := by
  obtain ⟨i0, hi, hz0, hz1, hz2⟩ := info_parts Sb.Try.info2
  rcases h.out.2 with ⟨rfl, h0⟩ | ⟨g, cap, cur, rfl, _, hh, h1, h2, h3, h4⟩
  · have HL := Sb.hide h0
    clear h0
    have hnn := is_nil w
    go_enter Try.func65, Try.ntmps65
    go_wp2
    go_ret
    exact ⟨_, rfl, ⟨h.out.1, .inl ⟨rfl, HL.out⟩⟩, .refl _ _⟩
  · have hnn := Sb.not_nil g l.length cap w
    have HO : Hid ((w.alloc (.cells #[] 2)).ownsRow w.heap.size 2 1 (.slice (some ⟨w.heap.size, 0, none⟩) 0 0) 0 []) := ⟨rfl, .inr ⟨w.heap.size, 0, #[], rfl, Nat.le_refl _, heap_alloc_new w _, Nat.le_refl _, Nat.zero_le _, rfl, rfl⟩⟩
    have HN : Hid (∀ j u, (ints l)[j]? = some u → (w.alloc (.cells #[] 2)).cell? ((⟨g, 0, none⟩ : Addr).add j) = some u) := (h.out.alloc (.cells #[] 2)).cells (g := g) rfl
    have HL : Hid ((ints l).length = l.length * 1) := by unfold Hid; simp
    obtain ⟨n, hn⟩ : ∃ n, n = l.length := ⟨_, rfl⟩
    have HNL := Sb.hide hn
    rw [← hn] at hl hnn HL ⊢
    clear hn hh h1 h2 h3 h4
    go_enter Try.func65, Try.ntmps65
    go_wp2_with (at_builtin; refine wpList_append_own _ rfl _ _ 38 rfl w.heap.size 2 i0 (.int .i64 0) 1 8 Try.underlying38 hi hz0 hz1 hz2 rfl (by decide) _ _ _ rfl HO.out ⟨g, 0, none⟩ n cap (ints l) rfl HL.out HN.out (ints_one l) (by unfold maxLen; omega) (by omega) (by simp) ?_; intro v' w3 hown hgrow hz)
    have HW : Hid (w3.ownsRow w.heap.size 2 1 v' n (ints l)) := by
      unfold Hid
      simpa using hown
    have hg2 : (w.alloc (.cells #[] 2)).grownBy w3 (some w.heap.size) := hgrow
    have HB : Hid (Below w.heap.size w w3) := ((Below.refl _ w).alloc (Nat.le_refl _) _).grown hg2 (by simp) (fun k hk => by simp at hk; omega)
    clear hown hgrow hz hg2
    go_wp2
    go_ret
    exact ⟨v', rfl, HW.out, HB.out⟩

theorem zero_end {w : World} {b : Nat} (h : w.heap[b]? = some (.cells #[.int .i64 0, .int .i64 0, .int .i64 0, .slice none 0 0] 103)) : (w.cell? ⟨b, 0, none⟩ = some (.int .i64 0) ∧ w.cell? ⟨b, 1, none⟩ = some (.int .i64 0) ∧ w.cell? ⟨b, 2, none⟩ = some (.int .i64 0) ∧ w.cell? ⟨b, 3, none⟩ = some (.slice none 0 0)) ∧ ∀ j, w.frozen? ⟨b, j, none⟩ = false := by simp [World.cell?, World.frozen?, h]
section
variable {β : Type} (E : Env β) (X : Bxs β) (c : Cx) (vB ev : Value) (o T : Nat) (L : Lab) (P : Nat → Nat) (w : World) (t : Tk) (x : β) (vR vO : Value) (H : Hid (St E c vB ev o T L P w t x vR vO))
include H
abbrev enV (s q tr : Nat) (v : Value) : Value := .agg #[.int .i64 s, .int .i64 q, .int .i64 tr, v]

set_option maxRecDepth 100000 in
set_option maxHeartbeats 1000000 in
/-- WHAT End ANSWERS. -/
theorem end_any' (hX : Hid (BoxesAt E X c vB)) (hs : Hid (t.over = 0 → ∃ f rs u i, AtOk c t f rs u i)) (ho : t.out.length ≤ 1000000) :
    Calls Try.prog 39 #[.pointer (some ⟨T, 0, none⟩)] w fun e w' => ∃ v, e = .returned (enV (stat X c.m t x).1 (stat X c.m t x).2 t.trap v) ∧ w'.ownsRow w.heap.size 2 1 v t.out.length (ints t.out) ∧ Below w.heap.size w w' := by
  obtain ⟨s, hs1⟩ : ∃ s, s = (stat X c.m t x).1 := ⟨_, rfl⟩
  obtain ⟨q, hq1⟩ : ∃ s, s = (stat X c.m t x).2 := ⟨_, rfl⟩
  rw [← hs1, ← hq1]
  have HS1 := Sb.hide hs1
  have HQ1 := Sb.hide hq1
  have hTz := lt_of_block H.out.tk.blk
  clear hs1 hq1
  go_enter Try.func39, Try.ntmps39
  go_wp2_with fail
  have hb0 : Below w.heap.size w (w.alloc (.cells #[.int .i64 0, .int .i64 0, .int .i64 0, .slice none 0 0] 103)) := (Below.refl _ w).alloc (Nat.le_refl _) _
  have hzb : (w.alloc (.cells #[.int .i64 0, .int .i64 0, .int .i64 0, .slice none 0 0] 103)).heap[w.heap.size]? = some (.cells #[.int .i64 0, .int .i64 0, .int .i64 0, .slice none 0 0] 103) := heap_alloc_new w _
  have HB0 := Sb.hide hb0
  have HZB := Sb.hide hzb
  have hz0 : (w.alloc (.cells #[.int .i64 0, .int .i64 0, .int .i64 0, .slice none 0 0] 103)).heap.size = w.heap.size + 1 := by simp
  clear hb0 hzb
  generalize w.alloc (.cells #[.int .i64 0, .int .i64 0, .int .i64 0, .slice none 0 0] 103) = W0 at *
  refine (state_any E X c vB ev o T L P _ t x vR vO (Sb.hide (H.out.below HB0.out)) hX hs).mono ?_
  rw [← HS1.out, ← HQ1.out]
  rintro e w1 ⟨rfl, hb1⟩
  have HB1 : Hid (Below w.heap.size w w1) := HB0.out.trans (hb1.mono (by omega))
  have HZ1 : Hid (w1.heap[w.heap.size]? = some (.cells #[.int .i64 0, .int .i64 0, .int .i64 0, .slice none 0 0] 103)) := (hb1.block _ (by omega)).trans HZB.out
  have HS := Sb.hide (H.out.below HB1.out)
  have d := tk_cells HS.out.tk.blk
  have d5 := d.2.2.2.2.2.1
  have d7 := d.2.2.2.2.2.2.2.1
  have hz1 := hb1.size
  have hne1 : ¬ w.heap.size = T := by omega
  have hne2 : ¬ T = w.heap.size := by omega
  clear hb1 d
  have fr1 : w1.frozen? ⟨w.heap.size, 0, none⟩ = false ∧ w1.frozen? ⟨w.heap.size, 1, none⟩ = false ∧ w1.frozen? ⟨w.heap.size, 2, none⟩ = false ∧ w1.frozen? ⟨w.heap.size, 3, none⟩ = false := by simp [World.frozen?, HZ1.out]
  go_wp2_with fail
  go_region_held3 (fun w' => w'.cell? ⟨T, 5, none⟩ = some vO ∧ w'.cell? ⟨T, 7, none⟩ = some (.int .i64 t.trap)) (go_keep) ((go_at_call 65; refine (clone_any vO t.out _ (Sb.hide (by exact HS.out.tk.out)) ho).mono ?_; rintro e w2 ⟨v, rfl, hown, hb2⟩; obtain ⟨va, vc, rfl⟩ := own_slice hown; have HO : Hid (w2.ownsRow w1.heap.size 2 1 (.slice va t.out.length vc) t.out.length (ints t.out)) := hown; have HB2 : Hid (Below w1.heap.size w1 w2) := ⟨hb2.os, hb2.tape, hb2.output, hb2.size, hb2.block⟩; have d5 : w2.cell? ⟨T, 5, none⟩ = some vO := (hb2.cell (p := ⟨T, 5, none⟩) (by show T < _; have := HB1.out.size; simp; omega)).trans d5; have d7 : w2.cell? ⟨T, 7, none⟩ = some (.int .i64 t.trap) := (hb2.cell (p := ⟨T, 7, none⟩) (by show T < _; have := HB1.out.size; simp; omega)).trans d7; have z2 : w2.heap[w.heap.size]? = some (.cells #[.int .i64 0, .int .i64 0, .int .i64 0, .slice none 0 0] 103) := (hb2.block _ (by have := HB0.out.size; simp; omega)).trans HZ1.out; have HZ2 := Sb.hide z2; have k2 := (zero_end z2).1; have f2 := (zero_end z2).2; clear hown hb2 z2))
  clear fr1
  have HB4 : Hid (Below w.heap.size w ((((w2.setCell ⟨w.heap.size, 0, none⟩ (.int .i64 s)).setCell ⟨w.heap.size, 1, none⟩ (.int .i64 q)).setCell ⟨w.heap.size, 2, none⟩ (.int .i64 t.trap)).setCell ⟨w.heap.size, 3, none⟩ (.slice va t.out.length vc))) := by
    have hb : Below w.heap.size w w2 := HB1.out.trans (HB2.out.mono HB1.out.size)
    exact (((hb.setCell (p := ⟨w.heap.size, 0, none⟩) (Nat.le_refl _) _).setCell (p := ⟨w.heap.size, 1, none⟩) (Nat.le_refl _) _).setCell (p := ⟨w.heap.size, 2, none⟩) (Nat.le_refl _) _).setCell (p := ⟨w.heap.size, 3, none⟩) (Nat.le_refl _) _
  have HO4 : Hid (((((w2.setCell ⟨w.heap.size, 0, none⟩ (.int .i64 s)).setCell ⟨w.heap.size, 1, none⟩ (.int .i64 q)).setCell ⟨w.heap.size, 2, none⟩ (.int .i64 t.trap)).setCell ⟨w.heap.size, 3, none⟩ (.slice va t.out.length vc)).ownsRow w.heap.size 2 1 (.slice va t.out.length vc) t.out.length (ints t.out)) := by
    have h2 : w2.ownsRow w.heap.size 2 1 (.slice va t.out.length vc) t.out.length (ints t.out) := own_base HO.out HB1.out.size
    refine own_keep h2 (fun b hb => ?_)
    have hbl := (HO.out.lt b hb).1
    have hne : b ≠ w.heap.size := by have := HB0.out.size; omega
    rw [Below.heap_setCell _ ⟨w.heap.size, 3, none⟩ _ _ hne, Below.heap_setCell _ ⟨w.heap.size, 2, none⟩ _ _ hne, Below.heap_setCell _ ⟨w.heap.size, 1, none⟩ _ _ hne, Below.heap_setCell _ ⟨w.heap.size, 0, none⟩ _ _ hne]
  go_wp2
  have hX : ((((w2.setCell ⟨w.heap.size, 0, none⟩ (.int .i64 s)).setCell ⟨w.heap.size, 1, none⟩ (.int .i64 q)).setCell ⟨w.heap.size, 2, none⟩ (.int .i64 t.trap)).setCell ⟨w.heap.size, 3, none⟩ (.slice va t.out.length vc)).heap[w.heap.size]? = some (.cells #[.int .i64 s, .int .i64 q, .int .i64 t.trap, .slice va t.out.length vc] 103) := by
    simp only [World.setCell, Array.getElem?_modify, if_true, HZ2.out, Option.map_some]
    rfl
  refine bodyPost_ret (v := enV s q t.trap (.slice va t.out.length vc)) ?_ rfl ⟨_, rfl, HO4.out, HB4.out⟩
  generalize (((w2.setCell ⟨w.heap.size, 0, none⟩ (.int .i64 s)).setCell ⟨w.heap.size, 1, none⟩ (.int .i64 q)).setCell ⟨w.heap.size, 2, none⟩ (.int .i64 t.trap)).setCell ⟨w.heap.size, 3, none⟩ (.slice va t.out.length vc) = W4 at *
  have g : (W4.cell? ⟨w.heap.size, 0, none⟩ = some (.int .i64 s) ∧ W4.cell? ⟨w.heap.size, 1, none⟩ = some (.int .i64 q) ∧ W4.cell? ⟨w.heap.size, 2, none⟩ = some (.int .i64 t.trap) ∧ W4.cell? ⟨w.heap.size, 3, none⟩ = some (.slice va t.out.length vc)) := by simp [World.cell?, hX]
  obtain ⟨g0, g1, g2, g3⟩ := g
  simp [results, Try.results39, go_sem, g0, g1, g2, g3]
end
end Go.Proofs.Ytlpgfgcfkiefnaa.Vw

/- The walk of report. -/
namespace Go.Proofs.Ytlpgfgcfkiefnaa.Vw
open Go.RowKit Vf Vm

theorem Try.info38 : (Try.prog.info? 38).map (fun i => (i.zero, i.size, i.bytes)) = some (some (.slice none 0 0), 1, 24) := by kernel_rfl
abbrev repO (s q tr : Nat) (vO vS vT : Value) (st : Nat) : Obj := .cells #[.int .i64 s, .int .i64 q, .int .i64 tr, vO, vS, vT, .int .i64 st] 40 (0, 0)
abbrev repZ : Obj := .cells #[.int .i64 0, .int .i64 0, .int .i64 0, .slice none 0 0, .slice none 0 0, .slice none 0 0, .int .i64 0] 40 (0, 0)
def svs (sv : Nat → Value) (n : Nat) : List Value := (List.range n).map sv
theorem svs_succ (sv : Nat → Value) (n : Nat) : svs sv (n + 1) = svs sv n ++ [sv n] := by simp [svs, List.range_succ]
def tks (x : List Lst) (n : Nat) : List Value := (x.take n).map fun q : Lst => .int .i64 (q.took : Int)
theorem tks_succ {x : List Lst} {n : Nat} {q : Lst} (h : x[n]? = some q) : tks x (n + 1) = tks x n ++ [.int .i64 (q.took : Int)] := by
  unfold tks
  rw [List.take_add_one, h]
  simp

/-- What holds in report's loop: ks, kt are how many were noted. -/
structure RpAt (w : World) (x : List Lst) (sv : Nat → Value) (R0 R s q tr st : Nat) (out : List Int) (vO vS vT : Value) (ks kt : Nat) (wr : World) : Prop where
  below : Below w.heap.size w wr
  low : w.heap.size ≤ R0 ∧ w.heap.size ≤ R
  zero : wr.heap[R0]? = some repZ
  ne : R0 ≠ R
  rep : wr.heap[R]? = some (repO s q tr vO vS vT st)
  out : wr.ownsRow w.heap.size 2 1 vO out.length (ints out)
  sent : wr.ownsRow w.heap.size 38 1 vS ks (svs sv ks)
  took : wr.ownsRow w.heap.size 3 1 vT kt (tks x kt)

theorem rep_cells {w : World} {R s q tr st : Nat} {vO vS vT : Value} (h : w.heap[R]? = some (repO s q tr vO vS vT st)) : (w.cell? ⟨R, 0, none⟩ = some (.int .i64 s) ∧ w.cell? ⟨R, 1, none⟩ = some (.int .i64 q) ∧ w.cell? ⟨R, 2, none⟩ = some (.int .i64 tr) ∧ w.cell? ⟨R, 3, none⟩ = some vO ∧ w.cell? ⟨R, 4, none⟩ = some vS ∧ w.cell? ⟨R, 5, none⟩ = some vT ∧ w.cell? ⟨R, 6, none⟩ = some (.int .i64 st)) ∧ ∀ j, w.frozen? ⟨R, j, none⟩ = false := by simp [World.cell?, World.frozen?, h]
theorem own_far {w wr w4 : World} {e e' size n n' g : Nat} {v v' : Value} {xs xs' : List Value} {ob : Obj} (h : wr.ownsRow g e size v n xs) (hx : wr.ownsRow g e' size v' n' xs') (hne : e ≠ e') (hg : (wr.drew.alloc ob).grownBy w4 v'.ownBlock) (he : w.heap = w4.heap) : w.ownsRow g e size v n xs := by
  refine own_keep h (fun b hb => ?_)
  rw [he]
  have hl := (h.lt b hb).2
  refine (hg.block b (by simp; omega) (fun e2 => ?_)).trans (Below.heap_alloc wr.drew _ _ hl)
  obtain ⟨c1, h1⟩ := own_ty h hb
  obtain ⟨c2, h2⟩ := own_ty hx e2.symm
  rw [h1] at h2
  simp at h2
  exact hne h2.2

theorem own_cell {w : World} {B e n : Nat} {va : Option Addr} {vc : Nat} {xs : List Value} (h : w.ownsRow B e 1 (.slice va n vc) n xs) {k : Nat} {u : Value} (hk : xs[k]? = some u) : ∃ g, va = some ⟨g, 0, none⟩ ∧ w.cell? ⟨g, k, none⟩ = some u := by
  rcases h.2 with ⟨e1, h0⟩ | ⟨g, cap, cur, e1, _⟩
  · have hl := h.1
    rw [h0] at hl
    have hx : xs = [] := List.eq_nil_of_length_eq_zero (by simpa using hl)
    rw [hx] at hk; cases hk
  · have e2 := e1
    simp at e2
    refine ⟨g, e2.1, ?_⟩
    have := h.cells (g := g) (by rw [e1]; rfl) k _ hk
    rw [add_none] at this
    simpa using this

section
variable {w wr w4 : World} {x : List Lst} {sv : Nat → Value} {R0 R s q tr st : Nat} {out : List Int} {vO vS vT : Value} {ks kt : Nat}
theorem RpAt.put4 (H : RpAt w x sv R0 R s q tr st out vO vS vT ks kt wr) {u v' : Value} (hu : u = sv ks) (h4 : w4.ownsRow w.heap.size 38 1 v' (ks + 1) (svs sv ks ++ [u])) (g4 : (wr.drew.alloc (.cells #[u] 38)).grownBy w4 vS.ownBlock) : w4.heap[R]? = some (repO s q tr vO vS vT st) ∧ Below w.heap.size w w4 ∧ RpAt w x sv R0 R s q tr st out vO v' vT (ks + 1) kt (w4.setCell ⟨R, 4, none⟩ v') := by
  have hzr := H.below.size
  have hz4 := g4.size
  simp at hz4
  have nS : ∀ b s q tr vO vS' vT st, wr.heap[b]? = some (repO s q tr vO vS' vT st) → vS.ownBlock ≠ some b := fun b s q tr vO vS' vT st hb e => by
    obtain ⟨cur, hc⟩ := own_ty H.sent e
    rw [hb] at hc
    simp at hc
  have blk : ∀ b, b < wr.heap.size → vS.ownBlock ≠ some b → w4.heap[b]? = wr.heap[b]? := fun b hb hn => (g4.block b (by simp; omega) (fun e => hn e.symm)).trans (Below.heap_alloc wr.drew _ _ hb)
  have hR : w4.heap[R]? = some (repO s q tr vO vS vT st) := (blk R (lt_of_block H.rep) (nS _ _ _ _ _ _ _ _ H.rep)).trans H.rep
  have hset : ∀ b, b ≠ R → (w4.setCell ⟨R, 4, none⟩ v').heap[b]? = w4.heap[b]? := fun b hb => Below.heap_setCell _ ⟨R, 4, none⟩ _ _ hb
  have keep : ∀ {e n : Nat} {v : Value} {xs : List Value}, w4.ownsRow w.heap.size e 1 v n xs → e ≠ 40 → (w4.setCell ⟨R, 4, none⟩ v').ownsRow w.heap.size e 1 v n xs := fun h hne => own_keep h (fun b hb => hset b (fun e2 => by
    obtain ⟨cur, hc⟩ := own_ty h hb
    rw [e2, hR] at hc
    simp at hc
    exact hne hc.2.symm))
  refine ⟨hR, ?_, ?_, H.low, ?_, H.ne, ?_, keep (own_far H.out H.sent (by decide) g4 rfl) (by decide), ?_, keep (own_far H.took H.sent (by decide) g4 rfl) (by decide)⟩
  · exact (H.below.drew.alloc (by exact hzr) _).grown g4 (by simp; omega) (fun b hb => (H.sent.lt b hb).1)
  · exact (((H.below.drew.alloc (by exact hzr) _).grown g4 (by simp; omega) (fun b hb => (H.sent.lt b hb).1))).setCell (p := ⟨R, 4, none⟩) H.low.2 _
  · exact (hset _ H.ne).trans ((blk R0 (lt_of_block H.zero) (nS _ _ _ _ _ _ _ _ H.zero)).trans H.zero)
  · simp only [World.setCell, Array.getElem?_modify, if_true, hR, Option.map_some]
    rfl
  · rw [svs_succ, ← hu]
    exact keep h4 (by decide)
theorem RpAt.put5 (H : RpAt w x sv R0 R s q tr st out vO vS vT ks kt wr) {y : Lst} (hy : x[kt]? = some y) {v' : Value} (h4 : w4.ownsRow w.heap.size 3 1 v' (kt + 1) (tks x kt ++ [.int .i64 (y.took : Int)])) (g4 : (wr.drew.alloc (.cells #[.int .i64 (y.took : Int)] 3)).grownBy w4 vT.ownBlock) : w4.heap[R]? = some (repO s q tr vO vS vT st) ∧ Below w.heap.size w w4 ∧ RpAt w x sv R0 R s q tr st out vO vS v' ks (kt + 1) (w4.setCell ⟨R, 5, none⟩ v') := by
  have hzr := H.below.size
  have hz4 := g4.size
  simp at hz4
  have nS : ∀ b s q tr vO vS' vT' st, wr.heap[b]? = some (repO s q tr vO vS' vT' st) → vT.ownBlock ≠ some b := fun b s q tr vO vS' vT' st hb e => by
    obtain ⟨cur, hc⟩ := own_ty H.took e
    rw [hb] at hc
    simp at hc
  have blk : ∀ b, b < wr.heap.size → vT.ownBlock ≠ some b → w4.heap[b]? = wr.heap[b]? := fun b hb hn => (g4.block b (by simp; omega) (fun e => hn e.symm)).trans (Below.heap_alloc wr.drew _ _ hb)
  have hR : w4.heap[R]? = some (repO s q tr vO vS vT st) := (blk R (lt_of_block H.rep) (nS _ _ _ _ _ _ _ _ H.rep)).trans H.rep
  have hset : ∀ b, b ≠ R → (w4.setCell ⟨R, 5, none⟩ v').heap[b]? = w4.heap[b]? := fun b hb => Below.heap_setCell _ ⟨R, 5, none⟩ _ _ hb
  have keep : ∀ {e n : Nat} {v : Value} {xs : List Value}, w4.ownsRow w.heap.size e 1 v n xs → e ≠ 40 → (w4.setCell ⟨R, 5, none⟩ v').ownsRow w.heap.size e 1 v n xs := fun h hne => own_keep h (fun b hb => hset b (fun e2 => by
    obtain ⟨cur, hc⟩ := own_ty h hb
    rw [e2, hR] at hc
    simp at hc
    exact hne hc.2.symm))
  refine ⟨hR, ?_, ?_, H.low, ?_, H.ne, ?_, keep (own_far H.out H.took (by decide) g4 rfl) (by decide), keep (own_far H.sent H.took (by decide) g4 rfl) (by decide), ?_⟩
  · exact (H.below.drew.alloc (by exact hzr) _).grown g4 (by simp; omega) (fun b hb => (H.took.lt b hb).1)
  · exact (((H.below.drew.alloc (by exact hzr) _).grown g4 (by simp; omega) (fun b hb => (H.took.lt b hb).1))).setCell (p := ⟨R, 5, none⟩) H.low.2 _
  · exact (hset _ H.ne).trans ((blk R0 (lt_of_block H.zero) (nS _ _ _ _ _ _ _ _ H.zero)).trans H.zero)
  · simp only [World.setCell, Array.getElem?_modify, if_true, hR, Option.map_some]
    rfl
  · rw [tks_succ hy]
    exact keep h4 (by decide)
end
abbrev fill7 (w : World) (b s q tr : Nat) (vO vS vT : Value) (st : Nat) : World := ((((((w.setCell ⟨b, 0, none⟩ (.int .i64 s)).setCell ⟨b, 1, none⟩ (.int .i64 q)).setCell ⟨b, 2, none⟩ (.int .i64 tr)).setCell ⟨b, 3, none⟩ vO).setCell ⟨b, 4, none⟩ vS).setCell ⟨b, 5, none⟩ vT).setCell ⟨b, 6, none⟩ (.int .i64 st)
theorem fill7_at {w : World} {b s q tr : Nat} {vO vS vT : Value} {st : Nat} (h : w.heap[b]? = some repZ) : (fill7 w b s q tr vO vS vT st).heap[b]? = some (repO s q tr vO vS vT st) := by
  simp only [World.setCell, Array.getElem?_modify, if_true, h, Option.map_some]
  rfl
theorem fill7_ne {w : World} {b s q tr : Nat} {vO vS vT : Value} {st : Nat} {b' : Nat} (hn : b' ≠ b) : (fill7 w b s q tr vO vS vT st).heap[b']? = w.heap[b']? := by
  rw [Below.heap_setCell _ ⟨b, 6, none⟩ _ _ hn, Below.heap_setCell _ ⟨b, 5, none⟩ _ _ hn, Below.heap_setCell _ ⟨b, 4, none⟩ _ _ hn, Below.heap_setCell _ ⟨b, 3, none⟩ _ _ hn, Below.heap_setCell _ ⟨b, 2, none⟩ _ _ hn, Below.heap_setCell _ ⟨b, 1, none⟩ _ _ hn, Below.heap_setCell _ ⟨b, 0, none⟩ _ _ hn]
theorem fill7_below {w0 w : World} {B b s q tr : Nat} {vO vS vT : Value} {st : Nat} (h : Below B w0 w) (hB : B ≤ b) : Below B w0 (fill7 w b s q tr vO vS vT st) :=
  ((((((h.setCell (p := ⟨b, 0, none⟩) hB _).setCell (p := ⟨b, 1, none⟩) hB _).setCell (p := ⟨b, 2, none⟩) hB _).setCell (p := ⟨b, 3, none⟩) hB _).setCell (p := ⟨b, 4, none⟩) hB _).setCell (p := ⟨b, 5, none⟩) hB _).setCell (p := ⟨b, 6, none⟩) hB _
theorem fill7_own {w : World} {b s q tr : Nat} {vO vS vT : Value} {st : Nat} (h : w.heap[b]? = some repZ) {B e n : Nat} {v : Value} {xs : List Value} (ho : w.ownsRow B e 1 v n xs) (he : e ≠ 40) : (fill7 w b s q tr vO vS vT st).ownsRow B e 1 v n xs :=
  own_keep ho (fun k hk => fill7_ne (fun e2 => by
    obtain ⟨cur, hc⟩ := own_ty ho hk
    rw [e2, h] at hc
    simp at hc
    exact he hc.2.symm))
end Go.Proofs.Ytlpgfgcfkiefnaa.Vw

