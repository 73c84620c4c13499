/- What end lays down, piece by piece. -/
import Derived.Test.YtekjhefmhhcboaaGreatM31
import Derived.Test.YtekjhefmhhcboaaGreatM17
namespace Go.Proofs.YtekjhefmhhcboaaGreat.Vw
open Go.RowKit Vf Vm
def svs (sv : Nat → Value) (n : Nat) : List Value := (List.range n).map sv
theorem svs_succ (sv : Nat → Value) (n : Nat) : svs sv (n + 1) = svs sv n ++ [sv n] := by simp [svs, List.range_succ]
theorem svs_eq {a b : Nat → Value} {n : Nat} (h : ∀ i, i < n → a i = b i) : svs a n = svs b n := List.map_congr_left (fun i hi => h i (by simpa using hi))
def enc (m : Md) (W : Wd) (ov : Nat → Value) (i : Nat) : List Value := [.int .i64 (stat mbX m (W.tk (i : Int)) W.x).1, .int .i64 (stat mbX m (W.tk (i : Int)) W.x).2, .int .i64 (W.tk (i : Int)).trap, ov i]
def enCells (m : Md) (W : Wd) (ov : Nat → Value) (n : Nat) : List Value := (List.range n).flatMap (enc m W ov)
theorem enCells_succ (m : Md) (W : Wd) (ov : Nat → Value) (n : Nat) : enCells m W ov (n + 1) = enCells m W ov n ++ enc m W ov n := by simp [enCells, List.range_succ]
abbrev woO (vE vB : Value) (steps : Int) : Obj := .cells #[vE, vB, .int .i64 steps] 31 (0, 0)
theorem wo_cells {w : World} {b : Nat} {vE vB : Value} {st : Int} (h : w.heap[b]? = some (woO vE vB st)) : (w.cell? ⟨b, 0, none⟩ = some vE ∧ w.cell? ⟨b, 1, none⟩ = some vB ∧ w.cell? ⟨b, 2, none⟩ = some (.int .i64 st)) ∧ ∀ j, w.frozen? ⟨b, j, none⟩ = false := by simp [World.cell?, World.frozen?, h]
structure EnIn (m : Md) (W : Wd) (C : Nat) (w : World) (vE vB : Value) (k1 k2 : Nat) (ov bv : Nat → Value) : Prop where
 ends : w.ownsRow C 48 4 vE k1 (enCells m W ov k1)
 outs : ∀ (i : Nat), i < k1 → w.ownsRow C 2 1 (ov i) (W.tk (i : Int)).out.length (ints (W.tk (i : Int)).out)
 bxs : w.ownsRow C 46 1 vB k2 (svs bv k2)
 words : ∀ (i : Nat) q, i < k2 → W.x[i]? = some q → w.ownsRow C 2 1 (bv i) q.ws.length (ints q.ws)
theorem EnIn.keep {m : Md} {W : Wd} {C : Nat} {w w1 : World} {vE vB : Value} {k1 k2 : Nat} {ov bv : Nat → Value} (h : EnIn m W C w vE vB k1 k2 ov bv) (F : Nat → Prop) (hw : ∀ k, k < w.heap.size → ¬ F k → w1.heap[k]? = w.heap[k]?) (hF : ∀ k, F k → ∀ cur, w.heap[k]? ≠ some (.cells cur 48 (0, 0)) ∧ w.heap[k]? ≠ some (.cells cur 2 (0, 0)) ∧ w.heap[k]? ≠ some (.cells cur 46 (0, 0))) : EnIn m W C w1 vE vB k1 k2 ov bv :=
 ⟨own_keep h.ends (fun b hb => hw b (h.ends.lt b hb).2 (fun e => by obtain ⟨cur, hc⟩ := own_ty h.ends hb; exact (hF b e cur).1 hc)),
  fun i hi => own_keep (h.outs i hi) (fun b hb => hw b ((h.outs i hi).lt b hb).2 (fun e => by obtain ⟨cur, hc⟩ := own_ty (h.outs i hi) hb; exact (hF b e cur).2.1 hc)),
  own_keep h.bxs (fun b hb => hw b (h.bxs.lt b hb).2 (fun e => by obtain ⟨cur, hc⟩ := own_ty h.bxs hb; exact (hF b e cur).2.2 hc)),
  fun i q hi hq => own_keep (h.words i q hi hq) (fun b hb => hw b ((h.words i q hi hq).lt b hb).2 (fun e => by obtain ⟨cur, hc⟩ := own_ty (h.words i q hi hq) hb; exact (hF b e cur).2.1 hc))⟩
structure WoAt (m : Md) (W : Wd) (w : World) (R0 R : Nat) (vE vB : Value) (k1 k2 : Nat) (ov bv : Nat → Value) (wr : World) : Prop where
 below : Below w.heap.size w wr
 low : w.heap.size ≤ R0 ∧ w.heap.size ≤ R
 zero : wr.heap[R0]? = some (woO (.slice none 0 0) (.slice none 0 0) 0)
 ne : R0 ≠ R
 blk : wr.heap[R]? = some (woO vE vB W.steps)
 rows : EnIn m W w.heap.size wr vE vB k1 k2 ov bv
section
variable {m : Md} {W : Wd} {w wr w2 w4 : World} {R0 R : Nat} {vE vB : Value} {k1 k2 : Nat} {ov bv : Nat → Value}
theorem WoAt.on (H : WoAt m W w R0 R vE vB k1 k2 ov bv wr) (hb : Below wr.heap.size wr w2) : WoAt m W w R0 R vE vB k1 k2 ov bv w2 :=
 ⟨H.below.trans (hb.mono H.below.size), H.low, (hb.block _ (lt_of_block H.zero)).trans H.zero, H.ne, (hb.block _ (lt_of_block H.blk)).trans H.blk, H.rows.keep (fun _ => False) (fun k hk _ => hb.block k hk) (fun _ h => h.elim)⟩
theorem WoAt.put1 (H : WoAt m W w R0 R vE vB k1 k2 ov bv w2) {v v' : Value} {q : Bq} (hq : W.x[k2]? = some q) (hv : w2.ownsRow w.heap.size 2 1 v q.ws.length (ints q.ws)) {ob : Obj} (h4 : w4.ownsRow w.heap.size 46 1 v' (k2 + 1) (svs bv k2 ++ [v])) (g4 : (w2.alloc ob).grownBy w4 vB.ownBlock) :
  w4.heap[R]? = some (woO vE vB W.steps) ∧ Below w.heap.size w w4 ∧ WoAt m W w R0 R vE v' k1 (k2 + 1) ov (fun i => if i = k2 then v else bv i) (w4.setCell ⟨R, 1, none⟩ v') := by
 have hz4 := g4.size
 simp at hz4
 have hzw := H.below.size
 have stay : ∀ b, b < w2.heap.size → vB.ownBlock ≠ some b → w4.heap[b]? = w2.heap[b]? := fun b hb hn => (g4.block b (by simp; omega) (fun e => hn e.symm)).trans (Below.heap_alloc _ _ _ hb)
 have nE : ∀ b (o : Obj), w2.heap[b]? = some o → (∀ cur, o ≠ .cells cur 46 (0, 0)) → vB.ownBlock ≠ some b := fun b o hb hn e => by
  obtain ⟨cur, hc⟩ := own_ty H.rows.bxs e
  rw [hb] at hc
  exact hn cur (Option.some.inj hc)
 have hR : w4.heap[R]? = some (woO vE vB W.steps) := (stay R (lt_of_block H.blk) (nE _ _ H.blk (fun cur e => by simp at e))).trans H.blk
 have hset : ∀ b, b ≠ R → (w4.setCell ⟨R, 1, none⟩ v').heap[b]? = w4.heap[b]? := fun b hb => Below.heap_setCell _ ⟨R, 1, none⟩ _ _ hb
 have hbel : Below w.heap.size w w4 := (H.below.alloc H.below.size _).grown g4 (by simp; omega) (fun b hb => (H.rows.bxs.lt b hb).1)
 have k4 : ∀ {e n size : Nat} {v : Value} {xs : List Value}, w4.ownsRow w.heap.size e size v n xs → e ≠ 31 → (w4.setCell ⟨R, 1, none⟩ v').ownsRow w.heap.size e size v n xs := fun h he => own_keep h (fun b hb => hset b (fun e2 => by
  obtain ⟨cur, hc⟩ := own_ty h hb
  rw [e2, hR] at hc
  simp at hc
  exact he hc.2.symm))
 have k2' : ∀ {e n size : Nat} {v : Value} {xs : List Value}, w2.ownsRow w.heap.size e size v n xs → e ≠ 46 → w4.ownsRow w.heap.size e size v n xs := fun h he => own_keep h (fun b hb => stay b (h.lt b hb).2 (fun e2 => by
  obtain ⟨cur, hc⟩ := own_ty h hb
  obtain ⟨cur2, hc2⟩ := own_ty H.rows.bxs e2
  rw [hc] at hc2
  simp at hc2
  exact he hc2.2))
 refine ⟨hR, hbel, hbel.setCell (p := ⟨R, 1, none⟩) H.low.2 _, H.low, (hset _ H.ne).trans ((stay R0 (lt_of_block H.zero) (nE _ _ H.zero (fun cur e => by simp at e))).trans H.zero), H.ne, ?_, ⟨k4 (k2' H.rows.ends (by decide)) (by decide), fun i hi => k4 (k2' (H.rows.outs i hi) (by decide)) (by decide), ?_, fun i p hi hp => ?_⟩⟩
 ·simp only [World.setCell, Array.getElem?_modify, if_true, hR, Option.map_some]
  rfl
 ·rw [svs_succ, svs_eq (b := bv) (fun i hi => if_neg (by omega)), if_pos rfl]
  exact k4 h4 (by decide)
 ·by_cases e : i = k2
  ·subst e
   rw [hq] at hp
   cases hp
   simp only [if_true]
   exact k4 (k2' hv (by decide)) (by decide)
  ·simp only [if_neg e]
   exact k4 (k2' (H.rows.words i p (by omega) hp) (by decide)) (by decide)
end
def tasksTo (us : List Un) (k : Nat) : List Nat := (List.range k).filter fun i => decide (∃ u, us[i]? = some u ∧ u.kind = 4)
end Go.Proofs.YtekjhefmhhcboaaGreat.Vw
