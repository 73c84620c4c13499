/- What comes out is what went in, plainly. -/
import Derived.Test.YtomneemdbechgaaGreatM41
import Derived.Test.YtomneemdbechgaaGreatM44
namespace Go.Proofs.YtomneemdbechgaaGreat.Vw
open Go.RowKit Vf Vm

/-- What an event does with what is in the boxes. -/
def bstep (xs : List (List Int)) (e : Ev) : List (List Int) :=
  if e.kind = 2 then xs.set e.box.toNat (((xs[e.box.toNat]?).getD []) ++ [e.v]) else if e.kind = 3 then xs.set e.box.toNat (((xs[e.box.toNat]?).getD []).tail) else xs
/-- What is asked of it. -/
def bcond (m : Md) (xs : List (List Int)) (e : Ev) : Prop :=
  (e.kind = 2 → ∃ (n : Nat) (q : List Int) (b : Bx), e.box = n ∧ xs[n]? = some q ∧ m.boxes[n]? = some b ∧ (q.length : Int) + 1 ≤ b.cap) ∧ (e.kind = 3 → ∃ (n : Nat) (q : List Int), e.box = n ∧ xs[n]? = some (e.v :: q))
def BOk (m : Md) : List (List Int) → List Ev → Prop
  | _, [] => True
  | xs, e :: l => bcond m xs e ∧ BOk m (bstep xs e) l
def bfold (xs : List (List Int)) (l : List Ev) : List (List Int) := l.foldl bstep xs
theorem bok_app (m : Md) : ∀ (a b : List Ev) (xs : List (List Int)), BOk m xs (a ++ b) ↔ BOk m xs a ∧ BOk m (bfold xs a) b
  | [], b, xs => by simp [BOk, bfold]
  | e :: a, b, xs => by
    show bcond m xs e ∧ BOk m (bstep xs e) (a ++ b) ↔ (bcond m xs e ∧ BOk m (bstep xs e) a) ∧ BOk m (bfold (bstep xs e) a) b
    rw [bok_app m a b, and_assoc]
theorem bfold_app (a b : List Ev) (xs : List (List Int)) : bfold xs (a ++ b) = bfold (bfold xs a) b := List.foldl_append ..
abbrev wsOf (x : List Bq) : List (List Int) := x.map (·.ws)
theorem bquiet {xs : List (List Int)} {e : Ev} (h2 : e.kind ≠ 2) (h3 : e.kind ≠ 3) (m : Md) : bcond m xs e ∧ bstep xs e = xs := ⟨⟨fun h => absurd h h2, fun h => absurd h h3⟩, by unfold bstep; rw [if_neg h2, if_neg h3]⟩
theorem bquiets (m : Md) {xs : List (List Int)} : ∀ (l : List Ev), (∀ e ∈ l, e.kind ≠ 2 ∧ e.kind ≠ 3) → BOk m xs l ∧ bfold xs l = xs
  | [], _ => ⟨trivial, rfl⟩
  | e :: l, h => by
    obtain ⟨h1, h2⟩ := bquiet (xs := xs) (h e List.mem_cons_self).1 (h e List.mem_cons_self).2 m
    obtain ⟨h3, h4⟩ := bquiets m (xs := xs) l (fun e he => h e (List.mem_cons_of_mem _ he))
    refine ⟨⟨h1, by rw [h2]; exact h3⟩, ?_⟩
    show bfold (bstep xs e) l = xs
    rw [h2]
    exact h4
/-- An event, and then perhaps a trap. -/
theorem did_log {t t' : Tk} {g : List Ev} (h : Did t t' g) : ∃ f, t'.log = t.log ++ (g ++ f) ∧ ∀ e ∈ f, e.kind ≠ 2 ∧ e.kind ≠ 3 := by
  rcases h.2 with ⟨e, _⟩ | ⟨n, e, _⟩
  · exact ⟨[], by rw [e, List.append_nil], fun e he => (by cases he)⟩
  · exact ⟨[⟨5, 0, n⟩], by rw [e, List.append_assoc], fun e he => by simp at he; subst he; simp⟩
/-- A step. -/
theorem one_box {m : Md} {K : KM} (hK : Known m K) {t : Tk} {x : List Bq} (hG : Goes m K t) (h0 : t.over = 0) (hB : BxOk m x) (hs : (stat mbX m t x).1 = 1) : ∃ d, (one mbX m t x).1.log = t.log ++ d ∧ BOk m (wsOf x) d ∧ bfold (wsOf x) d = wsOf (one mbX m t x).2 := by
  obtain ⟨_, _, _, hbx⟩ := here_of hK hG h0
  have hmay := (stat_may h0).1 hs
  have key : ∀ {g f : List Ev} {y : List Bq}, (∀ e ∈ f, e.kind ≠ 2 ∧ e.kind ≠ 3) → BOk m (wsOf x) g → bfold (wsOf x) g = wsOf y → BOk m (wsOf x) (g ++ f) ∧ bfold (wsOf x) (g ++ f) = wsOf y := fun hf h1 h2 => by
    obtain ⟨k1, k2⟩ := bquiets m (xs := bfold (wsOf x) _) _ hf
    exact ⟨(bok_app m _ _ _).2 ⟨h1, k1⟩, by rw [bfold_app, k2, h2]⟩
  rcases one_did m t x with ⟨ho, k⟩ | ⟨ho, k⟩ | ⟨ho, _, k2, _⟩ | ⟨⟨ho1, ho2, _⟩, ⟨g, hg, k⟩ | ⟨_, k2, _⟩⟩
  · obtain ⟨f, e, hf⟩ := did_log k
    obtain ⟨d1, d2⟩ := hbx (.inl ho)
    obtain ⟨q, hq⟩ : ∃ q, x[(t.ins m).a.toNat]? = some q := ⟨_, List.getElem?_eq_getElem (by rw [hB.len]; exact d2)⟩
    obtain ⟨b, hb⟩ : ∃ q, m.boxes[(t.ins m).a.toNat]? = some q := ⟨_, List.getElem?_eq_getElem d2⟩
    obtain ⟨c1, c2, _⟩ := hB.boxes _ q b hq hb
    have hfull := hmay.1 ho
    simp only [mbX, hq] at hfull
    simp at hfull
    have hw : (wsOf x)[(t.ins m).a.toNat]? = some q.ws := by rw [List.getElem?_map, hq]; rfl
    have ey : (one mbX m t x).2 = x.set (t.ins m).a.toNat { q with ws := q.ws ++ [(t.goto (t.frame.pc + 1)).last] } := by
      show stX mbX (t.ins m) _ x = _
      unfold stX
      rw [if_pos ho]
      simp only [mbX, hq]
    refine ⟨_, e, key hf ?_ ?_⟩
    · exact ⟨⟨fun _ => ⟨(t.ins m).a.toNat, q.ws, b, d1.symm, hw, hb, by omega⟩, fun h => by simp at h⟩, trivial⟩
    · rw [ey]
      simp only [bfold, List.foldl_cons, List.foldl_nil]
      unfold bstep
      rw [if_pos rfl]
      simp only [hw, Option.getD_some, wsOf, List.map_set]
  · obtain ⟨f, e, hf⟩ := did_log k
    obtain ⟨d1, d2⟩ := hbx (.inr ho)
    have hemp := hmay.2 ho
    obtain ⟨q, u, ws, hq, hws⟩ := not_empty hemp
    have hw : (wsOf x)[(t.ins m).a.toNat]? = some (u :: ws) := by rw [List.getElem?_map, hq, ← hws]; rfl
    have hh : mbX.head x (t.ins m).a.toNat = u := by simp only [mbX, hq, hws]; simp
    have ey : (one mbX m t x).2 = x.set (t.ins m).a.toNat { q with ws := q.ws.tail } := by
      show stX mbX (t.ins m) _ x = _
      unfold stX
      rw [if_neg (by omega), if_pos ho]
      simp only [mbX, hq]
    refine ⟨_, e, key hf ?_ ?_⟩
    · exact ⟨⟨fun h => by simp at h, fun _ => ⟨(t.ins m).a.toNat, ws, d1.symm, by rw [hh]; exact hw⟩⟩, trivial⟩
    · rw [ey]
      simp only [bfold, List.foldl_cons, List.foldl_nil]
      unfold bstep
      rw [if_neg (by simp), if_pos rfl]
      simp only [hw, Option.getD_some, wsOf, List.map_set, hws]
  · have ey : (one mbX m t x).2 = x := stX_none (by omega) (by omega)
    obtain ⟨k1, k3⟩ := bquiets m (xs := wsOf x) [⟨1, 0, (t.goto (t.frame.pc + 1)).last⟩] (fun e he => by simp at he; subst he; simp)
    exact ⟨_, k2, k1, by rw [k3, ey]⟩
  · have ey : (one mbX m t x).2 = x := stX_none ho1 ho2
    obtain ⟨f, e, hf⟩ := did_log k
    obtain ⟨k1, k3⟩ := bquiets m (xs := wsOf x) (g ++ f) (fun e he => by
      rcases List.mem_append.1 he with h | h
      · rcases hg with rfl | ⟨n, rfl⟩
        · cases h
        · simp at h; subst h; simp
      · exact hf e h)
    exact ⟨_, e, k1, by rw [k3, ey]⟩
  · have ey : (one mbX m t x).2 = x := stX_none ho1 ho2
    obtain ⟨k1, k3⟩ := bquiets m (xs := wsOf x) [⟨4, 0, 0⟩] (fun e he => by simp at he; subst he; simp)
    exact ⟨_, k2, k1, by rw [k3, ey]⟩
theorem go_box {m : Md} {K : KM} (hK : Known m K) : ∀ (n : Nat) (t : Tk) (x : List Bq), Goes m K t → (t.over = 0 ∨ t.over = 4 ∨ t.over = 5) → BxOk m x → ∃ d, (go mbX m n t x).2.1.log = t.log ++ d ∧ BOk m (wsOf x) d ∧ bfold (wsOf x) d = wsOf (go mbX m n t x).2.2
  | 0, t, x, _, _, _ => ⟨[], (List.append_nil _).symm, trivial, rfl⟩
  | n + 1, t, x, hG, ho, hB => by
    by_cases hs : (stat mbX m t x).1 = 1
    · rw [go_yes hs]
      have h0 := ready_zero hs ho
      obtain ⟨d, h1, h2, h3⟩ := one_box hK hG h0 hB hs
      obtain ⟨g1, g2, g3⟩ := mj_step hK hG h0 hB hs
      obtain ⟨d', k1, k2, k3⟩ := go_box hK n _ _ g1 g2 g3
      refine ⟨d ++ d', by rw [k1, h1, List.append_assoc], (bok_app m _ _ _).2 ⟨h2, by rw [h3]; exact k2⟩, by rw [bfold_app, h3]; exact k3⟩
    · rw [go_no hs]
      exact ⟨[], (List.append_nil _).symm, trivial, rfl⟩
theorem follow_box {m : Md} {K : KM} (hK : Known m K) : ∀ (ps : List Pk) (W : Wd), KI m K W.wx → ∃ d, (followW m W ps).evs = W.evs ++ d ∧ BOk m (wsOf W.x) (d.map (·.2)) ∧ bfold (wsOf W.x) (d.map (·.2)) = wsOf (followW m W ps).x
  | [], W, _ => ⟨[], (List.append_nil _).symm, trivial, rfl⟩
  | p :: ps, W, hI => by
    obtain ⟨n, _, hr⟩ := pick_runs m W p
    have hI2 : KI m K (pickW m W p).wx := hr.keeps (P := KI m K) (fun s t h hs => ki_step hK h hs) hI
    obtain ⟨d', k1, k2, k3⟩ := follow_box hK ps (pickW m W p) hI2
    by_cases h : refE m W p = 0
    · obtain ⟨h1, h2, _⟩ := refE_zero h
      obtain ⟨t, ht⟩ : ∃ t, W.ts[p.task.toNat]? = some t := ⟨_, List.getElem?_eq_getElem (by omega)⟩
      have e : W.tk p.task = t := by simp [Wd.tk, ht]
      obtain ⟨hG, ho, _⟩ := hI.tasks p.task.toNat t ht
      obtain ⟨d, g1, g2, g3⟩ := go_box hK (min p.q.toNat (20000 - W.steps)) t W.x hG ho hI.bx
      have er : ran m W p = go mbX m (min p.q.toNat (20000 - W.steps)) t W.x := by unfold ran; rw [e]
      have ew : (pickW m W p).evs = W.evs ++ d.map fun x => (p.task.toNat, x) := by
        unfold pickW
        rw [if_pos h]
        show W.evs ++ _ = _
        rw [er, g1, e]
        simp
      have ex : (pickW m W p).x = (go mbX m (min p.q.toNat (20000 - W.steps)) t W.x).2.2 := by
        unfold pickW
        rw [if_pos h, er]
      have em : (d.map fun x => (p.task.toNat, x)).map (·.2) = d := by simp [Function.comp_def]
      refine ⟨(d.map fun x => (p.task.toNat, x)) ++ d', ?_, ?_, ?_⟩
      · show (followW m (pickW m W p) ps).evs = _
        rw [k1, ew, List.append_assoc]
      · rw [List.map_append, em, bok_app, g3, ← ex]
        exact ⟨g2, k2⟩
      · rw [List.map_append, em, bfold_app, g3, ← ex]
        exact k3
    · have e : pickW m W p = W := by unfold pickW; rw [if_neg h]
      have e2 : followW m W (p :: ps) = followW m W ps := by show followW m (pickW m W p) ps = _; rw [e]
      rw [e] at k1 k2 k3
      exact ⟨d', by rw [e2]; exact k1, k2, by rw [e2]; exact k3⟩
/-- WHAT COMES OUT IS WHAT WENT IN. -/
theorem run_box {m : Md} (hv : verify m = (0, 0, 0)) (ps : List Pk) : BOk m (List.replicate m.boxes.length []) ((runW m ps).evs.map (·.2)) ∧ bfold (List.replicate m.boxes.length []) ((runW m ps).evs.map (·.2)) = wsOf (runW m ps).x := by
  obtain ⟨⟨K, hK⟩, _⟩ := known_of hv
  obtain ⟨d, h1, h2, h3⟩ := follow_box hK ps (firstW m) (ki_first hK hv)
  have e0 : wsOf (firstW m).x = List.replicate m.boxes.length [] := by
    unfold firstW wsOf
    rw [List.map_map]
    exact List.map_const' ..
  have e1 : (runW m ps).evs = d := by
    have : (firstW m).evs = [] := rfl
    rw [this, List.nil_append] at h1
    exact h1
  rw [e0] at h2 h3
  rw [e1]
  exact ⟨h2, h3⟩
end Go.Proofs.YtomneemdbechgaaGreat.Vw

/- For TraceBoxes: what is in the boxes, by the events alone. -/
namespace Go.Proofs.YtomneemdbechgaaGreat.Vw
open Go.RowKit Vf Vm

set_option maxRecDepth 100000 in
/-- The row without its first. -/
theorem qw_tail {w : World} {B : Nat} {x : Int} {rv : Value} {ws : List Int} (h : QW w B rv (x :: ws)) : ∃ g off cap rv', rv = .slice (some ⟨g, off, none⟩) (ws.length + 1) cap ∧ w.cell? ⟨g, off, none⟩ = some (.int .i64 x) ∧ QW w B rv' ws ∧ rv'.ownBlock = some g ∧ rv'.oneCell' = true ∧ (∀ W : World, (Instr.sliceAt 44 (.slice (some ⟨g, off, none⟩) (ws.length + 1) cap) (some (.int .i64 1)) none none).run Tryz.prog W = .ok rv' W) ∧ (∀ W : World, (Instr.slice 44 (.slice (some ⟨g, off, none⟩) (ws.length + 1) cap) (some (.int .i64 1)) none none).run Tryz.prog W = .ok rv' W) := by
  obtain ⟨g, off, cap, hrv, hcap, cx, hq1, hq2⟩ := h.pop
  obtain ⟨i0, hi, z0, z1, z2⟩ := info_parts Sb.Tryz.info2
  have hsz : ∀ W : World, (sizeOf 2).run Tryz.prog W = .ok 1 W := fun W => by simp [sizeOf, typeInfo, hi, z1]
  have hrun : ∀ W : World, (Instr.slice 44 (.slice (some ⟨g, off, none⟩) (ws.length + 1) cap) (some (.int .i64 1)) none none).run Tryz.prog W = .ok (sliced (some ⟨g, off, none⟩) 1 (ws.length + 1) cap 1) W := fun W => by
    have := run_slice_l (P := Tryz.prog) W 44 (some ⟨g, off, none⟩) (ws.length + 1) cap Tryz.underlying44 .i64 1 (by decide) (by omega)
    rw [this]
    have e : Tryz.prog.elem 44 = 2 := by kernel_rfl
    rw [e, hsz]
    rfl
  refine ⟨g, off, cap, sliced (some ⟨g, off, none⟩) 1 (ws.length + 1) cap 1, hrv, cx, ?_, ?_, rfl, fun W => ?_, hrun⟩
  · by_cases hc : cap = 1
    · subst hc
      have hl : ws.length = 0 := by omega
      have := hq1 rfl
      simp [sliced]
      rw [hl]
      exact this
    · have := hq2 hc
      simp [sliced, hc]
      exact this
  · unfold sliced Value.ownBlock
    by_cases hc : cap = 1
    · simp [hc]
    · simp [hc, add_none]
  · rw [run_sliceAt_slice W 44 _ _ _ _ Tryz.underlying44]
    exact hrun W
/-- An append inside a drawing region. -/
theorem step_append_qw {ops : Array Oper} {o : Oper} {a : Act} {w : World} {K : Act → World → Prop} {Q : Exit → Act → World → Prop} {F : Prop} (hgd : o.guard = none) (s x : Operand)
    (ho : o.op = .call { callee := .builtin .append, args := #[s, x], argTypes := #[44, 44] })
    (B : Nat) (v : Value) (ws : List Int) (y : Int) (hs : a.eval s = v) (h : QW w B v ws) (ad : Addr) (hx : a.eval x = .slice (some ad) 1 1) (hnews : ∀ j u, [Value.int .i64 y][j]? = some u → w.cell? (ad.add j) = some u)
    (hn : ws.length ≤ 20) (hB : B ≤ w.heap.size)
    (hK : ∀ v' w', QW w' B v' (ws ++ [y]) → w.grownBy w' v.ownBlock → (∀ k, v'.ownBlock = some k → v.ownBlock = some k ∨ w.heap.size ≤ k) → K (a.put o.dst v') w') :
    if Region.wanted o (yielded ops a.tmps) = true then Oper.wp Tryz.prog o a w K Q else F := by
  have hw : Region.wanted o (yielded ops a.tmps) = true := by simp [Region.wanted, hgd]
  rw [if_pos hw]
  obtain ⟨v', w', hr, h2, h3, h4⟩ := append_qw w B o.type v ws y h ad hnews hn hB
  unfold Oper.wp
  simp [execOp, ho, resolve, invoke, builtin, hs, hx, hr, Result.andThen]
  exact hK v' w' h2 h3 h4

/-- What was sent and not received, in memory. -/
structure BbAt (Wb : World) (G : Nat) (xs : List (List Int)) (vs : List Value) (wr : World) : Prop where
  below : Below Wb.heap.size Wb wr
  row : wr.heap[G]? = some (.cells (List.toArray vs) 44 (0, 0))
  low : Wb.heap.size ≤ G
  len : vs.length = xs.length
  each : ∀ (n : Nat) q, xs[n]? = some q → ∃ v, vs[n]? = some v ∧ QW wr Wb.heap.size v q
  apart : ∀ (n p : Nat) v u k, n ≠ p → vs[n]? = some v → vs[p]? = some u → v.ownBlock = some k → u.ownBlock ≠ some k
section
variable {Wb : World} {G : Nat} {xs : List (List Int)} {vs : List Value} {wr w2 w3 : World}
theorem BbAt.on (h : BbAt Wb G xs vs wr) (hb : Below wr.heap.size wr w2) : BbAt Wb G xs vs w2 :=
  ⟨h.below.trans (hb.mono h.below.size), (hb.block _ (lt_of_block h.row)).trans h.row, h.low, h.len, fun n q hq => by
    obtain ⟨v, h1, h2⟩ := h.each n q hq
    exact ⟨v, h1, h2.keep (fun k hk => hb.block k (h2.lt k hk).2)⟩, h.apart⟩
theorem BbAt.cell (h : BbAt Wb G xs vs wr) {n : Nat} {v : Value} (hv : vs[n]? = some v) : wr.cell? ⟨G, n, none⟩ = some v ∧ wr.frozen? ⟨G, n, none⟩ = false := by
  have hr := h.row
  simp [World.cell?, World.frozen?, hr, hv]
/-- A box has turned. -/
theorem BbAt.set (h : BbAt Wb G xs vs wr) {n : Nat} {q q' : List Int} {v v' : Value} (hq : xs[n]? = some q) (hv : vs[n]? = some v) (hz : wr.heap.size ≤ w3.heap.size) (hos : w3.os = wr.os ∧ w3.tape = wr.tape ∧ w3.output = wr.output) (hb : ∀ b, b < wr.heap.size → v.ownBlock ≠ some b → w3.heap[b]? = wr.heap[b]?) (h' : QW w3 Wb.heap.size v' q') (hw : ∀ k, v'.ownBlock = some k → v.ownBlock = some k ∨ wr.heap.size ≤ k) : BbAt Wb G (xs.set n q') (vs.set n v') (w3.setCell ⟨G, n, none⟩ v') := by
  have hnl := (List.getElem?_eq_some_iff.1 hv).1
  have hxl := (List.getElem?_eq_some_iff.1 hq).1
  obtain ⟨v0, e0, hQ⟩ := h.each n q hq
  rw [hv] at e0
  cases e0
  have hG3 : w3.heap[G]? = some (.cells (List.toArray vs) 44 (0, 0)) := (hb _ (lt_of_block h.row) (hQ.ty h.row (by decide))).trans h.row
  have hset : ∀ b, b ≠ G → (w3.setCell ⟨G, n, none⟩ v').heap[b]? = w3.heap[b]? := fun b hb => Below.heap_setCell _ ⟨G, n, none⟩ _ _ hb
  have hB3 : Below Wb.heap.size Wb w3 := ⟨hos.1.trans h.below.os, hos.2.1.trans h.below.tape, hos.2.2.trans h.below.output, Nat.le_trans h.below.size hz, fun b hb' => (hb b (by have := h.below.size; omega) (fun e => by have := (hQ.lt b e).1; omega)).trans (h.below.block b hb')⟩
  refine ⟨hB3.setCell (p := ⟨G, n, none⟩) h.low _, Mb.set_row hG3 n v', h.low, by simp [h.len], fun p r hr => ?_, fun p r v1 u1 k hne h1 h2 h3 => ?_⟩
  · rw [List.getElem?_set] at hr
    split at hr
    · rename_i e
      subst e
      (try simp only [hxl, if_true] at hr)
      cases hr
      exact ⟨v', List.getElem?_set_self hnl, h'.keep (fun k hk => hset k (fun e => h'.ty hG3 (by decide) (by rw [hk, e])))⟩
    · rename_i e
      obtain ⟨u, hu, hQu⟩ := h.each p r hr
      have k3 : ∀ k, u.ownBlock = some k → w3.heap[k]? = wr.heap[k]? := fun k hk => hb k (hQu.lt k hk).2 (fun e2 => h.apart n p v u k e hv hu e2 hk)
      have hQ3 := hQu.keep k3
      exact ⟨u, by rw [List.getElem?_set_ne e]; exact hu, hQ3.keep (fun k hk => hset k (fun e2 => hQ3.ty hG3 (by decide) (by rw [hk, e2])))⟩
  · have old : ∀ (p : Nat) u, n ≠ p → vs[p]? = some u → ∀ k, v'.ownBlock = some k → u.ownBlock ≠ some k := fun p u hp hu k hk e => by
      have hpl := (List.getElem?_eq_some_iff.1 hu).1
      obtain ⟨r', hr'⟩ : ∃ r, xs[p]? = some r := ⟨_, List.getElem?_eq_getElem (by rw [← h.len]; exact hpl)⟩
      obtain ⟨u2, hu2, hQu⟩ := h.each p r' hr'
      rw [hu] at hu2
      cases hu2
      rcases hw k hk with h4 | h4
      · exact h.apart n p v u k hp hv hu h4 e
      · have := (hQu.lt k e).2
        omega
    by_cases ep : n = p
    · subst ep
      rw [List.getElem?_set_self hnl] at h1
      cases h1
      rw [List.getElem?_set_ne hne] at h2
      exact old r u1 hne h2 k h3
    · rw [List.getElem?_set_ne ep] at h1
      by_cases er : n = r
      · subst er
        rw [List.getElem?_set_self hnl] at h2
        cases h2
        exact fun e => old p v1 ep h1 k e h3
      · rw [List.getElem?_set_ne er] at h2
        exact h.apart p r v1 u1 k hne h1 h2 h3
theorem QW.reads {w : World} {B : Nat} {v : Value} {q : List Int} (h : QW w B v q) : RI w v q := by
  rcases h with ⟨rfl, rfl⟩ | ⟨g, off, cap, cs, rfl, _, hh, h1, h2, h3⟩
  · exact ⟨none, 0, rfl, Nat.le_refl _, fun i x hx => by simp at hx⟩
  · refine ⟨some ⟨g, off, none⟩, cap, rfl, h2, fun i x hx => ⟨g, off, rfl, ?_⟩⟩
    have := h3 i x hx
    simp [World.cell?, hh, this]
theorem BbAt.reads (h : BbAt Wb G xs vs wr) (c : Nat) : RS wr (.slice (some ⟨G, 0, none⟩) xs.length c) xs := by
  refine ⟨some ⟨G, 0, none⟩, c, rfl, fun i l hl => ?_⟩
  obtain ⟨v, hv, hQ⟩ := h.each i l hl
  exact ⟨G, 0, v, rfl, by rw [Nat.zero_add]; exact (h.cell hv).1, hQ.reads⟩
theorem BbAt.first (Wb : World) (n : Nat) : BbAt Wb Wb.heap.size (List.replicate n []) (List.replicate n (.slice none 0 0)) (Wb.alloc (.cells (List.toArray (List.replicate n (.slice none 0 0))) 44)) := by
  refine ⟨(Below.refl _ Wb).alloc (Nat.le_refl _) _, heap_alloc_new Wb _, Nat.le_refl _, by simp, fun i q hq => ?_, fun i j v u k _ hv _ hk => ?_⟩
  · rw [List.getElem?_replicate] at hq
    split at hq
    · cases hq
      exact ⟨.slice none 0 0, by rw [List.getElem?_replicate]; simp [*], .inl ⟨rfl, rfl⟩⟩
    · cases hq
  · rw [List.getElem?_replicate] at hv
    split at hv
    · cases hv; cases hk
    · cases hv
end
end Go.Proofs.YtomneemdbechgaaGreat.Vw

/- The walk of TraceBoxes: WHAT COMES OUT IS WHAT WENT IN. -/
namespace Go.Proofs.YtomneemdbechgaaGreat.Vw
open Go.RowKit Vf Vm

theorem Tryz.infoint64s : (Tryz.prog.info? 44).map (fun i => (i.zero, i.size, i.bytes)) = some (some (.slice none 0 0), 1, 24) := by kernel_rfl
theorem bok_at (m : Md) {l : List Ev} {xs : List (List Int)} (h : BOk m xs l) {k : Nat} {e : Ev} (he : l[k]? = some e) : bcond m (bfold xs (l.take k)) e ∧ bfold xs (l.take (k + 1)) = bstep (bfold xs (l.take k)) e := by
  have el : l = l.take k ++ e :: l.drop (k + 1) := by
    have hk := (List.getElem?_eq_some_iff.1 he).1
    rw [← (List.getElem?_eq_some_iff.1 he).2, ← List.drop_eq_getElem_cons hk, List.take_append_drop]
  rw [el, bok_app] at h
  refine ⟨h.2.1, ?_⟩
  rw [List.take_add_one, he, bfold_app]
  rfl
theorem bstep_len (xs : List (List Int)) (e : Ev) : (bstep xs e).length = xs.length := by
  unfold bstep
  split
  · simp
  · split <;> simp
theorem bfold_len : ∀ (l : List Ev) (xs : List (List Int)), (bfold xs l).length = xs.length
  | [], _ => rfl
  | e :: l, xs => (bfold_len l (bstep xs e)).trans (bstep_len xs e)


set_option maxRecDepth 100000 in
set_option maxHeartbeats 8000000 in
theorem tboxes_any (m : Md) (ab au : Option Addr) (cb cu : Nat) (ps : List Pk) (a : Option Addr) (cap : Nat) (w : World) (hmd : ModIn w.heap.size w m ab au) (hps : PkIn w.heap.size w ps a) :
    Calls Tryz.prog 4 #[mdV m ab au cb cu, .slice a ps.length cap] w fun e w' => e = .returned (.bool true) ∧ Below w.heap.size w w' := by
  obtain ⟨i0, hi, hz0, hz1, hz2⟩ := info_parts Tryz.infoint64s
  have HMD := Sb.hide hmd
  have HPS := Sb.hide hps
  obtain ⟨E, hE⟩ : ∃ E, E = wrongE m ps.length := ⟨_, rfl⟩
  have HV : Hid (E = 0 → verify m = (0, 0, 0)) := fun h => (wrongE_zero (by rw [← hE]; exact h)).1
  have HE := Sb.hide hE
  have HB0 : Hid (Below w.heap.size w (w.alloc (mdB m ab au cb cu))) := (Below.refl _ w).alloc (Nat.le_refl _) _
  have HM0 : Hid ((w.alloc (mdB m ab au cb cu)).heap[w.heap.size]? = some (mdB m ab au cb cu)) := heap_alloc_new w _
  clear hmd hps hE
  go_enter Tryz.func4, Tryz.ntmps4
  go_wp2_with fail
  generalize w.alloc (mdB m ab au cb cu) = W0 at *
  refine (alive_any _).mono ?_
  rintro e w1 ⟨rfl, hb1⟩
  have HB1 := Sb.hide (HB0.out.trans (hb1.mono HB0.out.size))
  have HM1 := Sb.hide ((hb1.block _ (lt_of_block HM0.out)).trans HM0.out)
  have c1 := md_cells HM1.out
  clear hb1
  go_wp2_with fail
  refine (Trace_any m ab au cb cu w.heap.size ps a cap _ (Sb.hide (HMD.out.low HB1.out.block)) (Sb.hide (HPS.out.low HB1.out.block)) HB1.out.size E HE).mono ?_
  rintro e w2 ⟨hb2, hr1⟩
  have HB2 := Sb.hide (HB1.out.trans (hb2.mono HB1.out.size))
  have HM2 := Sb.hide ((hb2.block _ (lt_of_block HM1.out)).trans HM1.out)
  have c2 := md_cells HM2.out
  obtain ⟨ea, en, ec, rfl, hA⟩ := traced hr1
  have HA := Sb.hide hA
  clear hb2 c1 hr1 hA
  go_wp2_with fail
  refine (Run_any m ab au cb cu w.heap.size ps a cap _ (Sb.hide (HMD.out.low HB2.out.block)) (Sb.hide (HPS.out.low HB2.out.block)) HB2.out.size E HE).mono ?_
  rintro e w3 ⟨hb3, hr2⟩
  have HB3 := Sb.hide (HB2.out.trans (hb3.mono HB2.out.size))
  have HM3 := Sb.hide ((hb3.block _ (lt_of_block HM2.out)).trans HM2.out)
  have HA3 : Hid (E = 0 → RE w3 (.slice ea en ec) (runW m ps).evs) := fun h => (HA.out h).1.below hb3
  obtain ⟨fa, fn, fc, ga, gn, gc, da, dn, dc, st, rfl, hA2⟩ := ran_read hr2
  have HA2 := Sb.hide hA2
  have HB4 : Hid (Below w3.heap.size w3 (w3.alloc (woO (.slice fa fn fc) (.slice ga gn gc) st))) := (Below.refl _ w3).alloc (Nat.le_refl _) _
  have HO4 : Hid ((w3.alloc (woO (.slice fa fn fc) (.slice ga gn gc) st)).heap[w3.heap.size]? = some (woO (.slice fa fn fc) (.slice ga gn gc) st)) := heap_alloc_new w3 _
  clear hb3 c2 hr2 hA2
  by_cases h1 : E = 0
  · have e1 : (E != 0) = false := by simpa using h1
    obtain ⟨hW, K, _, hWI⟩ := HA2.out h1
    have hx := (HA3.out h1).below HB4.out
    have lx := (HA.out h1).2
    have hv := HV.out h1
    obtain ⟨hBO, hBF⟩ := run_box hv ps
    have hnb := (known_of hv).2
    have hcaps : ∀ (i : Nat) b, m.boxes[i]? = some b → b.cap ≤ 20 := fun i b hb => (box_caps hv hb).2
    have hmbx : ∀ l ∈ wsOf (runW m ps).x, l.length ≤ 1000 := fun l hl => by
      obtain ⟨q, hq, rfl⟩ := List.mem_map.1 hl
      obtain ⟨i, hi'⟩ := List.getElem?_of_mem hq
      obtain ⟨t0, ht0⟩ : ∃ t, (runW m ps).ts[0]? = some t := ⟨_, List.getElem?_eq_getElem hWI.few.1⟩
      have hM := hWI.tasks 0 t0 ht0
      obtain ⟨b, hb⟩ : ∃ b, m.boxes[i]? = some b := ⟨_, List.getElem?_eq_getElem (by have := (List.getElem?_eq_some_iff.1 hi').1; have := hM.len; omega)⟩
      have h2 := hM.boxes i q b hi' hb
      have := hcaps i b hb
      omega
    have hRS := (hW.below HB4.out).boxes
    obtain ⟨evs, hev⟩ : ∃ l, l = (runW m ps).evs := ⟨_, rfl⟩
    obtain ⟨xe, hxe⟩ : ∃ l, l = wsOf (runW m ps).x := ⟨_, rfl⟩
    rw [← hev] at hx lx hBO hBF
    rw [← hxe] at hBF hmbx
    have hRS2 : RS (w3.alloc (woO (.slice fa fn fc) (.slice ga gn gc) st)) (.slice ga gn gc) xe := by rw [hxe]; exact hRS
    have HX := Sb.hide hx
    have HBO := Sb.hide hBO
    have HBF := Sb.hide hBF
    have HRS := Sb.hide hRS2
    have HCP := Sb.hide hcaps
    have HMX := Sb.hide hmbx
    obtain ⟨ya, yc, hen, hyl, hrd⟩ := hx
    simp only [Value.slice.injEq] at hen
    obtain ⟨rfl, hen2, rfl⟩ := hen
    have HRD := Sb.hide hrd
    have z1 := (wo_cells HO4.out).1.2.1
    have hz4 := lt_of_block HO4.out
    have HB5 := Sb.hide (HB3.out.trans (HB4.out.mono HB3.out.size))
    have HM4 := Sb.hide ((HB4.out.block _ (lt_of_block HM3.out)).trans HM3.out)
    have hmk1 : ∀ w : World, (Instr.makeSlice 36 (.int .i64 (m.boxes.length : Int)) (.int .i64 (m.boxes.length : Int))).run Tryz.prog w = .ok (.slice (some ⟨w.heap.size, 0, none⟩) m.boxes.length m.boxes.length) (w.alloc (.cells (List.toArray (List.replicate m.boxes.length (.slice none 0 0))) 44)) := fun w => by
      have := run_makeSlice (P := Tryz.prog) w 36 44 i0 _ Tryz.underlying36 hi hz0 .i64 .i64 (m.boxes.length : Int) (m.boxes.length : Int) (by omega) (Int.le_refl _) (by rw [hz1]; simp; omega) (by rw [hz2]; omega) (by omega)
      rw [Int.toNat_natCast, hz1, Nat.mul_one] at this
      rw [this]
      have ec : madeCells (Value.slice none 0 0).cells m.boxes.length = List.toArray (List.replicate m.boxes.length (.slice none 0 0)) := Array.toList_inj.1 (by rw [show (Value.slice none 0 0).cells = #[Value.slice none 0 0] from rfl, toList_madeCells_one])
      rw [ec]
    have HN := Sb.hide hen2
    rw [← hen2] at lx
    obtain ⟨nb, hnbe⟩ : ∃ n, n = m.boxes.length := ⟨_, rfl⟩
    have HNB := Sb.hide hnbe
    obtain ⟨c10, c11⟩ := md_cells HM4.out
    rw [← hnbe] at hmk1 hnb c10
    obtain ⟨el, hel⟩ : ∃ l, l = evs.map (·.2) := ⟨_, rfl⟩
    have HEL := Sb.hide hel
    rw [← hnbe, ← hel] at HBO HBF
    have hlel : el.length = en := by rw [hel, hen2]; simp
    clear hW hWI hRS hRS2 hBO hBF hcaps hmbx hrd hev hxe h1 hv hen2 hnbe hel
    go_upto_region 7 with fail
    generalize w3.alloc (woO (.slice fa fn fc) (.slice ga gn gc) st) = W4 at *
    have hst0 := BbAt.first W4 nb
    rw [show List.toArray (List.replicate nb (Value.slice none 0 0)) = Array.replicate nb (Value.slice none 0 0) by simp] at hst0
    have HST := Sb.hide hst0
    clear hst0
    have Z1 := Sb.hide z1
    have C10 := Sb.hide c10
    have hmw := World.block_lt_of_cell? W4 _ c10
    clear z1
    go_wp2_with fail
    generalize W4.alloc (.cells (Array.replicate nb (.slice none 0 0)) 44) = W5 at *
    go_loopw [43] (fun v wr => ∃ k : Nat, v = .int .i64 k ∧ k ≤ en ∧ ∃ vs, BbAt W4 W4.heap.size (bfold (List.replicate nb []) (el.take k)) vs wr) (fun v _ => en - (intOf v).toNat)
    case atStart => exact ⟨0, rfl, Nat.zero_le _, _, HST.out⟩
    case round =>
      obtain ⟨k, rfl, hk, vs, hT⟩ := hrel
      have HT := Sb.hide hT
      clear hT HST c10 c11
      by_cases hlt : k < en
      · obtain ⟨p, hp⟩ : ∃ p, evs[k]? = some p := ⟨_, List.getElem?_eq_getElem (by rw [← HN.out]; exact hlt)⟩
        obtain ⟨b, off, rfl, x0, x1, x2, x3⟩ := HRD.out k p hp
        have hbl := World.block_lt_of_cell? W4 _ x0
        have kk := cell_eq (HT.out.below.block b hbl)
        have y0 := (kk (off + k * 4)).trans x0
        have y1 := (kk (off + k * 4 + 1)).trans x1
        have y2 := (kk (off + k * 4 + 2)).trans x2
        have y3 := (kk (off + k * 4 + 3)).trans x3
        have hpe : el[k]? = some p.2 := by rw [HEL.out, List.getElem?_map, hp]; rfl
        obtain ⟨hco, hst1⟩ := bok_at m HBO.out hpe
        obtain ⟨xs, hxs⟩ : ∃ l, l = bfold (List.replicate nb []) (el.take k) := ⟨_, rfl⟩
        rw [← hxs] at hco hst1 HT
        have hxl : xs.length = nb := by rw [hxs, bfold_len]; simp
        have HCO := Sb.hide hco
        have HS1 := Sb.hide hst1
        have hwz := HT.out.below.size
        have b0 : (0 : Int) ≤ (k : Int) := by omega
        have b1 : (k : Int) < (en : Int) := by omega
        have HB7 : Hid (Below wr.heap.size wr (wr.alloc (evO (p.1 : Int) p.2))) := (Below.refl _ wr).alloc (Nat.le_refl _) _
        have hbk : (wr.alloc (evO (p.1 : Int) p.2)).heap[wr.heap.size]? = some (evO (p.1 : Int) p.2) := heap_alloc_new wr _
        have HBK := Sb.hide hbk
        obtain ⟨r0, r1, r2, r3, _⟩ := ev_four hbk
        obtain ⟨kd, hkd⟩ : ∃ x, x = p.2.kind := ⟨_, rfl⟩
        clear hp x0 x1 x2 x3 kk hpe hco hst1 hxs hbk
        rw [← hkd] at r1
        go_upto_region 11 with fail
        generalize wr.alloc (evO (p.1 : Int) p.2) = W7 at *
        have HT7 := Sb.hide (HT.out.on HB7.out)
        have hz7 := lt_of_block HBK.out
        clear y0 y1 y2 y3
        by_cases k2 : kd = 2
        · obtain ⟨n, q, bx, hbox, hq, hbx, hcap⟩ := HCO.out.1 (by rw [← hkd]; exact k2)
          have hnl := (List.getElem?_eq_some_iff.1 hq).1
          rw [hxl] at hnl
          obtain ⟨v, hv, hQ⟩ := HT7.out.each n q hq
          obtain ⟨g1, _⟩ := HT7.out.cell hv
          rw [hbox] at r2
          have hc20 := HCP.out n bx hbx
          have hql : q.length ≤ 19 := by omega
          have HQ := Sb.hide hq
          have HVS := Sb.hide hv
          have HQW := Sb.hide hQ
          have f2 : (kd != 2) = false := by simpa using k2
          have f2' : (kd == 2) = true := by simpa using k2
          have n0 : ¬ (n : Int) < 0 := by omega
          have n0' : (0 : Int) ≤ (n : Int) := by omega
          have n1 : (n : Int) < (nb : Int) := by omega
          have n2 : ¬ (nb : Int) ≤ (n : Int) := by omega
          obtain ⟨evv, hevv⟩ : ∃ x, x = p.2.v := ⟨_, rfl⟩
          rw [← hevv] at r3
          have HRELX : Hid (bfold (List.replicate nb []) (el.take (k + 1)) = xs.set n (q ++ [evv])) := by
            unfold Hid
            rw [HS1.out]
            unfold bstep
            rw [if_pos (by rw [← hkd]; exact k2), hbox, Int.toNat_natCast, hq, hevv]
            rfl
          obtain ⟨va, vc, hvf⟩ := hQ.form
          subst hvf
          have HBX := Sb.hide hbx
          clear hq hv hQ k2 hkd hevv hbx
          go_upto_region 15 with fail
          refine wp_region_held_drew (S := fun w' => w'.cell? ⟨wr.heap.size, 2, none⟩ = some (.int .i64 (n : Int)) ∧ w'.cell? ⟨wr.heap.size, 3, none⟩ = some (.int .i64 evv)) (by kernel_rfl) ⟨r2, r3⟩ (fun hHeld => ?_)
          obtain ⟨V0, hV0⟩ : ∃ x, x = W7.drew := ⟨_, rfl⟩
          rw [← hV0] at hHeld ⊢
          have HB0' : Hid (Below W7.heap.size W7 V0) := by rw [hV0]; exact (Below.refl _ _).drew
          have HT0 := Sb.hide (HT7.out.on HB0'.out)
          have g0 := (HT0.out.cell HVS.out).1
          have HEB : Hid (V0.heap[wr.heap.size]? = some (evO (p.1 : Int) p.2)) := (HB0'.out.block _ hz7).trans HBK.out
          have HS7 : Hid (∀ V : World, V.heap[wr.heap.size]? = V0.heap[wr.heap.size]? → V.cell? ⟨wr.heap.size, 2, none⟩ = some (.int .i64 (n : Int)) ∧ V.cell? ⟨wr.heap.size, 3, none⟩ = some (.int .i64 evv)) := fun V hV => ⟨(cell_eq hV _).trans hHeld.1, (cell_eq hV _).trans hHeld.2⟩
          have hzV := lt_of_block HEB.out
          have hb1 : Below V0.heap.size V0 (V0.alloc (.cells #[.int .i64 evv] 2)) := (Below.refl _ _).alloc (Nat.le_refl _) _
          have HT1 := Sb.hide (HT0.out.on hb1)
          have g1' := (HT1.out.cell HVS.out).1
          have HE1 := Sb.hide (hb1.block _ hzV)
          have HNW := Sb.hide (news1 V0 (.int .i64 evv) 2)
          clear hV0 r0 r1 r2 r3 g1 hb1
          refine wpAnyH_take (i := 0) (oi := _) (v := ?_) rfl (by kernel_rfl) (by kernel_rfl) (by kernel_rfl) (fun _ _ _ h => h) (Or.inl ⟨by rfl, ?_⟩) (by assumption) ?_
          rotate_left
          · intro w hSw
            (try dsimp only at hSw)
            go_simp
            (try with_reducible rfl)
          (try go_frame)
          refine wpAnyH_take (i := 1) (oi := _) (v := ?_) rfl (by kernel_rfl) (by kernel_rfl) (by kernel_rfl) (fun _ _ _ h => h) (Or.inl ⟨by rfl, ?_⟩) (by assumption) ?_
          rotate_left
          · intro w hSw
            (try dsimp only at hSw)
            go_simp
            (try with_reducible rfl)
          (try go_frame)
          refine wpAnyH_take (i := 2) (oi := _) (v := ?_) rfl (by kernel_rfl) (by kernel_rfl) (by kernel_rfl) (fun _ _ _ h => h) (Or.inl ⟨by rfl, ?_⟩) (by assumption) ?_
          rotate_left
          · intro w hSw
            (try dsimp only at hSw)
            go_simp
            (try with_reducible rfl)
          (try go_frame)
          refine wpAnyH_take (i := 3) (oi := _) (v := ?_) rfl (by kernel_rfl) (by kernel_rfl) (by kernel_rfl) (fun _ _ _ h => h) (Or.inl ⟨by rfl, ?_⟩) (by assumption) ?_
          rotate_left
          · intro w hSw
            (try dsimp only at hSw)
            go_simp
            (try with_reducible rfl)
          (try go_frame)
          refine wpAnyH_take (i := 4) (oi := _) (v := ?_) rfl (by kernel_rfl) (by kernel_rfl) (by kernel_rfl) (fun _ _ _ h => h) (Or.inl ⟨by rfl, ?_⟩) (by assumption) ?_
          rotate_left
          · intro w hSw
            (try dsimp only at hSw)
            go_simp
            (try with_reducible rfl)
          (try go_frame)
          refine wpAnyH_take (i := 5) (oi := _) (v := ?_) rfl (by kernel_rfl) (by kernel_rfl) (by kernel_rfl) (fun _ _ _ h => h) (Or.inl ⟨by rfl, ?_⟩) (by assumption) ?_
          rotate_left
          · intro w hSw
            (try dsimp only at hSw)
            go_simp
            (try with_reducible rfl)
          (try go_frame)
          refine wpAnyH_take (i := 6) (oi := _) (v := ?_) rfl (by kernel_rfl) (by kernel_rfl) (by kernel_rfl) (fun _ _ _ h => h) (Or.inl ⟨by rfl, ?_⟩) (by assumption) ?_
          rotate_left
          · intro w hSw
            (try dsimp only at hSw)
            go_simp
            (try with_reducible rfl)
          (try go_frame)
          refine wpAnyH_take (i := 8) (oi := _) (v := ?_) rfl (by kernel_rfl) (by kernel_rfl) (by kernel_rfl) (fun _ _ _ h => h) (Or.inl ⟨by rfl, ?_⟩) (by assumption) ?_
          rotate_left
          · intro w hSw
            (try dsimp only at hSw)
            go_simp
            (try with_reducible rfl)
          (try go_frame)
          refine wpAnyH_take (i := 9) (oi := _) (v := ?_) rfl (by kernel_rfl) (by kernel_rfl) (by kernel_rfl) (fun _ _ _ h => h) (Or.inl ⟨by rfl, ?_⟩) (by assumption) ?_
          rotate_left
          · intro w hSw
            (try dsimp only at hSw)
            go_simp
            (try with_reducible rfl)
          (try go_frame)
          refine wpAnyH_ready (rs := [7, 10]) (by kernel_rfl) (by simp) ?_
          refine AllReadyH.cons (o := _) rfl (fun K hK => ?_) (AllReadyH.cons (o := _) rfl (fun K hK => ?_) AllReadyH.nil)
          focus
            go_simp
            refine hK.out _ _ hHeld (fun hHeld => ?_)
            clear hK K
            refine wpAnyH_ready (rs := [10]) (by kernel_rfl) (by simp) ?_
            refine AllReadyH.cons (o := _) rfl (fun K hK => ?_) AllReadyH.nil
            go_simp
            generalize V0.alloc (.cells #[.int .i64 evv] 2) = V1 at *
            refine hK.out _ _ (HS7.out _ HE1.out) (fun hHeld => ?_)
            clear hK K
          rotate_left 1
          focus
            go_simp
            generalize V0.alloc (.cells #[.int .i64 evv] 2) = V1 at *
            refine hK.out _ _ (HS7.out _ HE1.out) (fun hHeld => ?_)
            clear hK K
            refine wpAnyH_ready (rs := [7]) (by kernel_rfl) (by simp) ?_
            refine AllReadyH.cons (o := _) rfl (fun K hK => ?_) AllReadyH.nil
            go_simp
            refine hK.out _ _ hHeld (fun hHeld => ?_)
            clear hK K
          all_goals
            refine wpAnyH_ready (rs := [11]) (by kernel_rfl) (by simp) ?_
            refine AllReadyH.cons (o := _) rfl (fun K hK => ?_) AllReadyH.nil
            obtain ⟨v1, ev1, hQ1⟩ := HT1.out.each n q HQ.out
            rw [HVS.out] at ev1
            cases ev1
            refine step_append_qw rfl (.tmp 75) (.tmp 78) rfl W4.heap.size _ q evv rfl hQ1 ⟨V0.heap.size, 0, none⟩ rfl HNW.out (by omega) HT1.out.below.size ?_
            intro v' V2 hq2 hg2 hw2
            have hset := HT1.out.set (w3 := V2) HQ.out HVS.out hg2.size ⟨hg2.os, hg2.tape, hg2.output⟩ (fun b hb hn => hg2.block b hb (fun e => hn e.symm)) hq2 hw2
            have hEz : V1.heap[wr.heap.size]? = some (evO (p.1 : Int) p.2) := HE1.out.trans HEB.out
            have hE2 : V2.heap[wr.heap.size]? = V1.heap[wr.heap.size]? := hg2.block _ (lt_of_block hEz) (fun e => hQ1.ty hEz (by decide) e.symm)
            have hG2 : V2.heap[W4.heap.size]? = some (.cells (List.toArray vs) 44 (0, 0)) := (hg2.block _ (lt_of_block HT1.out.row) (fun e => hQ1.ty HT1.out.row (by decide) e.symm)).trans HT1.out.row
            have k0 : V2.cell? ⟨W4.heap.size, n, none⟩ = some (.slice va q.length vc) := by
              have := HVS.out
              simp [World.cell?, hG2, this]
            have k1 : V2.frozen? ⟨W4.heap.size, n, none⟩ = false := by simp [World.frozen?, hG2]
            have hneG : wr.heap.size ≠ W4.heap.size := by have := lt_of_block HT.out.row; omega
            obtain ⟨va', vc', rfl⟩ := hq2.form
            have hS3 := HS7.out (V2.setCell ⟨W4.heap.size, n, none⟩ (.slice va' (q ++ [evv]).length vc')) ((Below.heap_setCell _ ⟨W4.heap.size, n, none⟩ _ _ hneG).trans (hE2.trans HE1.out))
            have HSET := Sb.hide hset
            have HS3 := Sb.hide hS3
            simp only [List.length_append, List.length_cons, List.length_nil, Nat.zero_add] at HSET HS3
            refine hK.out _ _ (HS7.out V2 (hE2.trans HE1.out)) (fun hHeld => ?_)
            clear hK K hset hS3 hq2 hg2 hw2 hQ1
            refine wpAnyH_take (i := 12) (oi := _) (v := ?_) rfl (by kernel_rfl) (by kernel_rfl) (by kernel_rfl) (fun _ _ _ h => h) (Or.inl ⟨by rfl, ?_⟩) (by assumption) ?_
            rotate_left
            · intro w hSw
              (try dsimp only at hSw)
              go_simp
              (try with_reducible rfl)
            (try go_frame)
            refine wpAnyH_ready (rs := [13]) (by kernel_rfl) (by simp) ?_
            refine AllReadyH.cons (o := _) rfl (fun K hK => ?_) AllReadyH.nil
            go_simp
            refine hK.out _ _ HS3.out (fun hHeld => ?_)
            clear hK K
            refine wpAnyH_done (by kernel_rfl) ?_ _
            clear hHeld k0 k1
            generalize V2.setCell ⟨W4.heap.size, n, none⟩ (.slice va' (q.length + 1) vc') = V3 at *
            have hnv : n < vs.length := (List.getElem?_eq_some_iff.1 HVS.out).1
            have e0 := (HSET.out.cell (List.getElem?_set_self hnv)).1
            obtain ⟨e2, _⟩ := HS3.out
            obtain ⟨_, _, mb, mo, hab, hmb, _, k2⟩ := HMD.out.boxes n bx HBX.out
            subst hab
            have hmb4 : mb < W4.heap.size := by have := HB5.out.size; omega
            have e3 : V3.cell? ⟨mb, mo + n * 2 + 1, none⟩ = some (.int .i64 bx.cap) := (cell_eq (HSET.out.below.block mb hmb4) _).trans ((cell_eq (HB5.out.block mb hmb) _).trans k2)
            have e4 := (cell_eq (HSET.out.below.block _ hmw) 0).trans C10.out
            obtain ⟨cp, hcp⟩ : ∃ x, x = bx.cap := ⟨_, rfl⟩
            rw [← hcp] at e3 hcap
            have e5 : decide (cp < (q.length : Int) + 1) = false := by simp; omega
            have HREL : Hid (∀ d, ∃ vs', BbAt W4 W4.heap.size (bfold (List.replicate nb []) (el.take (k + 1))) vs' (V3.drewN d)) := fun d => ⟨_, by rw [HRELX.out]; exact HSET.out.on (w2 := V3.drewN d) ⟨rfl, rfl, rfl, Nat.le_refl _, fun _ _ => rfl⟩⟩
            clear k2 hcap hcp HS3 HSET HE1 HNW HS7 HT1 HT0 HEB HB0'
            go_wp2_with fail
            go_quiet (fail)
            go_wp2
            go_roundw
            case rel => exact ⟨k + 1, by go_num, by omega, HREL.out _⟩
            case measure => simp [intOf]; omega
        · by_cases k3 : kd = 3
          · obtain ⟨n, q, hbox, hq⟩ := HCO.out.2 (by rw [← hkd]; exact k3)
            have hnl := (List.getElem?_eq_some_iff.1 hq).1
            rw [hxl] at hnl
            obtain ⟨v, hv, hQ⟩ := HT7.out.each n _ hq
            obtain ⟨g, off3, cap3, rv', rfl, cx, hQ', hob, _, hsl1, hsl2⟩ := qw_tail hQ
            obtain ⟨va, vc, rfl⟩ := hQ'.form
            obtain ⟨g1, g2⟩ := HT7.out.cell hv
            rw [hbox] at r2
            obtain ⟨evv, hevv⟩ : ∃ x, x = p.2.v := ⟨_, rfl⟩
            have HRELX : Hid (bfold (List.replicate nb []) (el.take (k + 1)) = xs.set n q) := by
              unfold Hid
              rw [HS1.out]
              unfold bstep
              rw [if_neg (by rw [← hkd]; exact k2), if_pos (by rw [← hkd]; exact k3), hbox, Int.toNat_natCast, hq]
              rfl
            rw [← hevv] at r3 cx hq hQ
            have HQ := Sb.hide hq
            have HVS := Sb.hide hv
            have HQW := Sb.hide hQ
            have HQT := Sb.hide hQ'
            have HOB := Sb.hide hob
            have f2 : (kd != 2) = true := by simpa using k2
            have f3 : (kd != 3) = false := by simpa using k3
            have f2' : (kd == 2) = false := by simpa using k2
            have n0 : ¬ (n : Int) < 0 := by omega
            have n0' : (0 : Int) ≤ (n : Int) := by omega
            have n1 : (n : Int) < (nb : Int) := by omega
            have n2 : ¬ (nb : Int) ≤ (n : Int) := by omega
            have n3 : (((q.length : Int) + 1) == 0) = false := by simp; omega
            have n4 : (evv != evv) = false := by simp
            have n5 : (0 : Int) < (q.length : Int) + 1 := by omega
            clear hq hv hQ hQ' hob k2 k3 hkd hevv
            go_upto_region 18 with fail
            go_quiet (fail)
            go_upto_region 20 with fail
            obtain ⟨W8, hW8⟩ : ∃ x, x = W7.drewN nq := ⟨_, rfl⟩
            rw [← hW8]
            have HB8 : Hid (Below W7.heap.size W7 W8) := by rw [hW8]; exact ⟨rfl, rfl, rfl, Nat.le_refl _, fun _ _ => rfl⟩
            have s2 : W8.cell? ⟨wr.heap.size, 2, none⟩ = some (.int .i64 (n : Int)) := by rw [hW8]; exact r2
            clear hW8 r0 r1 r2 r3 g1 g2 cx
            refine wp_region_held_drew (S := fun w' => w'.cell? ⟨wr.heap.size, 2, none⟩ = some (.int .i64 (n : Int))) (by kernel_rfl) s2 (fun hHeld => ?_)
            obtain ⟨V0, hV0⟩ : ∃ x, x = W8.drew := ⟨_, rfl⟩
            rw [← hV0] at hHeld ⊢
            have HB0' : Hid (Below W7.heap.size W7 V0) := by rw [hV0]; exact HB8.out.drew
            have HT0 := Sb.hide (HT7.out.on HB0'.out)
            obtain ⟨g0, g0'⟩ := HT0.out.cell HVS.out
            have hneG : wr.heap.size ≠ W4.heap.size := by have := lt_of_block HT.out.row; omega
            have HQ0 : Hid (QW V0 W4.heap.size (.slice va q.length vc) q) := HQT.out.keep (fun k hk => HB0'.out.block k (HQT.out.lt k hk).2)
            have HSET := Sb.hide (HT0.out.set (w3 := V0) HQ.out HVS.out (Nat.le_refl _) ⟨rfl, rfl, rfl⟩ (fun _ _ _ => rfl) HQ0.out (fun k hk => .inl (by rw [HOB.out] at hk; exact hk)))
            have HS3 : Hid ((V0.setCell ⟨W4.heap.size, n, none⟩ (.slice va q.length vc)).cell? ⟨wr.heap.size, 2, none⟩ = some (.int .i64 (n : Int))) := (cell_eq (Below.heap_setCell _ ⟨W4.heap.size, n, none⟩ _ _ hneG) _).trans hHeld
            clear hV0 s2
            refine wpAnyH_take (i := 0) (oi := _) (v := ?_) rfl (by kernel_rfl) (by kernel_rfl) (by kernel_rfl) (fun _ _ _ h => h) (Or.inl ⟨by rfl, ?_⟩) (by assumption) ?_
            rotate_left
            · intro w hSw
              (try dsimp only at hSw)
              go_simp
              (try with_reducible rfl)
            (try go_frame)
            refine wpAnyH_take (i := 1) (oi := _) (v := ?_) rfl (by kernel_rfl) (by kernel_rfl) (by kernel_rfl) (fun _ _ _ h => h) (Or.inl ⟨by rfl, ?_⟩) (by assumption) ?_
            rotate_left
            · intro w hSw
              (try dsimp only at hSw)
              go_simp
              (try with_reducible rfl)
            (try go_frame)
            refine wpAnyH_take (i := 2) (oi := _) (v := ?_) rfl (by kernel_rfl) (by kernel_rfl) (by kernel_rfl) (fun _ _ _ h => h) (Or.inl ⟨by rfl, ?_⟩) (by assumption) ?_
            rotate_left
            · intro w hSw
              (try dsimp only at hSw)
              go_simp
              (try with_reducible rfl)
            (try go_frame)
            refine wpAnyH_take (i := 3) (oi := _) (v := ?_) rfl (by kernel_rfl) (by kernel_rfl) (by kernel_rfl) (fun _ _ _ h => h) (Or.inl ⟨by rfl, ?_⟩) (by assumption) ?_
            rotate_left
            · intro w hSw
              (try dsimp only at hSw)
              go_simp
              (try with_reducible rfl)
            (try go_frame)
            refine wpAnyH_take (i := 4) (oi := _) (v := ?_) rfl (by kernel_rfl) (by kernel_rfl) (by kernel_rfl) (fun _ _ _ h => h) (Or.inl ⟨by rfl, ?_⟩) (by assumption) ?_
            rotate_left
            · intro w hSw
              (try dsimp only at hSw)
              go_simp
              (try with_reducible rfl)
            (try go_frame)
            refine wpAnyH_take (i := 5) (oi := _) (v := ?_) rfl (by kernel_rfl) (by kernel_rfl) (by kernel_rfl) (fun _ _ _ h => h) (Or.inl ⟨by rfl, ?_⟩) (by assumption) ?_
            rotate_left
            · intro w hSw
              (try dsimp only at hSw)
              go_simp
              (try with_reducible rfl)
            (try go_frame)
            refine wpAnyH_take (i := 6) (oi := _) (v := ?_) rfl (by kernel_rfl) (by kernel_rfl) (by kernel_rfl) (fun _ _ _ h => h) (Or.inl ⟨by rfl, ?_⟩) (by assumption) ?_
            rotate_left
            · intro w hSw
              (try dsimp only at hSw)
              go_simp
              (try with_reducible rfl)
            (try go_frame)
            refine wpAnyH_ready (rs := [7]) (by kernel_rfl) (by simp) ?_
            refine AllReadyH.cons (o := _) rfl (fun K hK => ?_) AllReadyH.nil
            go_simp
            refine hK.out _ _ hHeld (fun hHeld => ?_)
            clear hK K
            refine wpAnyH_ready (rs := [8]) (by kernel_rfl) (by simp) ?_
            refine AllReadyH.cons (o := _) rfl (fun K hK => ?_) AllReadyH.nil
            go_simp
            refine hK.out _ _ hHeld (fun hHeld => ?_)
            clear hK K
            refine wpAnyH_take (i := 9) (oi := _) (v := ?_) rfl (by kernel_rfl) (by kernel_rfl) (by kernel_rfl) (fun _ _ _ h => h) (Or.inl ⟨by rfl, ?_⟩) (by assumption) ?_
            rotate_left
            · intro w hSw
              (try dsimp only at hSw)
              go_simp
              (try with_reducible rfl)
            (try go_frame)
            refine wpAnyH_ready (rs := [10]) (by kernel_rfl) (by simp) ?_
            refine AllReadyH.cons (o := _) rfl (fun K hK => ?_) AllReadyH.nil
            go_simp
            refine hK.out _ _ HS3.out (fun hHeld => ?_)
            clear hK K
            refine wpAnyH_done (by kernel_rfl) ?_ _
            go_wp2
            go_roundw
            case rel => exact ⟨k + 1, by go_num, by omega, _, by rw [HRELX.out]; exact HSET.out⟩
            case measure => simp [intOf]; omega
          · have f2 : (kd != 2) = true := by simpa using k2
            have f3 : (kd != 3) = true := by simpa using k3
            have HREL : Hid (BbAt W4 W4.heap.size (bfold (List.replicate nb []) (el.take (k + 1))) vs W7) := by
              unfold Hid
              rw [HS1.out]
              unfold bstep
              rw [if_neg (by rw [← hkd]; exact k2), if_neg (by rw [← hkd]; exact k3)]
              exact HT7.out
            clear k2 k3 hkd
            go_wp2
            go_roundw
            case rel => exact ⟨k + 1, by go_num, by omega, vs, HREL.out⟩
            case measure => simp [intOf]; omega
      · have ek : k = el.length := by omega
        have HF : Hid (BbAt W4 W4.heap.size xe vs wr) := by
          have := HT.out
          rw [ek, List.take_length, HBF.out] at this
          exact this
        have hxl : xe.length = nb := by rw [← HBF.out, bfold_len]; simp
        have hzw := World.block_lt_of_cell? W4 _ Z1.out
        have z1 : wr.cell? ⟨w3.heap.size, 1, none⟩ = some (.slice ga gn gc) := (cell_eq (HF.out.below.block _ hzw) _).trans Z1.out
        have n1 : ¬ (k : Int) < (en : Int) := by omega
        have HR1 := Sb.hide (HF.out.reads nb)
        rw [hxl] at HR1
        have HR2 := Sb.hide (HRS.out.below HF.out.below)
        have HLL : Hid (∀ l ∈ xe, l.length ≤ 9223372036854775806) := fun l hl => by have := HMX.out l hl; omega
        clear ek
        go_wp2_with fail
        refine (sameAll_any _ _ xe _ HR1 HR2 (by omega) HLL).mono ?_
        rintro e w9 ⟨rfl, hb9⟩
        have HB9 := Sb.hide ((HB5.out.trans (HF.out.below.mono HB5.out.size)).trans (hb9.mono (by have := HF.out.below.size; have := HB5.out.size; omega)))
        clear hb9
        go_wp2
        go_ret
        exact ⟨rfl, HB9.out⟩
  · have e1 : (E != 0) = true := by simpa using h1
    have e2 : (E == E) = true := by simp
    clear h1
    go_wp2
    go_ret
    exact ⟨rfl, HB3.out.alloc HB3.out.size _⟩
end Go.Proofs.YtomneemdbechgaaGreat.Vw

