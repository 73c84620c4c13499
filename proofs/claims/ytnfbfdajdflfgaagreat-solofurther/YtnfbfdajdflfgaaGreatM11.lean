/- Units come to work and go: what that leaves in memory; the append laws. -/
import Derived.Test.YtnfbfdajdflfgaaGreatM10
import Derived.OwnWalk
namespace Go.Proofs.YtnfbfdajdflfgaaGreat.Vw
open Go.RowKit Vf Vm

theorem run_append_where {P : Program} (w : World) (base : Nat) (t ty e : TypeId) (i : TypeInfo) (z : Value) (size bytes : Nat) (ht : P.underlying t = some (.slice e)) (hi : P.info? e = some i) (hz : i.zero = some z)
    (hsize : i.size = size) (hby : i.bytes = bytes) (hzs : z.cells.size = size) (hsz : 0 < size)
    (v : Value) (n : Nat) (xs : List Value) (hown : w.ownsRow base e size v n xs)
    (a : Addr) (m c : Nat) (news : List Value) (hl : news.length = m * size) (hnews : ∀ j u, news[j]? = some u → w.cell? (a.add j) = some u) (h1 : ∀ u ∈ news, u.oneCell' = true)
    (h0 : 0 < m) (h63 : n + m ≤ maxLen) (hbytes : (n + m) * bytes ≤ 140737488355328) (hbase : base ≤ w.heap.size) :
    ∃ v' w', (Builtin.append_ #[t, t] ty #[v, .slice (some a) m c]).run P w = .ok v' w' ∧ w'.ownsRow base e size v' (n + m) (xs ++ news) ∧ w.grownBy w' v.ownBlock ∧
      ∃ g cap, v' = .slice (some ⟨g, 0, none⟩) (n + m) cap ∧ (v.ownBlock = some g ∨ g = w.heap.size) := by
  obtain ⟨v', w', hr, h2, h3, _⟩ := run_append_own (P := P) w base t ty e i z size bytes ht hi hz hsize hby hzs hsz v n xs hown a m c news hl hnews h1 h63 hbytes hbase
  refine ⟨v', w', hr, h2, h3, ?_⟩
  have hsmall : n + m ≤ 9223372036854775807 := by simp only [maxLen] at h63; omega
  subst hsize
  subst hby
  rcases hown.2 with ⟨rfl, rfl⟩ | ⟨g, cap, cur, rfl, hbg, hg, hnc, hcm, hcs, htake⟩
  · have hq := run_append_nil (P := P) w t ty e i z ht hi hz a m c news hl hnews h0 (by omega) (by have hb := hbytes; simp only [Nat.zero_add] at hb; omega)
    rw [hr] at hq
    injection hq with e1 e2
    exact ⟨w.heap.size, _, by rw [e1, Nat.zero_add], .inr rfl⟩
  · by_cases hroom : n + m ≤ cap
    · have hfit : n * i.size + news.length ≤ cur.size := by rw [hl, hcs, ← Nat.add_mul]; exact Nat.mul_le_mul_right _ hroom
      have hq := run_append_room (P := P) w t ty e i ht hi g n cap cur hg a m c news hl hnews h1 hroom hfit
      rw [hr] at hq
      injection hq with e1 e2
      exact ⟨g, cap, e1, .inl rfl⟩
    · have hq := run_append_grow (P := P) w t ty e i z ht hi hz ⟨g, 0, none⟩ n cap xs hown.1 (hown.cells (g := g) rfl) a m c news hl hnews (by omega) (by omega) (growslice_fits (by omega) hbytes)
      rw [hr] at hq
      injection hq with e1 e2
      exact ⟨w.heap.size, _, e1, .inr rfl⟩
theorem wpList_append_where {P : Program} {w : World} {ops : Array Oper} {rest : List Oper} {o : Oper} {a : Act} {Q : Exit → Act → World → Prop} (hgd : o.guard = none) (s x : Operand) (t : TypeId)
    (ho : o.op = .call { callee := .builtin .append, args := #[s, x], argTypes := #[t, t] })
    (base : Nat) (e : TypeId) (i : TypeInfo) (z : Value) (size bytes : Nat) (ht : P.underlying t = some (.slice e)) (hi : P.info? e = some i) (hz : i.zero = some z)
    (hsize : i.size = size) (hby : i.bytes = bytes) (hzs : z.cells.size = size) (hsz : 0 < size)
    (v : Value) (n : Nat) (xs : List Value) (hs : a.eval s = v) (hown : w.ownsRow base e size v n xs)
    (ad : Addr) (m c : Nat) (news : List Value) (hx : a.eval x = .slice (some ad) m c) (hl : news.length = m * size) (hnews : ∀ j u, news[j]? = some u → w.cell? (ad.add j) = some u) (h1 : ∀ u ∈ news, u.oneCell' = true)
    (h0 : 0 < m) (h63 : n + m ≤ maxLen) (hbytes : (n + m) * bytes ≤ 140737488355328) (hbase : base ≤ w.heap.size)
    (h : ∀ g cap w', w'.ownsRow base e size (.slice (some ⟨g, 0, none⟩) (n + m) cap) (n + m) (xs ++ news) → w.grownBy w' v.ownBlock → (v.ownBlock = some g ∨ g = w.heap.size) → wpList P ops Q rest (a.put o.dst (.slice (some ⟨g, 0, none⟩) (n + m) cap)) w') : wpList P ops Q (o :: rest) a w := by
  refine wpList_plain hgd fun K hK => ?_
  obtain ⟨v', w', hr, h2, h3, g, cap, rfl, h4⟩ := run_append_where (P := P) w base t o.type e i z size bytes ht hi hz hsize hby hzs hsz v n xs hown ad m c news hl hnews h1 h0 h63 hbytes hbase
  unfold Oper.wp
  simp [execOp, ho, resolve, invoke, builtin, hs, hx, hr, Result.andThen]
  exact hK _ _ (h g cap w' h2 h3 h4)
theorem step_append_where {P : Program} {ops : Array Oper} {o : Oper} {a : Act} {w : World} {K : Act → World → Prop} {Q : Exit → Act → World → Prop} {F : Prop} (hgd : o.guard = none) (s x : Operand) (t : TypeId)
    (ho : o.op = .call { callee := .builtin .append, args := #[s, x], argTypes := #[t, t] })
    (base : Nat) (e : TypeId) (i : TypeInfo) (z : Value) (size bytes : Nat) (ht : P.underlying t = some (.slice e)) (hi : P.info? e = some i) (hz : i.zero = some z)
    (hsize : i.size = size) (hby : i.bytes = bytes) (hzs : z.cells.size = size) (hsz : 0 < size)
    (v : Value) (n : Nat) (xs : List Value) (hs : a.eval s = v) (hown : w.ownsRow base e size v n xs)
    (ad : Addr) (m c : Nat) (news : List Value) (hx : a.eval x = .slice (some ad) m c) (hl : news.length = m * size) (hnews : ∀ j u, news[j]? = some u → w.cell? (ad.add j) = some u) (h1 : ∀ u ∈ news, u.oneCell' = true)
    (h0 : 0 < m) (h63 : n + m ≤ maxLen) (hbytes : (n + m) * bytes ≤ 140737488355328) (hbase : base ≤ w.heap.size)
    (h : ∀ g cap w', w'.ownsRow base e size (.slice (some ⟨g, 0, none⟩) (n + m) cap) (n + m) (xs ++ news) → w.grownBy w' v.ownBlock → (v.ownBlock = some g ∨ g = w.heap.size) → K (a.put o.dst (.slice (some ⟨g, 0, none⟩) (n + m) cap)) w') :
    if Region.wanted o (yielded ops a.tmps) = true then Oper.wp P o a w K Q else F := by
  have hw : Region.wanted o (yielded ops a.tmps) = true := by simp [Region.wanted, hgd]
  rw [if_pos hw]
  obtain ⟨v', w', hr, h2, h3, g, cap, rfl, h4⟩ := run_append_where (P := P) w base t o.type e i z size bytes ht hi hz hsize hby hzs hsz v n xs hown ad m c news hl hnews h1 h0 h63 hbytes hbase
  unfold Oper.wp
  simp [execOp, ho, resolve, invoke, builtin, hs, hx, hr, Result.andThen]
  exact h g cap w' h2 h3 h4

theorem TPost.trans {c : Cx} {L L1 : Lab} {o i : Nat} {P : Nat → Nat} {w w1 w2 : World} {h : Th} (hE : Ex o i L L1 w) (hC : Chg (ThB L o i) w w1) (H : TPost c L1 o i P w1 w2 h) : TPost c L o i P w w2 h := by
  obtain ⟨L2, S, g, r, vU, h1, h2, h3, h4⟩ := H
  refine ⟨L2, S, g, r, vU, h1, hE.trans h2 hC.size, h3, hC.size |> fun hz => ⟨h4.os.trans hC.os, h4.tape.trans hC.tape, h4.output.trans hC.output, Nat.le_trans hz h4.size, fun b hb hn => (h4.block b (by omega) (fun hx => hn ?_)).trans (hC.block b hb hn)⟩⟩
  unfold ThB at hx ⊢
  rw [hE.1 b hb] at hx
  exact hx
theorem TPost.alloc {c : Cx} {L : Lab} {o i : Nat} {P : Nat → Nat} {w w' : World} {h : Th} {ob : Obj} (H : TPost c L o i P (w.alloc ob) w' h) : TPost c L o i P w w' h := by
  obtain ⟨L2, S, g, r, vU, h1, h2, h3, h4⟩ := H
  have hz := h4.size
  simp at hz
  exact ⟨L2, S, g, r, vU, h1, ⟨fun b hb => h2.1 b (by simp; omega), h2.2⟩, h3, h4.os, h4.tape, h4.output, by omega, fun b hb hn => (h4.block b (by simp; omega) hn).trans (Below.heap_alloc _ _ _ hb)⟩

theorem th_set1 {w : World} {H S : Nat} {vU v' : Value} {stands : Nat} {up : Value} (h : w.heap[H]? = some (thO S vU stands up)) : (w.setCell ⟨H, 1, none⟩ v').heap[H]? = some (thO S v' stands up) := by
  simp only [World.setCell, Array.getElem?_modify, if_true, h, Option.map_some]
  rfl
theorem th_set2 {w : World} {H S : Nat} {vU : Value} {stands st' : Nat} {up : Value} (h : w.heap[H]? = some (thO S vU stands up)) : (w.setCell ⟨H, 2, none⟩ (.int .i64 st')).heap[H]? = some (thO S vU st' up) := by
  simp only [World.setCell, Array.getElem?_modify, if_true, h, Option.map_some]
  rfl
theorem th_set3 {w : World} {H S : Nat} {vU : Value} {stands : Nat} {up up' : Value} (h : w.heap[H]? = some (thO S vU stands up)) : (w.setCell ⟨H, 3, none⟩ up').heap[H]? = some (thO S vU stands up') := by
  simp only [World.setCell, Array.getElem?_modify, if_true, h, Option.map_some]
  rfl
theorem SK.far {w w' : World} {S g r mn most : Nat} {ws : List Int} (h : Sb.SK w S g ws r mn most) (h1 : w'.heap[S]? = w.heap[S]?) (h2 : w'.heap[g]? = w.heap[g]?) : Sb.SK w' S g ws r mn most := by
  obtain ⟨cs, hc, hr⟩ := h.2.1
  exact ⟨h1.trans h.1, ⟨cs, h2.trans hc, hr⟩, h.2.2⟩

section
variable {c : Cx} {L : Lab} {o i : Nat} {P : Nat → Nat} {w : World} {h : Th} {S g r : Nat} {vU : Value}
theorem ThIn.ne01 (H : ThIn c L o i P w h S g r vU) : S ≠ P i := fun e => by have a := H.l0; have b := H.l1; rw [e, a] at b; cases b
theorem ThIn.ne02 (H : ThIn c L o i P w h S g r vU) : g ≠ P i := fun e => by have a := H.l0; have b := H.l2; rw [e, a] at b; cases b
theorem ThIn.ne03 (H : ThIn c L o i P w h S g r vU) {U : Nat} (hU : vU.ownBlock = some U) : U ≠ P i := fun e => by have a := H.l0; have b := H.l3 U hU; rw [e, a] at b; cases b
theorem ThIn.ne13 (H : ThIn c L o i P w h S g r vU) {U : Nat} (hU : vU.ownBlock = some U) : S ≠ U := fun e => by have a := H.l1; have b := H.l3 U hU; rw [e, b] at a; cases a
theorem ThIn.ne23 (H : ThIn c L o i P w h S g r vU) {U : Nat} (hU : vU.ownBlock = some U) : g ≠ U := fun e => by have a := H.l2; have b := H.l3 U hU; rw [e, b] at a; cases a

/-- The innermost unit's next instruction is another one. -/
theorem ThIn.goto (H : ThIn c L o i P w h S g r vU) {f : Wk} {rs : List Wk} (hf : h.fs = f :: rs) {U cap : Nat} (hU : vU = .slice (some ⟨U, 0, none⟩) (rs.length + 1) cap) (n : Nat) : ThIn c L o i P (w.setCell ⟨U, rs.length * 3 + 1, none⟩ (.int .i64 n)) { h with fs := { f with pc := n } :: rs } S g r vU := by
  have hb : vU.ownBlock = some U := by rw [hU]; rfl
  have far : ∀ k, k ≠ U → (w.setCell ⟨U, rs.length * 3 + 1, none⟩ (.int .i64 n)).heap[k]? = w.heap[k]? := fun k hk => Below.heap_setCell _ _ _ _ hk
  have hlen : h.fs.length = rs.length + 1 := by rw [hf]; rfl
  refine ⟨(far _ (fun e => H.ne03 hb e.symm)).trans H.blk, SK.far H.stack (far _ (H.ne13 hb)) (far _ (H.ne23 hb)), ?_, by have := H.few; simp; omega, H.l0, H.l1, H.l2, H.l3⟩
  obtain ⟨U', cap', cur, hv, hh, h1, h2, h3, h4, _⟩ := H.work hf
  rw [hU] at hv
  simp at hv
  obtain ⟨rfl, rfl⟩ := hv
  have hmod : (w.setCell ⟨U, rs.length * 3 + 1, none⟩ (.int .i64 n)).heap[U]? = some (.cells (cur.setIfInBounds (rs.length * 3 + 1) (.int .i64 n)) 114 (0, 0)) := by
    simp only [World.setCell, Array.getElem?_modify, if_true, hh, Option.map_some]
    rfl
  refine ⟨by rw [wk_len]; simp, .inr ⟨U, cap, _, hU, Nat.zero_le _, hmod, h1, h2, by simpa using h3, ?_⟩⟩
  rw [List.reverse_cons, wk_app] at h4
  rw [Array.toList_setIfInBounds, List.take_set, List.length_cons, h4, List.reverse_cons, wk_app, List.set_append_right _ _ (by rw [wk_len]; simp), wk_len]
  simp [wkCells, wkc]

/-- The innermost unit is gone. -/
theorem ThIn.left (H : ThIn c L o i P w h S g r vU) {f : Wk} {rs : List Wk} (hf : h.fs = f :: rs) {U cap : Nat} (hU : vU = .slice (some ⟨U, 0, none⟩) (rs.length + 1) cap) : ThIn c L o i P (w.setCell ⟨P i, 1, none⟩ (.slice (some ⟨U, 0, none⟩) rs.length cap)) { h with fs := rs } S g r (.slice (some ⟨U, 0, none⟩) rs.length cap) := by
  have hb : vU.ownBlock = some U := by rw [hU]; rfl
  have far : ∀ k, k ≠ P i → (w.setCell ⟨P i, 1, none⟩ (.slice (some ⟨U, 0, none⟩) rs.length cap)).heap[k]? = w.heap[k]? := fun k hk => Below.heap_setCell _ _ _ _ hk
  have hlen : h.fs.length = rs.length + 1 := by rw [hf]; rfl
  refine ⟨th_set1 H.blk, SK.far H.stack (far _ H.ne01) (far _ H.ne02), ?_, by have := H.few; simp; omega, H.l0, H.l1, H.l2, fun U' hU' => H.l3 U' (by rw [hb]; exact hU')⟩
  obtain ⟨U', cap', cur, hv, hh, h1, h2, h3, h4, _⟩ := H.work hf
  rw [hU] at hv
  simp at hv
  obtain ⟨rfl, rfl⟩ := hv
  refine ⟨by rw [wk_len]; simp, .inr ⟨U, cap, cur, rfl, Nat.zero_le _, (far _ (H.ne03 hb)).trans hh, by show rs.length ≤ cap; omega, h2, h3, ?_⟩⟩
  rw [List.reverse_cons, wk_app] at h4
  have e : cur.toList.take (rs.length * 3) = (cur.toList.take ((rs.length + 1) * 3)).take (rs.length * 3) := by rw [List.take_take, Nat.min_eq_left (by omega)]
  rw [e, h4, List.take_left' (by rw [wk_len]; simp)]

/-- A unit has come to work. -/
theorem ThIn.entered (H : ThIn c L o i P w h S g r vU) (hL : LOk c.B L w) (f : Wk) {w2 : World} {ob : Obj} {U cap : Nat} (hfew : h.fs.length < 40) (hown : w2.ownsRow 0 114 3 (.slice (some ⟨U, 0, none⟩) (h.fs.length + 1) cap) (h.fs.length + 1) (wkCells c h.fs.reverse ++ wkc c f)) (hg : (w.alloc ob).grownBy w2 vU.ownBlock) (hU : vU.ownBlock = some U ∨ U = (w.alloc ob).heap.size) :
    TPost c L o i P w (w2.setCell ⟨P i, 1, none⟩ (.slice (some ⟨U, 0, none⟩) (h.fs.length + 1) cap)) { h with fs := f :: h.fs } := by
  obtain ⟨cs, hc, _⟩ := H.stack.2.1
  have z0 := lt_of_block H.blk
  have z1 := lt_of_block H.stack.1
  have z2 := lt_of_block hc
  have hz := hg.size
  simp at hz
  have hUz : w.heap.size ≤ U ∨ vU.ownBlock = some U := by
    rcases hU with hU | hU
    · exact .inr hU
    · left; simp at hU; omega
  have old : ∀ b, b < w.heap.size → vU.ownBlock ≠ some b → w2.heap[b]? = w.heap[b]? := fun b hb hn => (hg.block b (by simp; omega) (fun e => hn e.symm)).trans (Below.heap_alloc _ _ _ hb)
  have far : ∀ k, k ≠ P i → (w2.setCell ⟨P i, 1, none⟩ (.slice (some ⟨U, 0, none⟩) (h.fs.length + 1) cap)).heap[k]? = w2.heap[k]? := fun k hk => Below.heap_setCell _ _ _ _ hk
  have ext : Ext L (fun b => if b = U then ⟨1, o, i + 1, 3⟩ else L b) w := fun b hb => by
    by_cases e : b = U
    · rcases hUz with hx | hx
      · omega
      · simp only [e, if_true]; rw [H.l3 U hx]
    · simp only [e, if_false]
  have hUP : U ≠ P i := by
    rcases hUz with hx | hx
    · omega
    · exact H.ne03 hx
  have hU2 : U < w2.heap.size := (hown.lt U rfl).2
  refine ⟨_, S, g, r, .slice (some ⟨U, 0, none⟩) (h.fs.length + 1) cap, ⟨th_set1 ((old _ z0 (fun e => H.ne03 e rfl)).trans H.blk), SK.far H.stack ((far _ H.ne01).trans (old _ z1 (fun e => H.ne13 e rfl))) ((far _ H.ne02).trans (old _ z2 (fun e => H.ne23 e rfl))), ?_, by simp; omega, (ext _ z0).trans H.l0, (ext _ z1).trans H.l1, (ext _ z2).trans H.l2, fun U' hU' => ?_⟩, ex_if _ _ ext, ⟨fun b hb => ?_, fun b hb => ?_, by have := hL.size; simp [World.setCell]; omega⟩, ?_⟩
  · have e : wkCells c (f :: h.fs).reverse = wkCells c h.fs.reverse ++ wkc c f := by rw [List.reverse_cons, wk_app]; simp [wkCells]
    show World.ownsRow _ _ _ _ _ (h.fs.length + 1) (wkCells c (f :: h.fs).reverse)
    rw [e]
    exact own_keep hown (fun k hk => by cases hk; exact far _ hUP)
  · cases hU'; simp
  · have hb2 := hL.low b hb
    have e : b ≠ U := fun e => by
      rcases hUz with hx | hx
      · have := hL.size; omega
      · have := H.l3 U hx; rw [← e] at this; rw [this] at hb2; cases hb2
    simp only [e, if_false]; exact hb2
  · have hb' : w2.heap.size ≤ b := by simpa [World.setCell] using hb
    have e : b ≠ U := by omega
    simp only [e, if_false]; exact hL.new b (by omega)
  · refine ⟨hg.os, hg.tape, hg.output, by simp [World.setCell]; omega, fun b hb hn => ?_⟩
    have e1 : b ≠ P i := fun e => hn (by unfold ThB; rw [e, H.l0]; exact ⟨rfl, rfl, rfl⟩)
    exact (far _ e1).trans (old b hb (fun e => hn (by unfold ThB; rw [H.l3 b e]; exact ⟨rfl, rfl, rfl⟩)))
end

end Go.Proofs.YtnfbfdajdflfgaaGreat.Vw

/- The walk of leave. -/
namespace Go.Proofs.YtnfbfdajdflfgaaGreat.Vw
open Go.RowKit Vf Vm


theorem left_end {c : Cx} {L : Lab} {o i : Nat} {P : Nat → Nat} {w w1 : World} {h h2 : Th} {S : Nat} {vU : Value} {U cap d : Nat} {f : Wk} {rs : List Wk} (hp : SPost c L o i P w w1 { h with ws := h.ws.take f.base } S vU) (hf : h.fs = f :: rs) (hU : vU = .slice (some ⟨U, 0, none⟩) (rs.length + 1) cap) (hh2 : h2 = { h with ws := h.ws.take f.base, fs := rs }) :
    TPost c L o i P w ((w1.drewN d).setCell ⟨P i, 1, none⟩ (.slice (some ⟨U, 0, none⟩) rs.length cap)) h2 := by
  obtain ⟨L1, g1, r1, hp1, e1, e2, e3⟩ := hp
  subst hh2
  have hl := (hp1.drewN d).left (f := f) (rs := rs) hf hU
  have hz := e3.size
  refine ⟨L1, S, g1, r1, _, hl, e1, e2.on (by simp [World.setCell]), (e3.drewN d).set ?_ _⟩
  by_cases hx : P i < w.heap.size
  · left
    have := hp1.l0
    rw [e1.1 _ hx] at this
    unfold ThB
    rw [this]
    exact ⟨rfl, rfl, rfl⟩
  · right; show w.heap.size ≤ P i; omega

set_option maxHeartbeats 2000000 in
theorem leave_th (c : Cx) (L : Lab) (o i : Nat) (P : Nat → Nat) (w : World) (h : Th) (S g r : Nat) (vU : Value) (H : Hid (ThIn c L o i P w h S g r vU)) (hL : Hid (LOk c.B L w)) (f : Wk) (rs : List Wk) (hf : Hid (h.fs = f :: rs)) (hb : f.base ≤ h.ws.length) (h2 : Th) (hh2 : Hid (h2 = { h with ws := h.ws.take f.base, fs := rs })) :
    Calls Tryz.prog 89 #[.pointer (some ⟨P i, 0, none⟩)] w fun e w' => e = .returned (.tuple #[]) ∧ TPost c L o i P w w' h2 := by
  obtain ⟨U, cap, cur, hU, hh, _⟩ := H.out.work hf.out
  obtain ⟨k0, k1, k2, k3⟩ := H.out.inner hf.out hU
  obtain ⟨c0, c1, c2, c3⟩ := H.out.cells
  have HU := Sb.hide hU
  have hfit := H.out.stack.2.2
  unfold Sk.Fits at hfit
  have hfew : h.ws.length ≤ 400 := by omega
  obtain ⟨n, hn⟩ : ∃ n, n = h.ws.length := ⟨_, rfl⟩
  have HN : Hid (n = h.ws.length) := hn
  have hn4 : n ≤ 400 := by omega
  have hbn : f.base ≤ n := by omega
  have HWR : Hid (IntKind.i64.wrap ((n : Int) - (f.base : Int)) = (n : Int) - (f.base : Int)) := IntWalk.i64_in _ ⟨by omega, by omega⟩
  have HWS : Hid (h.ws.take f.base = if (n : Int) - (f.base : Int) < 0 ∨ (h.ws.length : Int) < (n : Int) - (f.base : Int) then h.ws else h.ws.take (h.ws.length - ((n : Int) - (f.base : Int)).toNat)) := by
    unfold Hid
    rw [if_neg (by omega)]
    congr 1
    omega
  clear hfit hn hfew hU hh hb
  go_enter Tryz.func89, Tryz.ntmps89
  go_wp2
  go_region_held3 (fun w' => w'.cell? ⟨P i, 0, none⟩ = some (.pointer (some ⟨S, 0, none⟩)) ∧ w'.cell? ⟨U, rs.length * 3 + 2, none⟩ = some (.int .i64 f.base)) (go_keep) (first | (go_at_call 69; rw [HWR.out]; refine (pop_th c L o i P _ h S g r vU (Sb.hide (H.out.drewN _)) (Sb.hide (hL.out.on (Nat.le_refl _))) _ _ HWS).mono ?_; rintro e w1 ⟨⟨x, rfl⟩, hp⟩; have HP := Sb.hide hp.drewN; obtain ⟨L1, g1, r1, hp1, _⟩ := hp; obtain ⟨c0, c1, c2, c3⟩ := hp1.cells; obtain ⟨k0, k1, k2, k3⟩ := hp1.inner hf.out HU.out; clear hp1) | (go_at_call 67; refine (len_any S g h.ws r 8 400 _ (by exact H.out.stack)).mono ?_; rintro e w' ⟨rfl, rfl⟩; rw [← HN.out]) | (go_at_call 44; refine (inner_any c L o i P _ h S g r vU (Sb.hide (H.out.drewN _)) f rs hf U cap HU).mono ?_; rintro e w' ⟨rfl, d, rfl⟩))
  have hPs : P i < w1.heap.size := by
    have := HP.out
    obtain ⟨L1, g1, r1, hp1, _⟩ := this
    exact lt_of_block hp1.blk
  rw [HU.out] at c1
  have n0 : (0 : Int) ≤ (rs.length : Int) := by omega
  have n1 : rs.length + 1 ≤ 40 := by have := H.out.few; rw [hf.out] at this; simpa using this
  have n2 : rs.length + 1 ≤ cap := by obtain ⟨U', cap', cur', e1, _, e2, _⟩ := H.out.work hf.out; rw [HU.out] at e1; simp at e1; omega
  have fr : w1.frozen? ⟨P i, 1, none⟩ = false := by
    have := HP.out
    obtain ⟨L1, g1, r1, hp1, _⟩ := this
    exact hp1.free 1
  have hw1 : IntKind.i64.wrap (rs.length : Int) = (rs.length : Int) := IntWalk.i64_in _ ⟨by omega, by omega⟩
  have n3 : (rs.length : Int) ≤ (cap : Int) := by omega
  clear k0 k1 k2 k3 c0 c2 c3
  go_upto_region 1 with fail
  refine wp_region_held_drew (S := fun _ => True) (by kernel_rfl) trivial (fun hHeld => ?_)
  refine wpAnyH_take (i := 0) (oi := _) (v := ?_) rfl (by kernel_rfl) (by kernel_rfl) (by kernel_rfl) (fun _ _ _ h => h) (Or.inl ⟨by rfl, ?_⟩) (by assumption) ?_
  rotate_left
  · intro w hSw
    (try dsimp only at hSw)
    go_simp
    (try with_reducible rfl)
  refine wpAnyH_take (i := 1) (oi := _) (v := ?_) rfl (by kernel_rfl) (by kernel_rfl) (by kernel_rfl) (fun _ _ _ h => h) (Or.inl ⟨by rfl, ?_⟩) (by assumption) ?_
  rotate_left
  · intro w hSw
    (try dsimp only at hSw)
    go_simp
    (try with_reducible rfl)
  refine wpAnyH_take (i := 2) (oi := _) (v := ?_) rfl (by kernel_rfl) (by kernel_rfl) (by kernel_rfl) (fun _ _ _ h => h) (Or.inl ⟨by rfl, ?_⟩) (by assumption) ?_
  rotate_left
  · intro w hSw
    (try dsimp only at hSw)
    go_simp
    (try with_reducible rfl)
  refine wpAnyH_take (i := 3) (oi := _) (v := ?_) rfl (by kernel_rfl) (by kernel_rfl) (by kernel_rfl) (fun _ _ _ h => h) (Or.inl ⟨by rfl, ?_⟩) (by assumption) ?_
  rotate_left
  · intro w hSw
    (try dsimp only at hSw)
    go_simp
    (try with_reducible rfl)
  refine wpAnyH_take (i := 5) (oi := _) (v := ?_) rfl (by kernel_rfl) (by kernel_rfl) (by kernel_rfl) (fun _ _ _ h => h) (Or.inl ⟨by rfl, ?_⟩) (by assumption) ?_
  rotate_left
  · intro w hSw
    (try dsimp only at hSw)
    go_simp
    (try with_reducible rfl)
  refine wpAnyH_take (i := 6) (oi := _) (v := ?_) rfl (by kernel_rfl) (by kernel_rfl) (by kernel_rfl) (fun _ _ _ h => h) (Or.inl ⟨by rfl, ?_⟩) (by assumption) ?_
  rotate_left
  · intro w hSw
    (try dsimp only at hSw)
    go_simp
    (try with_reducible rfl)
  refine wpAnyH_take (i := 7) (oi := _) (v := ?_) rfl (by kernel_rfl) (by kernel_rfl) (by kernel_rfl) (fun _ _ _ h => h) (Or.inl ⟨by rfl, ?_⟩) (by assumption) ?_
  rotate_left
  · intro w hSw
    (try dsimp only at hSw)
    go_simp
    (try with_reducible rfl)
  refine wpAnyH_ready (rs := [4, 8]) (by kernel_rfl) (by simp) ?_
  refine AllReadyH.cons (o := _) rfl (fun K hK => ?_) ?_
  · go_simp
    refine hK.out _ _ trivial (fun hHeld => ?_)
    clear hK K
    refine wpAnyH_ready (rs := [8]) (by kernel_rfl) (by simp) ?_
    refine AllReadyH.cons (o := _) rfl (fun K hK => ?_) AllReadyH.nil
    go_simp
    refine hK.out _ _ trivial (fun hHeld => ?_)
    clear hK K
    refine wpAnyH_take (i := 9) (oi := _) (v := ?_) rfl (by kernel_rfl) (by kernel_rfl) (by kernel_rfl) (fun _ _ _ h => h) (Or.inl ⟨by rfl, ?_⟩) (by assumption) ?_
    rotate_left
    · intro w hSw
      (try dsimp only at hSw)
      go_simp
      (try with_reducible rfl)
    refine wpAnyH_take (i := 10) (oi := _) (v := ?_) rfl (by kernel_rfl) (by kernel_rfl) (by kernel_rfl) (fun _ _ _ h => h) (Or.inl ⟨by rfl, ?_⟩) (by assumption) ?_
    rotate_left
    · intro w hSw
      (try dsimp only at hSw)
      go_simp
      (try with_reducible rfl)
    refine wpAnyH_take (i := 11) (oi := _) (v := .slice (some ⟨U, 0, none⟩) rs.length cap) rfl (by kernel_rfl) (by kernel_rfl) (by kernel_rfl) (fun _ _ _ h => h) (Or.inl ⟨by rfl, ?_⟩) (by assumption) ?_
    · intro w hSw
      go_simp
    refine wpAnyH_take (i := 12) (oi := _) (v := ?_) rfl (by kernel_rfl) (by kernel_rfl) (by kernel_rfl) (fun _ _ _ h => h) (Or.inl ⟨by rfl, ?_⟩) (by assumption) ?_
    rotate_left
    · intro w hSw
      (try dsimp only at hSw)
      go_simp
      (try with_reducible rfl)
    refine wpAnyH_take (i := 13) (oi := _) (v := ?_) rfl (by kernel_rfl) (by kernel_rfl) (by kernel_rfl) (fun _ _ _ h => h) (Or.inl ⟨by rfl, ?_⟩) (by assumption) ?_
    rotate_left
    · intro w hSw
      (try dsimp only at hSw)
      go_simp
      (try with_reducible rfl)
    refine wpAnyH_ready (rs := [14]) (by kernel_rfl) (by simp) ?_
    refine AllReadyH.cons (o := _) rfl (fun K hK => ?_) AllReadyH.nil
    go_simp
    refine hK.out _ _ trivial (fun hHeld => ?_)
    clear hK K
    refine wpAnyH_done (by kernel_rfl) ?_ _
    go_wp2
    go_end0
    refine ⟨rfl, ?_⟩
    exact left_end HP.out hf.out HU.out hh2.out
  refine AllReadyH.cons (o := _) rfl (fun K hK => ?_) AllReadyH.nil
  go_simp
  refine hK.out _ _ trivial (fun hHeld => ?_)
  clear hK K
  refine wpAnyH_take (i := 9) (oi := _) (v := ?_) rfl (by kernel_rfl) (by kernel_rfl) (by kernel_rfl) (fun _ _ _ h => h) (Or.inl ⟨by rfl, ?_⟩) (by assumption) ?_
  rotate_left
  · intro w hSw
    (try dsimp only at hSw)
    go_simp
    (try with_reducible rfl)
  refine wpAnyH_take (i := 10) (oi := _) (v := ?_) rfl (by kernel_rfl) (by kernel_rfl) (by kernel_rfl) (fun _ _ _ h => h) (Or.inl ⟨by rfl, ?_⟩) (by assumption) ?_
  rotate_left
  · intro w hSw
    (try dsimp only at hSw)
    go_simp
    (try with_reducible rfl)
  refine wpAnyH_ready (rs := [4]) (by kernel_rfl) (by simp) ?_
  refine AllReadyH.cons (o := _) rfl (fun K hK => ?_) AllReadyH.nil
  go_simp
  refine hK.out _ _ trivial (fun hHeld => ?_)
  clear hK K
  refine wpAnyH_take (i := 11) (oi := _) (v := .slice (some ⟨U, 0, none⟩) rs.length cap) rfl (by kernel_rfl) (by kernel_rfl) (by kernel_rfl) (fun _ _ _ h => h) (Or.inl ⟨by rfl, ?_⟩) (by assumption) ?_
  · intro w hSw
    go_simp
  refine wpAnyH_take (i := 12) (oi := _) (v := ?_) rfl (by kernel_rfl) (by kernel_rfl) (by kernel_rfl) (fun _ _ _ h => h) (Or.inl ⟨by rfl, ?_⟩) (by assumption) ?_
  rotate_left
  · intro w hSw
    (try dsimp only at hSw)
    go_simp
    (try with_reducible rfl)
  refine wpAnyH_take (i := 13) (oi := _) (v := ?_) rfl (by kernel_rfl) (by kernel_rfl) (by kernel_rfl) (fun _ _ _ h => h) (Or.inl ⟨by rfl, ?_⟩) (by assumption) ?_
  rotate_left
  · intro w hSw
    (try dsimp only at hSw)
    go_simp
    (try with_reducible rfl)
  refine wpAnyH_ready (rs := [14]) (by kernel_rfl) (by simp) ?_
  refine AllReadyH.cons (o := _) rfl (fun K hK => ?_) AllReadyH.nil
  go_simp
  refine hK.out _ _ trivial (fun hHeld => ?_)
  clear hK K
  refine wpAnyH_done (by kernel_rfl) ?_ _
  go_wp2
  go_end0
  refine ⟨rfl, ?_⟩
  exact left_end HP.out hf.out HU.out hh2.out
end Go.Proofs.YtnfbfdajdflfgaaGreat.Vw

