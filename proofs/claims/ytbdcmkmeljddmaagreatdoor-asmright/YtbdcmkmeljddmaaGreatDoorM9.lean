/- The walk of reader.box. -/
import Derived.Test.YtbdcmkmeljddmaaGreatDoorM8
namespace Go.Proofs.YtbdcmkmeljddmaaGreatDoor.Aw
open Go.RowKit As

/-- Words that came in. -/
def StrsW (w : World) (ws : List By) (a : Option Addr) : Prop := ∀ (i : Nat) (x : By), ws[i]? = some x → ∃ b off, a = some ⟨b, off, none⟩ ∧ b < w.heap.size ∧ w.cell? ⟨b, off + i, none⟩ = some (sv x)
/-- What a line's reading answers. -/
def LineR (B R U J K : Nat) (w w' : World) (b : Bool) (r : Option Vf.Md) : Prop := Below B w w' ∧ b = r.isSome ∧ ∀ m', r = some m' → RD B R U J (K + 1) w' m'
def fld (ws : List By) (k i : Nat) : Int := if i < k then guess (ws.getD i []) else 0
theorem fld_same (ws : List By) {k i : Nat} (h : i ≠ k) : fld ws (k + 1) i = fld ws k i := by
  unfold fld
  by_cases h1 : i < k
  · rw [if_pos (by omega), if_pos h1]
  · rw [if_neg (by omega), if_neg h1]
theorem num_guess {x : By} {n : Int} (h : numOf x = some n) : n = guess x := by
  unfold numOf at h
  split at h
  · cases h; rfl
  · cases h
theorem fld_at {ws : List By} {k : Nat} {x : By} {n : Int} (hx : ws[k]? = some x) (hn : numOf x = some n) : fld ws (k + 1) k = n := by
  unfold fld
  rw [if_pos (by omega), List.getD_eq_getElem?_getD, hx, Option.getD_some, num_guess hn]
theorem nums_guess {ws : List By} {ns : List Int} (h : nums ws = some ns) : ns = ws.map guess := by
  obtain ⟨h1, _⟩ := nums_some h
  rw [← h1, List.map_map]
  conv => lhs; rw [← List.map_id ns]
  exact List.map_congr_left (fun n _ => (guess_dig n).symm)
theorem nums_i64 {ws : List By} {ns : List Int} (h : nums ws = some ns) : ∀ n ∈ ns, I64 n := fun n hn => by
  have := (nums_some h).2 n hn
  unfold i64 at this
  simp only [Bool.and_eq_true, decide_eq_true_eq] at this
  exact this
theorem blk1_cell {w : World} {N : Nat} {v : Value} {t : TypeId} (h : w.heap[N]? = some (.cells #[v] t (0, 0))) : w.cell? ⟨N, 0, none⟩ = some v := by simp [World.cell?, h]
theorem blk2_cells {w : World} {N : Nat} {a b : Value} {t : TypeId} (h : w.heap[N]? = some (.cells #[a, b] t (0, 0))) : w.cell? ⟨N, 0, none⟩ = some a ∧ w.cell? ⟨N, 1, none⟩ = some b ∧ w.frozen? ⟨N, 0, none⟩ = false ∧ w.frozen? ⟨N, 1, none⟩ = false := by simp [World.cell?, World.frozen?, h]
theorem set2_0 {w : World} {N : Nat} {a b : Value} {t : TypeId} (h : w.heap[N]? = some (.cells #[a, b] t (0, 0))) (v : Value) : (w.setCell ⟨N, 0, none⟩ v).heap[N]? = some (.cells #[v, b] t (0, 0)) := by
  simp only [World.setCell, Array.getElem?_modify, if_true, h, Option.map_some]
  rfl
theorem set2_1 {w : World} {N : Nat} {a b : Value} {t : TypeId} (h : w.heap[N]? = some (.cells #[a, b] t (0, 0))) (v : Value) : (w.setCell ⟨N, 1, none⟩ v).heap[N]? = some (.cells #[a, v] t (0, 0)) := by
  simp only [World.setCell, Array.getElem?_modify, if_true, h, Option.map_some]
  rfl

theorem enter_to (args : Array Value) (w : World) : Sem.run Tryz.prog (callFunc 80 args) w = .ok (.enter 80 args) w := by kernel_rfl
abbrev ptI (N o : Nat) : Value := .pointer (some ⟨N, o, none⟩)
abbrev toF (N : Nat) : Value := .func (.func 80) #[] #[ptI N 0]
/-- The places of a box's numbers. -/
structure BxI (B N : Nat) (w : World) (ws : List By) (k : Nat) (W : World) : Prop where
  le : k ≤ 2
  gv : GV B w
  hB : B ≤ N
  hN : N = w.heap.size
  below : Below N w W
  size : N + 4 ≤ W.heap.size
  box : W.heap[N]? = some (.cells #[.int .i64 (fld ws k 0), .int .i64 (fld ws k 1)] 67 (0, 0))
  p0 : W.heap[N + 1]? = some (.cells #[ptI N 0] 114 (0, 0))
  p1 : W.heap[N + 1 + 1]? = some (.cells #[ptI N 1] 114 (0, 0))
  pl : W.heap[N + 1 + 1 + 1]? = some (.cells #[toF (N + 1), toF (N + 1 + 1)] 112 (0, 0))
theorem BxI.gvW {B N k : Nat} {w W : World} {ws : List By} (h : BxI B N w ws k W) : GV B W ∧ B ≤ W.heap.size := ⟨h.gv.below h.below h.hB, by have := h.size; have := h.hB; omega⟩
theorem bx_places (B N : Nat) (w : World) (ws : List By) (aw : Option Addr) (hs : StrsW w ws aw) : Places B ws [(80, #[ptI (N + 1) 0]), (80, #[ptI (N + 1 + 1) 0])] aw (some ⟨N + 1 + 1 + 1, 0, none⟩) (BxI B N w ws) := by
  refine ⟨fun k W h => h.gvW, fun k W W' h hb => ?_, fun k W i x h hx => ?_, fun k W i F caps h hf => ?_, fun i F caps hf args W => ?_, fun k F caps x n W hf hx hn h => ?_⟩
  · have hz := h.size
    exact ⟨h.le, h.gv, h.hB, h.hN, h.below.trans (hb.mono (by omega)), Nat.le_trans hz hb.size, (hb.block _ (lt_of_block h.box)).trans h.box, (hb.block _ (lt_of_block h.p0)).trans h.p0, (hb.block _ (lt_of_block h.p1)).trans h.p1, (hb.block _ (lt_of_block h.pl)).trans h.pl⟩
  · obtain ⟨b, off, e, hb, hc⟩ := hs i x hx
    exact ⟨b, off, e, (h.below.cell (p := ⟨b, off + i, none⟩) (by show b < N; rw [h.hN]; exact hb)).trans hc⟩
  · obtain ⟨c0, c1, _, _⟩ := blk2_cells h.pl
    refine ⟨N + 1 + 1 + 1, 0, rfl, ?_⟩
    match i, hf with
    | 0, hf => simp at hf; obtain ⟨rfl, rfl⟩ := hf; exact c0
    | 1, hf => simp at hf; obtain ⟨rfl, rfl⟩ := hf; exact c1
  · have e : F = 80 := by
      match i, hf with
      | 0, hf => simp at hf; exact hf.1.symm
      | 1, hf => simp at hf; exact hf.1.symm
    subst e
    exact enter_to args W
  · obtain ⟨c0, c1, g0, g1⟩ := blk2_cells h.box
    match k, hf with
    | 0, hf =>
      simp at hf
      obtain ⟨rfl, rfl⟩ := hf
      refine (toInt1_any ⟨N, 0, none⟩ (N + 1) n _ W (blk1_cell h.p0) c0 g0).mono ?_
      rintro e W' ⟨rfl, rfl⟩
      refine ⟨rfl, by omega, h.gv, h.hB, h.hN, h.below.setCell (p := ⟨N, 0, none⟩) (Nat.le_refl _) _, by simpa [World.setCell] using h.size, ?_, (Below.heap_setCell _ _ _ _ (by show N + 1 ≠ N; omega)).trans h.p0, (Below.heap_setCell _ _ _ _ (by show N + 1 + 1 ≠ N; omega)).trans h.p1, (Below.heap_setCell _ _ _ _ (by show N + 1 + 1 + 1 ≠ N; omega)).trans h.pl⟩
      rw [fld_at hx hn, fld_same ws (by decide)]
      exact set2_0 h.box _
    | 1, hf =>
      simp at hf
      obtain ⟨rfl, rfl⟩ := hf
      refine (toInt1_any ⟨N, 1, none⟩ (N + 1 + 1) n _ W (blk1_cell h.p1) c1 g1).mono ?_
      rintro e W' ⟨rfl, rfl⟩
      refine ⟨rfl, by omega, h.gv, h.hB, h.hN, h.below.setCell (p := ⟨N, 1, none⟩) (Nat.le_refl _) _, by simpa [World.setCell] using h.size, ?_, (Below.heap_setCell _ _ _ _ (by show N + 1 ≠ N; omega)).trans h.p0, (Below.heap_setCell _ _ _ _ (by show N + 1 + 1 ≠ N; omega)).trans h.p1, (Below.heap_setCell _ _ _ _ (by show N + 1 + 1 + 1 ≠ N; omega)).trans h.pl⟩
      rw [fld_at hx hn, fld_same ws (by decide)]
      exact set2_1 h.box _

def boxR (m : Vf.Md) (ws : List By) : Option Vf.Md := match nums ws, m.units with
  | some [a, b], [] => some ⟨m.boxes ++ [⟨a, b⟩], []⟩
  | _, _ => none
theorem boxR_units {m : Vf.Md} {ws : List By} (h : m.units ≠ []) : boxR m ws = none := by
  unfold boxR
  split
  · rename_i h1; exact absurd h1 h
  · rfl
theorem boxR_no {m : Vf.Md} {ws : List By} (h : ws.length ≠ 2 ∨ nums ws = none) : boxR m ws = none := by
  unfold boxR
  split
  · rename_i a b h1 _
    exfalso
    rcases h with h | h
    · have := (nums_some h1).1
      rw [← this] at h
      exact h rfl
    · rw [h] at h1; cases h1
  · rfl

end Go.Proofs.YtbdcmkmeljddmaaGreatDoor.Aw

/- The walk of reader.box. -/
namespace Go.Proofs.YtbdcmkmeljddmaaGreatDoor.Aw
open Go.RowKit As

/-- An append to a row of one's own, as a step of a region that draws its order. -/
theorem step_append_own {P : Program} {ops : Array Oper} {o : Oper} {a : Act} {w : World} {K : Act → World → Prop} {Q : Exit → Act → World → Prop} {E : Prop} (hgd : o.guard = none) (s x : Operand) (t : TypeId)
    (ho : o.op = .call { callee := .builtin .append, args := #[s, x], argTypes := #[t, t] })
    (base : Nat) (e : TypeId) (i : TypeInfo) (z : Value) (size bytes : Nat) (ht : P.underlying t = some (.slice e)) (hi : P.info? e = some i) (hz : i.zero = some z)
    (hsize : i.size = size) (hby : i.bytes = bytes) (hzs : z.cells.size = size) (hsz : 0 < size)
    (v : Value) (n : Nat) (xs : List Value) (hs : a.eval s = v) (hown : w.ownsRow base e size v n xs)
    (ad : Addr) (m cap : Nat) (news : List Value) (hx : a.eval x = .slice (some ad) m cap) (hl : news.length = m * size) (hnews : ∀ j u, news[j]? = some u → w.cell? (ad.add j) = some u) (h1 : ∀ u ∈ news, u.oneCell' = true)
    (h63 : n + m ≤ maxLen) (hbytes : (n + m) * bytes ≤ 140737488355328) (hbase : base ≤ w.heap.size)
    (h : ∀ v' w', w'.ownsRow base e size v' (n + m) (xs ++ news) → w.grownBy w' v.ownBlock → K (a.put o.dst v') w') :
    if Region.wanted o (yielded ops a.tmps) = true then Oper.wp P o a w K Q else E := by
  have hw : Region.wanted o (yielded ops a.tmps) = true := by simp [Region.wanted, hgd]
  rw [if_pos hw]
  exact wp_append_own w s x t ho base e i z size bytes ht hi hz hsize hby hzs hsz v n xs hs hown ad m cap news hx hl hnews h1 h63 hbytes hbase (fun v' w' h2 h3 _ => h v' w' h2 h3)
theorem add_none (b off j : Nat) : (⟨b, off, none⟩ : Addr).add j = ⟨b, off + j, none⟩ := by unfold Addr.add; split <;> simp_all
theorem news_at (W : World) (cs : List Value) (t : TypeId) : ∀ j u', cs[j]? = some u' → (W.alloc (.cells cs.toArray t)).cell? ((⟨W.heap.size, 0, none⟩ : Addr).add j) = some u' := by
  intro j u' h
  have hn := heap_alloc_new W (.cells cs.toArray t)
  rw [add_none]
  unfold World.cell?
  rw [hn]
  simpa using h
theorem all_one {l : List Value} (h : l.all Value.oneCell' = true) : ∀ u ∈ l, u.oneCell' = true := fun u hu => List.all_eq_true.1 h u hu
theorem drew_alloc (W : World) (o : Obj) : Below W.heap.size W (W.drew.alloc o) := ((Below.refl _ _).drew).alloc (Nat.le_refl _) _

theorem four_new (w : World) (a b c d : Obj) : ((((w.alloc a).alloc b).alloc c).alloc d).heap.size = w.heap.size + 4 ∧ ((((w.alloc a).alloc b).alloc c).alloc d).heap[w.heap.size]? = some a ∧ ((((w.alloc a).alloc b).alloc c).alloc d).heap[w.heap.size + 1]? = some b ∧ ((((w.alloc a).alloc b).alloc c).alloc d).heap[w.heap.size + 1 + 1]? = some c ∧ ((((w.alloc a).alloc b).alloc c).alloc d).heap[w.heap.size + 1 + 1 + 1]? = some d := by
  have s1 : (w.alloc a).heap.size = w.heap.size + 1 := by simp
  have s2 : ((w.alloc a).alloc b).heap.size = w.heap.size + 1 + 1 := by simp
  have s3 : (((w.alloc a).alloc b).alloc c).heap.size = w.heap.size + 1 + 1 + 1 := by simp
  refine ⟨by simp, ?_, ?_, ?_, ?_⟩
  · rw [Below.heap_alloc _ _ _ (by omega), Below.heap_alloc _ _ _ (by omega), Below.heap_alloc _ _ _ (by omega)]
    exact heap_alloc_new w a
  · rw [Below.heap_alloc _ _ _ (by omega), Below.heap_alloc _ _ _ (by omega), ← s1]
    exact heap_alloc_new _ b
  · rw [Below.heap_alloc _ _ _ (by omega), ← s2]
    exact heap_alloc_new _ c
  · rw [← s3]
    exact heap_alloc_new _ d

set_option maxHeartbeats 2000000 in
set_option maxRecDepth 100000 in
theorem box_any (B R U J K : Nat) (hK : Hid (K ≤ 60000)) (ws : List By) (aw : Option Addr) (cw : Nat) (hw : Hid (∀ x ∈ ws, x.length ≤ 60000)) (w : World) (hg : Hid (GV B w)) (m : Vf.Md) (h : Hid (RD B R U J K w m)) (hs : Hid (StrsW w ws aw)) (r : Option Vf.Md) (hr : Hid (r = boxR m ws)) :
    Calls Tryz.prog 33 #[ptI R 0, .slice aw ws.length cw] w fun e w' => ∃ b, e = .returned (.bool b) ∧ LineR B R U J K w w' b r := by
  obtain ⟨i0, hi, hz0, hz1, hz2⟩ := info_parts infoBox
  obtain ⟨vb, vu, us, C, hx⟩ := h.out
  obtain ⟨ab, cb, rfl⟩ := own_form hx.boxes
  obtain ⟨au, cu, rfl⟩ := own_form hx.units
  have HFW : Hid (m.boxes.length + 1 ≤ 60001) := by unfold Hid; have := hx.few.1; have := hK.out; omega
  have hRl := hx.lt.2
  have HX0 := hide hx
  obtain ⟨c0, c1, _⟩ := rd_cells hx.blk
  clear hx
  obtain ⟨N, hN⟩ : ∃ N, N = w.heap.size := ⟨_, rfl⟩
  have HN := hide hN
  by_cases hu : 0 < us.length
  · have hr0 : r = none := by
      rw [hr.out]
      refine boxR_units (fun e => ?_)
      have := HX0.out.same
      rw [e] at this
      simp at this
      subst this
      simp at hu
    obtain ⟨n, hn⟩ : ∃ n, us.length = n + 1 := ⟨us.length - 1, by omega⟩
    have k1 : (w.alloc (.cells #[.int .i64 0, .int .i64 0] 67)).cell? ⟨R, 1, none⟩ = some (.slice au us.length cu) := (((Below.refl w.heap.size w).alloc (Nat.le_refl _) _).cell (p := ⟨R, 1, none⟩) hRl).trans c1
    have HR : Hid (LineR B R U J K w (w.alloc (.cells #[.int .i64 0, .int .i64 0] 67)) false r) := by
      rw [hr0]
      exact ⟨((Below.refl B w).alloc HX0.out.lt.1 _), rfl, fun m' h => by cases h⟩
    rw [hn] at k1
    clear hu hr0 c0 c1 hn HX0
    go_enter Tryz.func33, Tryz.ntmps33
    go_wp2
    go_ret
    exact ⟨false, rfl, HR.out⟩
  · have hu0 : us.length = 0 := by omega
    have hmu : m.units = [] := by
      have := HX0.out.same
      rw [List.length_eq_zero_iff.1 hu0] at this
      exact this.symm
    have HMU := hide hmu
    clear hmu
    obtain ⟨W, hW⟩ : ∃ W, W = (((w.alloc (.cells #[.int .i64 0, .int .i64 0] 67)).alloc (.cells #[ptI w.heap.size 0] 114)).alloc (.cells #[ptI w.heap.size 1] 114)) := ⟨_, rfl⟩
    have k1 : (w.alloc (.cells #[.int .i64 0, .int .i64 0] 67)).cell? ⟨R, 1, none⟩ = some (.slice au us.length cu) := (((Below.refl w.heap.size w).alloc (Nat.le_refl _) _).cell (p := ⟨R, 1, none⟩) hRl).trans c1
    rw [hu0] at k1
    clear hu c0 c1
    go_enter Tryz.func33, Tryz.ntmps33
    go_wp2_with fail
    refine (toInt_any ⟨w.heap.size, 0, none⟩ _).mono ?_
    rintro e w1 ⟨rfl, rfl⟩
    go_wp2_with fail
    refine (toInt_any ⟨w.heap.size, 1, none⟩ _).mono ?_
    rintro e w2 ⟨rfl, rfl⟩
    clear k1
    go_wp2_with fail
    have HI0 : Hid (BxI B w.heap.size w ws 0 ((((w.alloc (.cells #[.int .i64 0, .int .i64 0] 67)).alloc (.cells #[ptI w.heap.size 0] 114)).alloc (.cells #[ptI w.heap.size 1] 114)).alloc (.cells #[toF (w.heap.size + 1), toF (w.heap.size + 1 + 1)] 112))) := by
      obtain ⟨z0, z1, z2, z3, z4⟩ := four_new w (.cells #[.int .i64 0, .int .i64 0] 67) (.cells #[ptI w.heap.size 0] 114) (.cells #[ptI w.heap.size 1] 114) (.cells #[toF (w.heap.size + 1), toF (w.heap.size + 1 + 1)] 112)
      exact ⟨by omega, hg.out, HX0.out.lt.1, rfl, ((((Below.refl w.heap.size w).alloc (by simp) _).alloc (by simp) _).alloc (by simp; omega) _).alloc (by simp; omega) _, Nat.le_of_eq z0.symm, z1, z2, z3, z4⟩
    have hcall := fill_any B ws [(80, #[ptI (w.heap.size + 1) 0]), (80, #[ptI (w.heap.size + 1 + 1) 0])] aw (some ⟨w.heap.size + 1 + 1 + 1, 0, none⟩) cw 2 (BxI B w.heap.size w ws) hw.out (by simp) (hide (bx_places B w.heap.size w ws aw hs.out)) _ HI0
    refine hcall.mono ?_
    clear hcall HI0 hW
    rintro e W1 ⟨b, rfl, hF⟩
    cases b with
    | false =>
      obtain ⟨h1, k, hI⟩ := hF.2 rfl
      have HR : Hid (LineR B R U J K w W1 false r) := by
        have e1 : r = none := by rw [hr.out]; exact boxR_no h1
        rw [e1]
        exact ⟨hI.below.mono HX0.out.lt.1, rfl, fun m' h => by cases h⟩
      clear hF h1 hI
      go_wp2
      go_ret
      exact ⟨false, rfl, HR.out⟩
    | true =>
      obtain ⟨h1, ⟨ns, hns⟩, hI⟩ := hF.1 rfl
      have hg2 := nums_guess hns
      obtain ⟨x0, x1, rfl⟩ : ∃ x0 x1, ws = [x0, x1] := by
        match ws, h1 with
        | [x0, x1], _ => exact ⟨x0, x1, rfl⟩
      obtain ⟨bb, hbb⟩ : ∃ bb : Vf.Bx, bb = ⟨guess x0, guess x1⟩ := ⟨_, rfl⟩
      have hbx : W1.heap[w.heap.size]? = some (.cells #[.int .i64 bb.ty, .int .i64 bb.cap] 67 (0, 0)) := by rw [hbb]; exact hI.box
      have HRR : Hid (r = some ⟨m.boxes ++ [bb], m.units⟩) := by
        unfold Hid
        rw [hr.out, hbb]
        unfold boxR
        rw [hns, hg2, HMU.out]
        rfl
      have H64 : Hid (I64 bb.ty ∧ I64 bb.cap) := by
        have := nums_i64 hns
        rw [hg2] at this
        rw [hbb]
        exact ⟨this _ (by simp), this _ (by simp)⟩
      have HB1 : Hid (Below B w W1) := hI.below.mono HX0.out.lt.1
      have HX := hide (HX0.out.new hI.below)
      obtain ⟨c0, c1, _, _, _, _, f0, _⟩ := rd_cells HX.out.blk
      obtain ⟨d0, d1, _, _⟩ := blk2_cells hbx
      have hRl1 := HX.out.lt.2
      clear hF hI hbx hns hg2 h1 hbb HX0
      generalize w.heap.size = N0 at *
      go_wp2
      refine wp_region_any (by kernel_rfl) ?_
      change wpAny _ _ _ _ _ _ _ (World.drew _)
      refine wpAny_take (i := 0) (v := ptI R 0) rfl (by kernel_rfl) (by kernel_rfl) (by kernel_rfl) (fun _ _ _ h => h) (Or.inl ⟨by rfl, ?_⟩) ?_
      · intro w; go_simp
      simp only [Act.put]
      refine wpAny_take (i := 1) (v := ptI R 0) rfl (by kernel_rfl) (by kernel_rfl) (by kernel_rfl) (fun _ _ _ h => h) (Or.inl ⟨by rfl, ?_⟩) ?_
      · intro w; go_simp
      simp only [Act.put]
      refine wpAny_take (i := 2) (v := ptI R 0) rfl (by kernel_rfl) (by kernel_rfl) (by kernel_rfl) (fun _ _ _ h => h) (Or.inl ⟨by rfl, ?_⟩) ?_
      · intro w; go_simp
      simp only [Act.put]
      refine wpAny_take (i := 3) (v := ptI R 0) rfl (by kernel_rfl) (by kernel_rfl) (by kernel_rfl) (fun _ _ _ h => h) (Or.inl ⟨by rfl, ?_⟩) ?_
      · intro w; go_simp
      simp only [Act.put]
      refine wpAny_take (i := 4) (v := ptI R 0) rfl (by kernel_rfl) (by kernel_rfl) (by kernel_rfl) (fun _ _ _ h => h) (Or.inl ⟨by rfl, ?_⟩) ?_
      · intro w; go_simp
      simp only [Act.put]
      refine wpAny_ready (rs := [5, 6]) (by kernel_rfl) (by simp) ?_
      refine AllReady.cons rfl (fun K hK => ?_) ?_
      · go_simp
        refine hK _ _ ?_
        clear hK K
        refine wpAny_ready (rs := [6]) (by kernel_rfl) (by simp) ?_
        refine AllReady.cons rfl (fun K hK => ?_) ?_
        · go_simp
          refine hK _ _ ?_
          clear hK K
          refine wpAny_ready (rs := [7]) (by kernel_rfl) (by simp) ?_
          refine AllReady.cons rfl (fun K hK => ?_) ?_
          · go_simp
            refine hK _ _ ?_
            clear hK K
            refine wpAny_ready (rs := [8]) (by kernel_rfl) (by simp) ?_
            refine AllReady.cons rfl (fun K hK => ?_) ?_
            · refine step_append_own rfl (.tmp 28) (.tmp 30) 22 rfl B 67 i0 (.agg #[.int .i64 0, .int .i64 0]) 2 16 Tryz.underlying22 hi hz0 hz1 hz2 rfl (by decide) _ m.boxes.length (bxs m.boxes) rfl (own_new HX.out.boxes (drew_alloc W1 _)) ⟨W1.heap.size, 0, none⟩ 1 1 (bxC bb) rfl rfl (news_at W1.drew (bxC bb) _) (all_one rfl) (by have := HFW.out; unfold maxLen; omega) (by have := HFW.out; omega) (by have := HX.out.lt.1; simp; omega) ?_
              intro vb' w4 hown4 hg4
              obtain ⟨hRD, hBl, cR, gR⟩ := HX.out.box H64.out (drew_alloc W1 _) hg4 hown4
              obtain ⟨a', c', hv'⟩ := own_form hown4
              subst hv'
              have HRD := hide hRD
              have HBl := hide hBl
              clear hown4 hg4 hRD hBl
              refine hK _ _ ?_
              clear hK K
              simp only [Act.put]
              refine wpAny_take (i := 9) (v := ptI R 0) rfl (by kernel_rfl) (by kernel_rfl) (by kernel_rfl) (fun _ _ _ h => h) (Or.inl ⟨by rfl, ?_⟩) ?_
              · intro w; go_simp
              simp only [Act.put]
              refine wpAny_take (i := 10) (v := ptI R 0) rfl (by kernel_rfl) (by kernel_rfl) (by kernel_rfl) (fun _ _ _ h => h) (Or.inl ⟨by rfl, ?_⟩) ?_
              · intro w; go_simp
              simp only [Act.put]
              refine wpAny_take (i := 11) (v := ptI R 0) rfl (by kernel_rfl) (by kernel_rfl) (by kernel_rfl) (fun _ _ _ h => h) (Or.inl ⟨by rfl, ?_⟩) ?_
              · intro w; go_simp
              simp only [Act.put]
              refine wpAny_ready (rs := [12]) (by kernel_rfl) (by simp) ?_
              refine AllReady.cons rfl (fun K hK => ?_) ?_
              · go_simp
                refine hK _ _ ?_
                clear hK K
                refine wpAny_done (by kernel_rfl) ?_ _
                go_wp2
                go_ret
                exact ⟨true, rfl, HB1.out.trans HBl.out, by rw [HRR.out]; rfl, fun m' hm' => by rw [HRR.out] at hm'; cases hm'; exact ⟨_, _, _, _, HRD.out⟩⟩
              exact AllReady.nil
            exact AllReady.nil
          exact AllReady.nil
        exact AllReady.nil
      refine AllReady.cons rfl (fun K hK => ?_) ?_
      · go_simp
        refine hK _ _ ?_
        clear hK K
        refine wpAny_ready (rs := [5, 7]) (by kernel_rfl) (by simp) ?_
        refine AllReady.cons rfl (fun K hK => ?_) ?_
        · go_simp
          refine hK _ _ ?_
          clear hK K
          refine wpAny_ready (rs := [7]) (by kernel_rfl) (by simp) ?_
          refine AllReady.cons rfl (fun K hK => ?_) ?_
          · go_simp
            refine hK _ _ ?_
            clear hK K
            refine wpAny_ready (rs := [8]) (by kernel_rfl) (by simp) ?_
            refine AllReady.cons rfl (fun K hK => ?_) ?_
            · refine step_append_own rfl (.tmp 28) (.tmp 30) 22 rfl B 67 i0 (.agg #[.int .i64 0, .int .i64 0]) 2 16 Tryz.underlying22 hi hz0 hz1 hz2 rfl (by decide) _ m.boxes.length (bxs m.boxes) rfl (own_new HX.out.boxes (drew_alloc W1 _)) ⟨W1.heap.size, 0, none⟩ 1 1 (bxC bb) rfl rfl (news_at W1.drew (bxC bb) _) (all_one rfl) (by have := HFW.out; unfold maxLen; omega) (by have := HFW.out; omega) (by have := HX.out.lt.1; simp; omega) ?_
              intro vb' w4 hown4 hg4
              obtain ⟨hRD, hBl, cR, gR⟩ := HX.out.box H64.out (drew_alloc W1 _) hg4 hown4
              obtain ⟨a', c', hv'⟩ := own_form hown4
              subst hv'
              have HRD := hide hRD
              have HBl := hide hBl
              clear hown4 hg4 hRD hBl
              refine hK _ _ ?_
              clear hK K
              simp only [Act.put]
              refine wpAny_take (i := 9) (v := ptI R 0) rfl (by kernel_rfl) (by kernel_rfl) (by kernel_rfl) (fun _ _ _ h => h) (Or.inl ⟨by rfl, ?_⟩) ?_
              · intro w; go_simp
              simp only [Act.put]
              refine wpAny_take (i := 10) (v := ptI R 0) rfl (by kernel_rfl) (by kernel_rfl) (by kernel_rfl) (fun _ _ _ h => h) (Or.inl ⟨by rfl, ?_⟩) ?_
              · intro w; go_simp
              simp only [Act.put]
              refine wpAny_take (i := 11) (v := ptI R 0) rfl (by kernel_rfl) (by kernel_rfl) (by kernel_rfl) (fun _ _ _ h => h) (Or.inl ⟨by rfl, ?_⟩) ?_
              · intro w; go_simp
              simp only [Act.put]
              refine wpAny_ready (rs := [12]) (by kernel_rfl) (by simp) ?_
              refine AllReady.cons rfl (fun K hK => ?_) ?_
              · go_simp
                refine hK _ _ ?_
                clear hK K
                refine wpAny_done (by kernel_rfl) ?_ _
                go_wp2
                go_ret
                exact ⟨true, rfl, HB1.out.trans HBl.out, by rw [HRR.out]; rfl, fun m' hm' => by rw [HRR.out] at hm'; cases hm'; exact ⟨_, _, _, _, HRD.out⟩⟩
              exact AllReady.nil
            exact AllReady.nil
          exact AllReady.nil
        refine AllReady.cons rfl (fun K hK => ?_) ?_
        · go_simp
          refine hK _ _ ?_
          clear hK K
          refine wpAny_ready (rs := [5]) (by kernel_rfl) (by simp) ?_
          refine AllReady.cons rfl (fun K hK => ?_) ?_
          · go_simp
            refine hK _ _ ?_
            clear hK K
            refine wpAny_ready (rs := [8]) (by kernel_rfl) (by simp) ?_
            refine AllReady.cons rfl (fun K hK => ?_) ?_
            · refine step_append_own rfl (.tmp 28) (.tmp 30) 22 rfl B 67 i0 (.agg #[.int .i64 0, .int .i64 0]) 2 16 Tryz.underlying22 hi hz0 hz1 hz2 rfl (by decide) _ m.boxes.length (bxs m.boxes) rfl (own_new HX.out.boxes (drew_alloc W1 _)) ⟨W1.heap.size, 0, none⟩ 1 1 (bxC bb) rfl rfl (news_at W1.drew (bxC bb) _) (all_one rfl) (by have := HFW.out; unfold maxLen; omega) (by have := HFW.out; omega) (by have := HX.out.lt.1; simp; omega) ?_
              intro vb' w4 hown4 hg4
              obtain ⟨hRD, hBl, cR, gR⟩ := HX.out.box H64.out (drew_alloc W1 _) hg4 hown4
              obtain ⟨a', c', hv'⟩ := own_form hown4
              subst hv'
              have HRD := hide hRD
              have HBl := hide hBl
              clear hown4 hg4 hRD hBl
              refine hK _ _ ?_
              clear hK K
              simp only [Act.put]
              refine wpAny_take (i := 9) (v := ptI R 0) rfl (by kernel_rfl) (by kernel_rfl) (by kernel_rfl) (fun _ _ _ h => h) (Or.inl ⟨by rfl, ?_⟩) ?_
              · intro w; go_simp
              simp only [Act.put]
              refine wpAny_take (i := 10) (v := ptI R 0) rfl (by kernel_rfl) (by kernel_rfl) (by kernel_rfl) (fun _ _ _ h => h) (Or.inl ⟨by rfl, ?_⟩) ?_
              · intro w; go_simp
              simp only [Act.put]
              refine wpAny_take (i := 11) (v := ptI R 0) rfl (by kernel_rfl) (by kernel_rfl) (by kernel_rfl) (fun _ _ _ h => h) (Or.inl ⟨by rfl, ?_⟩) ?_
              · intro w; go_simp
              simp only [Act.put]
              refine wpAny_ready (rs := [12]) (by kernel_rfl) (by simp) ?_
              refine AllReady.cons rfl (fun K hK => ?_) ?_
              · go_simp
                refine hK _ _ ?_
                clear hK K
                refine wpAny_done (by kernel_rfl) ?_ _
                go_wp2
                go_ret
                exact ⟨true, rfl, HB1.out.trans HBl.out, by rw [HRR.out]; rfl, fun m' hm' => by rw [HRR.out] at hm'; cases hm'; exact ⟨_, _, _, _, HRD.out⟩⟩
              exact AllReady.nil
            exact AllReady.nil
          exact AllReady.nil
        exact AllReady.nil
      exact AllReady.nil

end Go.Proofs.YtbdcmkmeljddmaaGreatDoor.Aw

