/- The walk of SchedQuantum: LONG TURNS ARE SHORT ONES. -/
import Derived.Test.YtekjhefmhhcboaaGreatM39
import Derived.Deep.RegionHeld3
import Derived.Maps.RangeWalk
import Derived.Test.YtekjhefmhhcboaaGreatM1
import Derived.ChangeArms
import Derived.DataReads
import Derived.Test.YtekjhefmhhcboaaGreatM34
namespace Go.Proofs.YtekjhefmhhcboaaGreat.Vw
open Go.RowKit Vf Vm

theorem SameW.refl (a : Wd) : SameW a a := ⟨rfl, rfl, rfl⟩
/-- Two picks in a row, and one for both. -/
theorem quantum_runs (m : Md) (ps : List Pk) (task a b : Int) (ha : 1 ≤ a ∧ a ≤ 1000) (hb : 1 ≤ b ∧ b ≤ 1000) : SameW (runW m (ps ++ [⟨task, a⟩, ⟨task, b⟩])) (runW m (ps ++ [⟨task, a + b⟩])) := by
  unfold runW
  rw [followW_app, followW_app]
  exact quantum m _ task a b ha hb
/-- An append inside a drawing region, of what may be nothing. -/
theorem step_append_src {P : Program} {ops : Array Oper} {o : Oper} {a : Act} {w : World} {K : Act → World → Prop} {Q : Exit → Act → World → Prop} {F : Prop} (hgd : o.guard = none) (s x : Operand) (t : TypeId)
    (ho : o.op = .call { callee := .builtin .append, args := #[s, x], argTypes := #[t, t] })
    (base : Nat) (e : TypeId) (i : TypeInfo) (z : Value) (size bytes : Nat) (ht : P.underlying t = some (.slice e)) (hi : P.info? e = some i) (hz : i.zero = some z)
    (hsize : i.size = size) (hby : i.bytes = bytes) (hzs : z.cells.size = size) (hsz : 0 < size)
    (v : Value) (n : Nat) (xs : List Value) (hs : a.eval s = v) (hown : w.ownsRow base e size v n xs)
    (ao : Option Addr) (m c : Nat) (news : List Value) (hx : a.eval x = .slice ao m c) (hno : ao = none → m = 0) (hl : news.length = m * size) (hnews : ∀ ad, ao = some ad → ∀ j u, news[j]? = some u → w.cell? (ad.add j) = some u) (h1 : ∀ u ∈ news, u.oneCell' = true)
    (h63 : n + m ≤ maxLen) (hbytes : (n + m) * bytes ≤ 140737488355328) (hbase : base ≤ w.heap.size)
    (h : ∀ v' w', w'.ownsRow base e size v' (n + m) (xs ++ news) → w.grownBy w' v.ownBlock → K (a.put o.dst v') w') :
    if Region.wanted o (yielded ops a.tmps) = true then Oper.wp P o a w K Q else F := by
  have hw : Region.wanted o (yielded ops a.tmps) = true := by simp [Region.wanted, hgd]
  rw [if_pos hw]
  cases ao with
  | none =>
    obtain rfl := hno rfl
    obtain rfl : news = [] := List.eq_nil_of_length_eq_zero (by simpa using hl)
    have hrun := run_append_nothing (P := P) (w := w) base t o.type e i size ht hi v n xs hown c
    unfold Oper.wp
    simp [execOp, ho, resolve, invoke, builtin, hs, hx, hrun, Result.andThen]
    exact h v w (by simpa using hown) (World.grownBy.refl _ _)
  | some ad => exact wp_append_own w s x t ho base e i z size bytes ht hi hz hsize hby hzs hsz v n xs hs hown ad m c news hx hl (hnews ad rfl) h1 h63 hbytes hbase (fun v' w' h2 h3 _ => h v' w' h2 h3)
theorem pk_none {B : Nat} {w : World} {l : List Pk} {a : Option Addr} (h : PkIn B w l a) : a = none → l.length = 0 := fun e => by
  cases l with
  | nil => rfl
  | cons p l =>
    obtain ⟨b, off, e2, _⟩ := h 0 p rfl
    rw [e] at e2
    cases e2
/-- What Run leaves. -/
def RunOut (m : Md) (E : Int) (R : Wd) (w : World) (vE vB : Value) (st : Nat) : Prop :=
  (E ≠ 0 ∧ vE = .slice none 0 0 ∧ vB = .slice none 0 0 ∧ st = 0) ∨ (E = 0 ∧ st = R.steps ∧ (∃ ov bv, EnIn m R 0 w vE vB R.ts.length m.boxes.length ov bv) ∧ ∃ K, Known m K ∧ WI m K R)
theorem RunOut.below {m : Md} {E : Int} {R : Wd} {w w' : World} {vE vB : Value} {st : Nat} (h : RunOut m E R w vE vB st) (hb : Below w.heap.size w w') : RunOut m E R w' vE vB st := by
  rcases h with h | ⟨h0, h1, ⟨ov, bv, h2⟩, h3⟩
  · exact .inl h
  · exact .inr ⟨h0, h1, ⟨ov, bv, h2.keep (fun _ => False) (fun k hk _ => hb.block k hk) (fun _ hF => hF.elim)⟩, h3⟩
theorem ran_form {m : Md} {E : Int} {R : Wd} {n : Nat} {D : List Dd} {w2 : World} {e : Ending} (hr : (E ≠ 0 ∧ e = .returned (.tuple #[.agg #[.slice none 0 0, .slice none 0 0, .int .i64 0], .slice none 0 0, .int .i64 E])) ∨ (E = 0 ∧ ∃ vE vB vd ov bv, e = .returned (.tuple #[.agg #[vE, vB, .int .i64 R.steps], vd, .int .i64 0]) ∧ EnIn m R 0 w2 vE vB R.ts.length m.boxes.length ov bv ∧ w2.ownsRow 0 44 2 vd n (ddCells D) ∧ ∃ K, Known m K ∧ WI m K R)) :
    ∃ ea na ec ba nb bc da dn dc, ∃ st : Nat, e = .returned (.tuple #[.agg #[.slice ea na ec, .slice ba nb bc, .int .i64 st], .slice da dn dc, .int .i64 E]) ∧ RunOut m E R w2 (.slice ea na ec) (.slice ba nb bc) st := by
  rcases hr with ⟨h0, rfl⟩ | ⟨rfl, vE, vB, vd, ov, bv, rfl, hEN, hD, K, hK, hWI⟩
  · exact ⟨none, 0, 0, none, 0, 0, none, 0, 0, 0, rfl, .inl ⟨h0, rfl, rfl, rfl⟩⟩
  · obtain ⟨ea, ec, rfl⟩ := own_slice hEN.ends
    obtain ⟨ba, bc, rfl⟩ := own_slice hEN.bxs
    obtain ⟨da, dc, rfl⟩ := own_slice hD
    exact ⟨_, _, _, _, _, _, _, _, _, _, rfl, .inr ⟨rfl, rfl, ⟨ov, bv, hEN⟩, K, hK, hWI⟩⟩
/-- What lies there behind a Run whose answer is kept. -/
def QAt (w : World) (m : Md) (E : Int) (R : Wd) (p v : Value) (wx : World) : Prop :=
  ∃ (b : Nat) (vE vB : Value) (st : Nat) (ts : List Tk) (x : List Bq), p = .pointer (some ⟨b, 0, none⟩) ∧ v = .int .i64 E ∧ wx.heap[b]? = some (woO vE vB st) ∧ w.heap.size ≤ b ∧ Below w.heap.size w wx ∧ WRd wx m ts x vE vB ∧ (ts.length ≤ 1000 ∧ x.length ≤ 1000 ∧ (∀ t ∈ ts, t.out.length ≤ 1000000) ∧ ∀ q ∈ x, q.ws.length ≤ 1000000) ∧ ((E = 0 ∧ ts = R.ts ∧ x = R.x ∧ st = R.steps) ∨ (E ≠ 0 ∧ ts = [] ∧ x = [] ∧ st = 0))
theorem fill_wo {w : World} {b : Nat} {v0 v1 : Value} {st : Int} (h : w.heap[b]? = some woZ) : (fillW w b v0 v1 (.int .i64 st)).heap[b]? = some (woO v0 v1 st) := by
  simp only [World.setCell, Array.getElem?_modify, if_true, h, Option.map_some]
  rfl
theorem QAt.mk' {w V : World} {m : Md} {E : Int} {R : Wd} {b st : Nat} {vE vB : Value} (hv : E = 0 → verify m = (0, 0, 0)) (hB : Below w.heap.size w V) (hb : w.heap.size ≤ b) (hz : V.heap[b]? = some woZ) (hX : RunOut m E R V vE vB st) : QAt w m E R (.pointer (some ⟨b, 0, none⟩)) (.int .i64 E) (fillW V b vE vB (.int .i64 st)) := by
  have hB2 := fillW_below (v0 := vE) (v1 := vB) (v2 := .int .i64 st) hB hb
  rcases hX with ⟨h0, rfl, rfl, rfl⟩ | ⟨h0, rfl, ⟨ov, bv, hEN⟩, K, hK, hWI⟩
  · exact ⟨b, _, _, 0, [], [], rfl, rfl, fill_wo hz, hb, hB2, ⟨⟨none, 0, rfl, fun i t ht => by cases ht⟩, ⟨none, 0, rfl, fun i l hl => by cases hl⟩⟩, ⟨by simp, by simp, by simp, by simp⟩, .inr ⟨h0, rfl, rfl, rfl⟩⟩
  · obtain ⟨q1, q2, q3, q4, q5⟩ := wi_few hWI (hv h0)
    exact ⟨b, vE, vB, _, R.ts, R.x, rfl, rfl, fill_wo hz, hb, hB2, (fillW_en hz hEN).reads q2, ⟨q1, by omega, q4, q5⟩, .inl ⟨h0, rfl, rfl, rfl⟩⟩
theorem pk_lit {V : World} {b : Nat} {cs : List Value} {t : TypeId} (h : V.heap[b]? = some (.cells (List.toArray cs) t (0, 0))) (j : Nat) (u : Value) (hu : cs[j]? = some u) : V.cell? ((⟨b, 0, none⟩ : Addr).add j) = some u := by
  rw [add_none]
  simp [World.cell?, h, hu]
theorem pks_app (l l' : List Pk) : pkCells (l ++ l') = pkCells l ++ pkCells l' := by simp [pkCells]

theorem pk_more {V : World} {B t n N : Nat} {v : Value} {ps l : List Pk} (hN : N = ps.length) (h : V.ownsRow B t 2 v (N + n) (pkCells ps ++ pkCells l)) (hl : l.length = n) : V.ownsRow B t 2 v (ps ++ l).length (pkCells (ps ++ l)) := by
  rw [pks_app, List.length_append, hl, ← hN]
  exact h
theorem share1 {G : Prop} (I : Nat → Value → World → Prop) {P : Nat → Nat → Nat → Value → Value → World → Prop} (use : (∀ b41 b50 b11 v3 v4 V, I b11 v4 V → P b41 b50 b11 v3 v4 V) → G) (tail : ∀ b41 b50 b11 v3 v4 V, I b11 v4 V → P b41 b50 b11 v3 v4 V) : G := use tail
theorem share2 {G : Prop} (I : Value → World → Prop) {P : Nat → Nat → Value → Value → World → Prop} (use : (∀ b41 b50 v3 v4 V, I v4 V → P b41 b50 v3 v4 V) → G) (tail : ∀ b41 b50 v3 v4 V, I v4 V → P b41 b50 v3 v4 V) : G := use tail
theorem wpAnyH_at {P : Program} {md : Region.Mode} {ops : Array Oper} {Q : Exit → Act → World → Prop} {S : World → Prop} {f : Nat} {l l' : Array Bool} {a a' : Act} {w : World} (h : wpAnyH P md ops Q S f l a w) (hl : l = l') (ha : a = a') : wpAnyH P md ops Q S f l' a' w := by subst hl; subst ha; exact h
set_option maxRecDepth 100000 in
set_option maxHeartbeats 20000000 in
theorem quantum_any (m : Md) (ab au : Option Addr) (cb cu : Nat) (ps : List Pk) (a : Option Addr) (cap : Nat) (w : World) (hmd : ModIn w.heap.size w m ab au) (hps : PkIn w.heap.size w ps a) (hpl : ps.length * 16 ≤ 140737488355328) (task one two : Int) (i2 : I64 one) (i3 : I64 two) :
    Calls Tryz.prog 4 #[mdV m ab au cb cu, .slice a ps.length cap, .int .i64 task, .int .i64 one, .int .i64 two] w fun e w' => e = .returned (.bool true) ∧ Below w.heap.size w w' := by
  obtain ⟨i0, hi, hz0, hz1, hz2⟩ := info_parts Tryz.info41
  have HMD := Sb.hide hmd
  have HPS := Sb.hide hps
  have HB0 : Hid (Below w.heap.size w (w.alloc (mdB m ab au cb cu))) := (Below.refl _ w).alloc (Nat.le_refl _) _
  have HM0 : Hid ((w.alloc (mdB m ab au cb cu)).heap[w.heap.size]? = some (mdB m ab au cb cu)) := heap_alloc_new w _
  obtain ⟨N, hN⟩ : ∃ N, N = ps.length := ⟨_, rfl⟩
  have HN := Sb.hide hN
  rw [← hN] at hpl ⊢
  have hpl2 : N ≤ 8796093022208 := by omega
  have hpl3 : (N : Int) ≤ 8796093022208 := by omega
  clear hmd hps hN hpl
  go_enter Tryz.func4, Tryz.ntmps4
  go_wp2_with fail
  generalize w.alloc (mdB m ab au cb cu) = W0 at *
  refine (alive_any _).mono ?_
  rintro e w1 ⟨rfl, hb1⟩
  have HB1 := Sb.hide (HB0.out.trans (hb1.mono HB0.out.size))
  have HM1 := Sb.hide ((hb1.block _ (lt_of_block HM0.out)).trans HM0.out)
  have c1 := md_cells HM1.out
  have hwm := lt_of_block HM1.out
  clear hb1
  by_cases h1 : one < 1
  · go_wp2
    go_ret
    exact ⟨rfl, HB1.out⟩
  by_cases h2 : two < 1
  · go_wp2
    go_ret
    exact ⟨rfl, HB1.out⟩
  by_cases h3 : 1000 < one
  · go_wp2
    go_ret
    exact ⟨rfl, HB1.out⟩
  by_cases h4 : 1000 < two
  · go_wp2
    go_ret
    exact ⟨rfl, HB1.out⟩
  by_cases h5 : 400 < (N : Int) + 2
  · go_wp2
    go_ret
    exact ⟨rfl, HB1.out⟩
  have hN398 : N ≤ 398 := by omega
  obtain ⟨E, hE⟩ : ∃ E, E = wrongE m 0 := ⟨_, rfl⟩
  have HWE : Hid (∀ k, k ≤ 400 → E = wrongE m k) := fun k hk => by
    rw [hE]
    unfold wrongE
    split
    · rfl
    · rw [if_neg (by omega), if_neg (by omega)]
  obtain ⟨R1, hR1⟩ : ∃ R, R = runW m (ps ++ [⟨task, one⟩, ⟨task, two⟩]) := ⟨_, rfl⟩
  obtain ⟨R2, hR2⟩ : ∃ R, R = runW m (ps ++ [⟨task, one + two⟩]) := ⟨_, rfl⟩
  have HSW : Hid (SameW R1 R2) := by unfold Hid; rw [hR1, hR2]; exact quantum_runs m ps task one two (by omega) (by omega)
  have HRA := Sb.hide hR1
  have HRB := Sb.hide hR2
  obtain ⟨pl1, hpl1⟩ : ∃ l, l = ps ++ [(⟨task, one⟩ : Pk), ⟨task, two⟩] := ⟨_, rfl⟩
  obtain ⟨pl2, hpl2⟩ : ∃ l, l = ps ++ [(⟨task, one + two⟩ : Pk)] := ⟨_, rfl⟩
  have hle1 : pl1.length ≤ 400 := by rw [hpl1]; have := HN.out; simp; omega
  have hle2 : pl2.length ≤ 400 := by rw [hpl2]; have := HN.out; simp; omega
  have HPL1 := Sb.hide hpl1
  have HPL2 := Sb.hide hpl2
  clear hpl1 hpl2
  clear hE hR1 hR2
  obtain ⟨c10, c11⟩ := c1
  have HVF : Hid (E = 0 → verify m = (0, 0, 0)) := fun h => (wrongE_zero (n := 0) ((HWE.out 0 (by omega)).symm.trans h)).1
  have hwz := HB1.out.size
  go_upto_region 5 with fail
  go_cut [11, 13] (fun p v wx => QAt w1 m E R1 p v wx)
  case first =>
    have HS : Hid (∀ V, Below w1.heap.size w1 V → V.cell? ⟨w.heap.size, 0, none⟩ = some (.slice ab m.boxes.length cb) ∧ V.cell? ⟨w.heap.size, 1, none⟩ = some (.slice au m.units.length cu)) := fun V hV => md_cells ((hV.block _ hwm).trans HM1.out)
    have HPB : Hid (∀ V, Below w1.heap.size w1 V → PkIn w.heap.size V ps a) := fun V hV => HPS.out.low (HB1.out.trans (hV.mono hwz)).block
    have HMB : Hid (∀ V, Below w1.heap.size w1 V → ModIn V.heap.size V m ab au) := fun V hV => mod_up (HMD.out.low (HB1.out.trans (hV.mono hwz)).block) (HB1.out.trans (hV.mono hwz)).size
    refine wp_region_held_drew (S := fun w' => w'.cell? ⟨w.heap.size, 0, none⟩ = some (.slice ab m.boxes.length cb) ∧ w'.cell? ⟨w.heap.size, 1, none⟩ = some (.slice au m.units.length cu)) (by kernel_rfl) ⟨c10, c11⟩ (fun hHeld => ?_)
    obtain ⟨V0, hV0⟩ : ∃ x, x = w1.drew := ⟨_, rfl⟩
    rw [← hV0] at hHeld ⊢
    have HB0' : Hid (Below w1.heap.size w1 V0) := by rw [hV0]; exact (Below.refl _ _).drew
    clear HB0
    have HB0 := HB0'
    clear HB0' hV0 c10 c11
    refine wpAnyH_take (i := 0) (oi := _) (v := ?_) rfl (by kernel_rfl) (by kernel_rfl) (by kernel_rfl) (fun _ _ _ h => h) (Or.inl ⟨by rfl, ?_⟩) (by assumption) ?_
    rotate_left
    · intro w hSw
      (try dsimp only at hSw)
      go_simp
      (try with_reducible rfl)
    (try go_frame)
    refine wpAnyH_take (i := 2) (oi := _) (v := ?_) rfl (by kernel_rfl) (by kernel_rfl) (by kernel_rfl) (fun _ _ _ h => h) (Or.inl ⟨by rfl, ?_⟩) (by assumption) ?_
    rotate_left
    · intro w hSw
      (try dsimp only at hSw)
      go_simp
      (try with_reducible rfl)
    (try go_frame)
    refine wpAnyH_take (i := 4) (oi := _) (v := ?_) rfl (by kernel_rfl) (by kernel_rfl) (by kernel_rfl) (fun _ _ _ h => h) (Or.inl ⟨by rfl, ?_⟩) (by assumption) ?_
    rotate_left
    · intro w hSw
      (try dsimp only at hSw)
      go_simp
      (try with_reducible rfl)
    (try go_frame)
    refine wpAnyH_take (i := 5) (oi := _) (v := ?_) rfl (by kernel_rfl) (by kernel_rfl) (by kernel_rfl) (fun _ _ _ h => h) (Or.inl ⟨by rfl, ?_⟩) (by assumption) ?_
    rotate_left
    · intro w hSw
      (try dsimp only at hSw)
      go_simp
      (try with_reducible rfl)
    (try go_frame)
    refine wpAnyH_take (i := 6) (oi := _) (v := ?_) rfl (by kernel_rfl) (by kernel_rfl) (by kernel_rfl) (fun _ _ _ h => h) (Or.inl ⟨by rfl, ?_⟩) (by assumption) ?_
    rotate_left
    · intro w hSw
      (try dsimp only at hSw)
      go_simp
      (try with_reducible rfl)
    (try go_frame)
    refine wpAnyH_take (i := 7) (oi := _) (v := ?_) rfl (by kernel_rfl) (by kernel_rfl) (by kernel_rfl) (fun _ _ _ h => h) (Or.inl ⟨by rfl, ?_⟩) (by assumption) ?_
    rotate_left
    · intro w hSw
      (try dsimp only at hSw)
      go_simp
      (try with_reducible rfl)
    (try go_frame)
    refine wpAnyH_take (i := 8) (oi := _) (v := ?_) rfl (by kernel_rfl) (by kernel_rfl) (by kernel_rfl) (fun _ _ _ h => h) (Or.inl ⟨by rfl, ?_⟩) (by assumption) ?_
    rotate_left
    · intro w hSw
      (try dsimp only at hSw)
      go_simp
      (try with_reducible rfl)
    (try go_frame)
    refine wpAnyH_take (i := 9) (oi := _) (v := ?_) rfl (by kernel_rfl) (by kernel_rfl) (by kernel_rfl) (fun _ _ _ h => h) (Or.inl ⟨by rfl, ?_⟩) (by assumption) ?_
    rotate_left
    · intro w hSw
      (try dsimp only at hSw)
      go_simp
      (try with_reducible rfl)
    (try go_frame)
    apply share1 (fun b11 v4 V => Hid (Below w1.heap.size w1 V) ∧ Hid (V.ownsRow w1.heap.size 41 2 v4 pl1.length (pkCells pl1)) ∧ Hid (V.heap[b11]? = some woZ) ∧ w1.heap.size ≤ b11)
    case use =>
      intro TAIL1
      apply share2 (fun v4 V => Hid (Below w1.heap.size w1 V) ∧ Hid (V.ownsRow w1.heap.size 41 2 v4 pl1.length (pkCells pl1)))
      case use =>
        intro TAIL2
        refine wpAnyH_ready (rs := [1, 10, 17]) (by kernel_rfl) (by simp) ?_
        refine AllReadyH.cons (o := _) rfl (fun K hK => ?_) (AllReadyH.cons (o := _) rfl (fun K hK => ?_) (AllReadyH.cons (o := _) rfl (fun K hK => ?_) AllReadyH.nil))
        · go_simp
          obtain ⟨V1, hV1⟩ : ∃ x, x = V0.alloc (.cells #[] 41) := ⟨_, rfl⟩
          rw [← hV1]
          have hb1 : Below V0.heap.size V0 V1 := by rw [hV1]; exact (Below.refl _ _).alloc (Nat.le_refl _) _
          have HB1 : Hid (Below w1.heap.size w1 V1) := HB0.out.trans (hb1.mono HB0.out.size)
          have HO1 : Hid (V1.ownsRow w1.heap.size 41 2 (.slice (some ⟨V0.heap.size, 0, none⟩) 0 0) 0 []) := by unfold Hid; rw [hV1]; exact own_empty V0 41 HB0.out.size 2
          have hsz1 : V0.heap.size < V1.heap.size := by rw [hV1]; simp
          clear hV1 hb1
          refine hK.out _ _ (HS.out V1 HB1.out) (fun hHeld => ?_)
          clear hK K
          refine wpAnyH_ready (rs := [3, 10, 17]) (by kernel_rfl) (by simp) ?_
          refine AllReadyH.cons (o := _) rfl (fun K hK => ?_) (AllReadyH.cons (o := _) rfl (fun K hK => ?_) (AllReadyH.cons (o := _) rfl (fun K hK => ?_) AllReadyH.nil))
          · refine step_append_src rfl (.tmp 41) (.tmp 42) 26 rfl w1.heap.size 41 i0 _ 2 16 Tryz.underlying26 hi hz0 hz1 hz2 rfl (by decide) _ 0 [] rfl HO1.out a N cap (pkCells ps) rfl (by rw [HN.out]; exact pk_none HPS.out) (by rw [HN.out]; exact fm_len pkc 2 (fun _ => rfl) ps) (pk_src (HPB.out _ HB1.out)) (pks_one ps) (by unfold maxLen; omega) (by omega) HB1.out.size ?_
            intro v3 V2 hown hgr
            have hgr2 : V1.grownBy V2 (some (V0.heap.size)) := hgr
            have hlt := HO1.out.lt (V0.heap.size) rfl
            have HB2 : Hid (Below w1.heap.size w1 V2) := HB1.out.grown hgr2 HB1.out.size (fun b hb => by cases hb; exact hlt.1)
            have HR2 : Hid (V2.ownsRow w1.heap.size 41 2 v3 N (pkCells ps)) := by have := hown; rw [Nat.zero_add, List.nil_append] at this; exact this
            have hsz2 := hgr2.size
            clear hown hgr hgr2 hlt
            refine hK.out _ _ (HS.out V2 HB2.out) (fun hHeld => ?_)
            clear hK K
            refine wpAnyH_ready (rs := [10, 17]) (by kernel_rfl) (by simp) ?_
            refine AllReadyH.cons (o := _) rfl (fun K hK => ?_) (AllReadyH.cons (o := _) rfl (fun K hK => ?_) AllReadyH.nil)
            · go_simp
              obtain ⟨V3, hV3⟩ : ∃ x, x = V2.alloc (.cells #[.int .i64 task, .int .i64 one, .int .i64 task, .int .i64 two] 41) := ⟨_, rfl⟩
              rw [← hV3]
              have hb3 : Below V2.heap.size V2 V3 := by rw [hV3]; exact (Below.refl _ _).alloc (Nat.le_refl _) _
              have HB3 : Hid (Below w1.heap.size w1 V3) := HB2.out.trans (hb3.mono HB2.out.size)
              have HR3 := Sb.hide (own_keep HR2.out (fun b hb => hb3.block b (HR2.out.lt b hb).2))
              have HP3 : Hid (V3.heap[V2.heap.size]? = some (.cells #[.int .i64 task, .int .i64 one, .int .i64 task, .int .i64 two] 41 (0, 0))) := by unfold Hid; rw [hV3]; exact heap_alloc_new _ _
              have hsz3 : V2.heap.size < V3.heap.size := by rw [hV3]; simp
              clear hV3 hb3
              refine hK.out _ _ (HS.out V3 HB3.out) (fun hHeld => ?_)
              clear hK K
              refine wpAnyH_ready (rs := [11, 17]) (by kernel_rfl) (by simp) ?_
              refine AllReadyH.cons (o := _) rfl (fun K hK => ?_) (AllReadyH.cons (o := _) rfl (fun K hK => ?_) AllReadyH.nil)
              · have hnw : ∀ ad, some (⟨V2.heap.size, 0, none⟩ : Addr) = some ad → ∀ j u, (pkCells [(⟨task, one⟩ : Pk), ⟨task, two⟩])[j]? = some u → V3.cell? (ad.add j) = some u := fun ad e j u hu => by cases e; exact pk_lit HP3.out j u hu
                refine step_append_src rfl (.tmp 43) (.tmp 50) 26 rfl w1.heap.size 41 i0 _ 2 16 Tryz.underlying26 hi hz0 hz1 hz2 rfl (by decide) v3 N (pkCells ps) rfl HR3.out (some ⟨V2.heap.size, 0, none⟩) 2 2 (pkCells [(⟨task, one⟩ : Pk), ⟨task, two⟩]) rfl (fun e => by cases e) rfl hnw (pks_one _) (by unfold maxLen; omega) (by omega) HB3.out.size ?_
                intro v4 V4 hown hgr
                have HB4 : Hid (Below w1.heap.size w1 V4) := HB3.out.grown hgr HB3.out.size (fun b hb => (HR3.out.lt b hb).1)
                have HQ4 : Hid (V4.ownsRow w1.heap.size 41 2 v4 pl1.length (pkCells pl1)) := by rw [HPL1.out]; exact pk_more HN.out hown rfl
                have hsz4 := hgr.size
                clear hown hgr hnw
                refine hK.out _ _ (HS.out V4 HB4.out) (fun hHeld => ?_)
                clear hK K
                obtain ⟨b41, hb41⟩ : ∃ b, b = V0.heap.size := ⟨_, rfl⟩
                rw [← hb41]
                obtain ⟨b50, hb50⟩ : ∃ b, b = V2.heap.size := ⟨_, rfl⟩
                rw [← hb50]
                exact TAIL2 b41 b50 v3 v4 V4 ⟨HB4, HQ4⟩
              · go_simp
                obtain ⟨V4, hV4⟩ : ∃ x, x = V3.alloc (woZ) := ⟨_, rfl⟩
                rw [← hV4]
                have hb4 : Below V3.heap.size V3 V4 := by rw [hV4]; exact (Below.refl _ _).alloc (Nat.le_refl _) _
                have HB4 : Hid (Below w1.heap.size w1 V4) := HB3.out.trans (hb4.mono HB3.out.size)
                have HR4 := Sb.hide (own_keep HR3.out (fun b hb => hb4.block b (HR3.out.lt b hb).2))
                have HP4 := Sb.hide ((hb4.block _ (lt_of_block HP3.out)).trans HP3.out)
                have HZ4 : Hid (V4.heap[V3.heap.size]? = some woZ) := by unfold Hid; rw [hV4]; exact heap_alloc_new _ _
                have hsz4 : V3.heap.size < V4.heap.size := by rw [hV4]; simp
                clear hV4 hb4
                refine hK.out _ _ (HS.out V4 HB4.out) (fun hHeld => ?_)
                clear hK K
                refine wpAnyH_ready (rs := [11]) (by kernel_rfl) (by simp) ?_
                refine AllReadyH.cons (o := _) rfl (fun K hK => ?_) AllReadyH.nil
                have hnw : ∀ ad, some (⟨V2.heap.size, 0, none⟩ : Addr) = some ad → ∀ j u, (pkCells [(⟨task, one⟩ : Pk), ⟨task, two⟩])[j]? = some u → V4.cell? (ad.add j) = some u := fun ad e j u hu => by cases e; exact pk_lit HP4.out j u hu
                refine step_append_src rfl (.tmp 43) (.tmp 50) 26 rfl w1.heap.size 41 i0 _ 2 16 Tryz.underlying26 hi hz0 hz1 hz2 rfl (by decide) v3 N (pkCells ps) rfl HR4.out (some ⟨V2.heap.size, 0, none⟩) 2 2 (pkCells [(⟨task, one⟩ : Pk), ⟨task, two⟩]) rfl (fun e => by cases e) rfl hnw (pks_one _) (by unfold maxLen; omega) (by omega) HB4.out.size ?_
                intro v4 V5 hown hgr
                have HB5 : Hid (Below w1.heap.size w1 V5) := HB4.out.grown hgr HB4.out.size (fun b hb => (HR4.out.lt b hb).1)
                have HQ5 : Hid (V5.ownsRow w1.heap.size 41 2 v4 pl1.length (pkCells pl1)) := by rw [HPL1.out]; exact pk_more HN.out hown rfl
                have HZ5 := Sb.hide ((hgr.block _ (lt_of_block HZ4.out) (fun e => ty_ne HR4.out HZ4.out (by decide) e.symm)).trans HZ4.out)
                have hsz5 := hgr.size
                clear hown hgr hnw
                refine hK.out _ _ (HS.out V5 HB5.out) (fun hHeld => ?_)
                clear hK K
                obtain ⟨b41, hb41⟩ : ∃ b, b = V0.heap.size := ⟨_, rfl⟩
                rw [← hb41]
                obtain ⟨b50, hb50⟩ : ∃ b, b = V2.heap.size := ⟨_, rfl⟩
                rw [← hb50]
                obtain ⟨b11, hb11⟩ : ∃ b, b = V3.heap.size := ⟨_, rfl⟩
                rw [← hb11]
                have HZf : Hid (V5.heap[b11]? = some woZ) := by rw [hb11]; exact HZ5
                have hbl : w1.heap.size ≤ b11 := by rw [hb11]; exact HB3.out.size
                exact TAIL1 b41 b50 b11 v3 v4 V5 ⟨HB5, HQ5, HZf, hbl⟩
            · go_simp
              obtain ⟨V3, hV3⟩ : ∃ x, x = V2.alloc (woZ) := ⟨_, rfl⟩
              rw [← hV3]
              have hb3 : Below V2.heap.size V2 V3 := by rw [hV3]; exact (Below.refl _ _).alloc (Nat.le_refl _) _
              have HB3 : Hid (Below w1.heap.size w1 V3) := HB2.out.trans (hb3.mono HB2.out.size)
              have HR3 := Sb.hide (own_keep HR2.out (fun b hb => hb3.block b (HR2.out.lt b hb).2))
              have HZ3 : Hid (V3.heap[V2.heap.size]? = some woZ) := by unfold Hid; rw [hV3]; exact heap_alloc_new _ _
              have hsz3 : V2.heap.size < V3.heap.size := by rw [hV3]; simp
              clear hV3 hb3
              refine hK.out _ _ (HS.out V3 HB3.out) (fun hHeld => ?_)
              clear hK K
              refine wpAnyH_ready (rs := [10]) (by kernel_rfl) (by simp) ?_
              refine AllReadyH.cons (o := _) rfl (fun K hK => ?_) AllReadyH.nil
              go_simp
              obtain ⟨V4, hV4⟩ : ∃ x, x = V3.alloc (.cells #[.int .i64 task, .int .i64 one, .int .i64 task, .int .i64 two] 41) := ⟨_, rfl⟩
              rw [← hV4]
              have hb4 : Below V3.heap.size V3 V4 := by rw [hV4]; exact (Below.refl _ _).alloc (Nat.le_refl _) _
              have HB4 : Hid (Below w1.heap.size w1 V4) := HB3.out.trans (hb4.mono HB3.out.size)
              have HR4 := Sb.hide (own_keep HR3.out (fun b hb => hb4.block b (HR3.out.lt b hb).2))
              have HZ4 := Sb.hide ((hb4.block _ (lt_of_block HZ3.out)).trans HZ3.out)
              have HP4 : Hid (V4.heap[V3.heap.size]? = some (.cells #[.int .i64 task, .int .i64 one, .int .i64 task, .int .i64 two] 41 (0, 0))) := by unfold Hid; rw [hV4]; exact heap_alloc_new _ _
              have hsz4 : V3.heap.size < V4.heap.size := by rw [hV4]; simp
              clear hV4 hb4
              refine hK.out _ _ (HS.out V4 HB4.out) (fun hHeld => ?_)
              clear hK K
              refine wpAnyH_ready (rs := [11]) (by kernel_rfl) (by simp) ?_
              refine AllReadyH.cons (o := _) rfl (fun K hK => ?_) AllReadyH.nil
              have hnw : ∀ ad, some (⟨V3.heap.size, 0, none⟩ : Addr) = some ad → ∀ j u, (pkCells [(⟨task, one⟩ : Pk), ⟨task, two⟩])[j]? = some u → V4.cell? (ad.add j) = some u := fun ad e j u hu => by cases e; exact pk_lit HP4.out j u hu
              refine step_append_src rfl (.tmp 43) (.tmp 50) 26 rfl w1.heap.size 41 i0 _ 2 16 Tryz.underlying26 hi hz0 hz1 hz2 rfl (by decide) v3 N (pkCells ps) rfl HR4.out (some ⟨V3.heap.size, 0, none⟩) 2 2 (pkCells [(⟨task, one⟩ : Pk), ⟨task, two⟩]) rfl (fun e => by cases e) rfl hnw (pks_one _) (by unfold maxLen; omega) (by omega) HB4.out.size ?_
              intro v4 V5 hown hgr
              have HB5 : Hid (Below w1.heap.size w1 V5) := HB4.out.grown hgr HB4.out.size (fun b hb => (HR4.out.lt b hb).1)
              have HQ5 : Hid (V5.ownsRow w1.heap.size 41 2 v4 pl1.length (pkCells pl1)) := by rw [HPL1.out]; exact pk_more HN.out hown rfl
              have HZ5 := Sb.hide ((hgr.block _ (lt_of_block HZ4.out) (fun e => ty_ne HR4.out HZ4.out (by decide) e.symm)).trans HZ4.out)
              have hsz5 := hgr.size
              clear hown hgr hnw
              refine hK.out _ _ (HS.out V5 HB5.out) (fun hHeld => ?_)
              clear hK K
              exact wpAnyH_at (TAIL1 (V0.heap.size) (V3.heap.size) (V2.heap.size) v3 v4 V5 ⟨HB5, HQ5, HZ5, HB2.out.size⟩) (by kernel_rfl) (by kernel_rfl)
          · go_simp
            obtain ⟨V2, hV2⟩ : ∃ x, x = V1.alloc (.cells #[.int .i64 task, .int .i64 one, .int .i64 task, .int .i64 two] 41) := ⟨_, rfl⟩
            rw [← hV2]
            have hb2 : Below V1.heap.size V1 V2 := by rw [hV2]; exact (Below.refl _ _).alloc (Nat.le_refl _) _
            have HB2 : Hid (Below w1.heap.size w1 V2) := HB1.out.trans (hb2.mono HB1.out.size)
            have HO2 := Sb.hide (own_keep HO1.out (fun b hb => hb2.block b (HO1.out.lt b hb).2))
            have HP2 : Hid (V2.heap[V1.heap.size]? = some (.cells #[.int .i64 task, .int .i64 one, .int .i64 task, .int .i64 two] 41 (0, 0))) := by unfold Hid; rw [hV2]; exact heap_alloc_new _ _
            have hsz2 : V1.heap.size < V2.heap.size := by rw [hV2]; simp
            clear hV2 hb2
            refine hK.out _ _ (HS.out V2 HB2.out) (fun hHeld => ?_)
            clear hK K
            refine wpAnyH_ready (rs := [3, 17]) (by kernel_rfl) (by simp) ?_
            refine AllReadyH.cons (o := _) rfl (fun K hK => ?_) (AllReadyH.cons (o := _) rfl (fun K hK => ?_) AllReadyH.nil)
            · refine step_append_src rfl (.tmp 41) (.tmp 42) 26 rfl w1.heap.size 41 i0 _ 2 16 Tryz.underlying26 hi hz0 hz1 hz2 rfl (by decide) _ 0 [] rfl HO2.out a N cap (pkCells ps) rfl (by rw [HN.out]; exact pk_none HPS.out) (by rw [HN.out]; exact fm_len pkc 2 (fun _ => rfl) ps) (pk_src (HPB.out _ HB2.out)) (pks_one ps) (by unfold maxLen; omega) (by omega) HB2.out.size ?_
              intro v3 V3 hown hgr
              have hgr2 : V2.grownBy V3 (some (V0.heap.size)) := hgr
              have hlt := HO2.out.lt (V0.heap.size) rfl
              have HB3 : Hid (Below w1.heap.size w1 V3) := HB2.out.grown hgr2 HB2.out.size (fun b hb => by cases hb; exact hlt.1)
              have HR3 : Hid (V3.ownsRow w1.heap.size 41 2 v3 N (pkCells ps)) := by have := hown; rw [Nat.zero_add, List.nil_append] at this; exact this
              have HP3 := Sb.hide ((hgr2.block _ (lt_of_block HP2.out) (by simp; omega)).trans HP2.out)
              have hsz3 := hgr2.size
              clear hown hgr hgr2 hlt
              refine hK.out _ _ (HS.out V3 HB3.out) (fun hHeld => ?_)
              clear hK K
              refine wpAnyH_ready (rs := [11, 17]) (by kernel_rfl) (by simp) ?_
              refine AllReadyH.cons (o := _) rfl (fun K hK => ?_) (AllReadyH.cons (o := _) rfl (fun K hK => ?_) AllReadyH.nil)
              · have hnw : ∀ ad, some (⟨V1.heap.size, 0, none⟩ : Addr) = some ad → ∀ j u, (pkCells [(⟨task, one⟩ : Pk), ⟨task, two⟩])[j]? = some u → V3.cell? (ad.add j) = some u := fun ad e j u hu => by cases e; exact pk_lit HP3.out j u hu
                refine step_append_src rfl (.tmp 43) (.tmp 50) 26 rfl w1.heap.size 41 i0 _ 2 16 Tryz.underlying26 hi hz0 hz1 hz2 rfl (by decide) v3 N (pkCells ps) rfl HR3.out (some ⟨V1.heap.size, 0, none⟩) 2 2 (pkCells [(⟨task, one⟩ : Pk), ⟨task, two⟩]) rfl (fun e => by cases e) rfl hnw (pks_one _) (by unfold maxLen; omega) (by omega) HB3.out.size ?_
                intro v4 V4 hown hgr
                have HB4 : Hid (Below w1.heap.size w1 V4) := HB3.out.grown hgr HB3.out.size (fun b hb => (HR3.out.lt b hb).1)
                have HQ4 : Hid (V4.ownsRow w1.heap.size 41 2 v4 pl1.length (pkCells pl1)) := by rw [HPL1.out]; exact pk_more HN.out hown rfl
                have hsz4 := hgr.size
                clear hown hgr hnw
                refine hK.out _ _ (HS.out V4 HB4.out) (fun hHeld => ?_)
                clear hK K
                exact wpAnyH_at (TAIL2 (V0.heap.size) (V1.heap.size) v3 v4 V4 ⟨HB4, HQ4⟩) (by kernel_rfl) (by kernel_rfl)
              · go_simp
                obtain ⟨V4, hV4⟩ : ∃ x, x = V3.alloc (woZ) := ⟨_, rfl⟩
                rw [← hV4]
                have hb4 : Below V3.heap.size V3 V4 := by rw [hV4]; exact (Below.refl _ _).alloc (Nat.le_refl _) _
                have HB4 : Hid (Below w1.heap.size w1 V4) := HB3.out.trans (hb4.mono HB3.out.size)
                have HR4 := Sb.hide (own_keep HR3.out (fun b hb => hb4.block b (HR3.out.lt b hb).2))
                have HP4 := Sb.hide ((hb4.block _ (lt_of_block HP3.out)).trans HP3.out)
                have HZ4 : Hid (V4.heap[V3.heap.size]? = some woZ) := by unfold Hid; rw [hV4]; exact heap_alloc_new _ _
                have hsz4 : V3.heap.size < V4.heap.size := by rw [hV4]; simp
                clear hV4 hb4
                refine hK.out _ _ (HS.out V4 HB4.out) (fun hHeld => ?_)
                clear hK K
                refine wpAnyH_ready (rs := [11]) (by kernel_rfl) (by simp) ?_
                refine AllReadyH.cons (o := _) rfl (fun K hK => ?_) AllReadyH.nil
                have hnw : ∀ ad, some (⟨V1.heap.size, 0, none⟩ : Addr) = some ad → ∀ j u, (pkCells [(⟨task, one⟩ : Pk), ⟨task, two⟩])[j]? = some u → V4.cell? (ad.add j) = some u := fun ad e j u hu => by cases e; exact pk_lit HP4.out j u hu
                refine step_append_src rfl (.tmp 43) (.tmp 50) 26 rfl w1.heap.size 41 i0 _ 2 16 Tryz.underlying26 hi hz0 hz1 hz2 rfl (by decide) v3 N (pkCells ps) rfl HR4.out (some ⟨V1.heap.size, 0, none⟩) 2 2 (pkCells [(⟨task, one⟩ : Pk), ⟨task, two⟩]) rfl (fun e => by cases e) rfl hnw (pks_one _) (by unfold maxLen; omega) (by omega) HB4.out.size ?_
                intro v4 V5 hown hgr
                have HB5 : Hid (Below w1.heap.size w1 V5) := HB4.out.grown hgr HB4.out.size (fun b hb => (HR4.out.lt b hb).1)
                have HQ5 : Hid (V5.ownsRow w1.heap.size 41 2 v4 pl1.length (pkCells pl1)) := by rw [HPL1.out]; exact pk_more HN.out hown rfl
                have HZ5 := Sb.hide ((hgr.block _ (lt_of_block HZ4.out) (fun e => ty_ne HR4.out HZ4.out (by decide) e.symm)).trans HZ4.out)
                have hsz5 := hgr.size
                clear hown hgr hnw
                refine hK.out _ _ (HS.out V5 HB5.out) (fun hHeld => ?_)
                clear hK K
                exact wpAnyH_at (TAIL1 (V0.heap.size) (V1.heap.size) (V3.heap.size) v3 v4 V5 ⟨HB5, HQ5, HZ5, HB3.out.size⟩) (by kernel_rfl) (by kernel_rfl)
            · go_simp
              obtain ⟨V3, hV3⟩ : ∃ x, x = V2.alloc (woZ) := ⟨_, rfl⟩
              rw [← hV3]
              have hb3 : Below V2.heap.size V2 V3 := by rw [hV3]; exact (Below.refl _ _).alloc (Nat.le_refl _) _
              have HB3 : Hid (Below w1.heap.size w1 V3) := HB2.out.trans (hb3.mono HB2.out.size)
              have HO3 := Sb.hide (own_keep HO2.out (fun b hb => hb3.block b (HO2.out.lt b hb).2))
              have HP3 := Sb.hide ((hb3.block _ (lt_of_block HP2.out)).trans HP2.out)
              have HZ3 : Hid (V3.heap[V2.heap.size]? = some woZ) := by unfold Hid; rw [hV3]; exact heap_alloc_new _ _
              have hsz3 : V2.heap.size < V3.heap.size := by rw [hV3]; simp
              clear hV3 hb3
              refine hK.out _ _ (HS.out V3 HB3.out) (fun hHeld => ?_)
              clear hK K
              refine wpAnyH_ready (rs := [3]) (by kernel_rfl) (by simp) ?_
              refine AllReadyH.cons (o := _) rfl (fun K hK => ?_) AllReadyH.nil
              refine step_append_src rfl (.tmp 41) (.tmp 42) 26 rfl w1.heap.size 41 i0 _ 2 16 Tryz.underlying26 hi hz0 hz1 hz2 rfl (by decide) _ 0 [] rfl HO3.out a N cap (pkCells ps) rfl (by rw [HN.out]; exact pk_none HPS.out) (by rw [HN.out]; exact fm_len pkc 2 (fun _ => rfl) ps) (pk_src (HPB.out _ HB3.out)) (pks_one ps) (by unfold maxLen; omega) (by omega) HB3.out.size ?_
              intro v3 V4 hown hgr
              have hgr2 : V3.grownBy V4 (some (V0.heap.size)) := hgr
              have hlt := HO3.out.lt (V0.heap.size) rfl
              have HB4 : Hid (Below w1.heap.size w1 V4) := HB3.out.grown hgr2 HB3.out.size (fun b hb => by cases hb; exact hlt.1)
              have HR4 : Hid (V4.ownsRow w1.heap.size 41 2 v3 N (pkCells ps)) := by have := hown; rw [Nat.zero_add, List.nil_append] at this; exact this
              have HP4 := Sb.hide ((hgr2.block _ (lt_of_block HP3.out) (by simp; omega)).trans HP3.out)
              have HZ4 := Sb.hide ((hgr2.block _ (lt_of_block HZ3.out) (by simp; omega)).trans HZ3.out)
              have hsz4 := hgr2.size
              clear hown hgr hgr2 hlt
              refine hK.out _ _ (HS.out V4 HB4.out) (fun hHeld => ?_)
              clear hK K
              refine wpAnyH_ready (rs := [11]) (by kernel_rfl) (by simp) ?_
              refine AllReadyH.cons (o := _) rfl (fun K hK => ?_) AllReadyH.nil
              have hnw : ∀ ad, some (⟨V1.heap.size, 0, none⟩ : Addr) = some ad → ∀ j u, (pkCells [(⟨task, one⟩ : Pk), ⟨task, two⟩])[j]? = some u → V4.cell? (ad.add j) = some u := fun ad e j u hu => by cases e; exact pk_lit HP4.out j u hu
              refine step_append_src rfl (.tmp 43) (.tmp 50) 26 rfl w1.heap.size 41 i0 _ 2 16 Tryz.underlying26 hi hz0 hz1 hz2 rfl (by decide) v3 N (pkCells ps) rfl HR4.out (some ⟨V1.heap.size, 0, none⟩) 2 2 (pkCells [(⟨task, one⟩ : Pk), ⟨task, two⟩]) rfl (fun e => by cases e) rfl hnw (pks_one _) (by unfold maxLen; omega) (by omega) HB4.out.size ?_
              intro v4 V5 hown hgr
              have HB5 : Hid (Below w1.heap.size w1 V5) := HB4.out.grown hgr HB4.out.size (fun b hb => (HR4.out.lt b hb).1)
              have HQ5 : Hid (V5.ownsRow w1.heap.size 41 2 v4 pl1.length (pkCells pl1)) := by rw [HPL1.out]; exact pk_more HN.out hown rfl
              have HZ5 := Sb.hide ((hgr.block _ (lt_of_block HZ4.out) (fun e => ty_ne HR4.out HZ4.out (by decide) e.symm)).trans HZ4.out)
              have hsz5 := hgr.size
              clear hown hgr hnw
              refine hK.out _ _ (HS.out V5 HB5.out) (fun hHeld => ?_)
              clear hK K
              exact wpAnyH_at (TAIL1 (V0.heap.size) (V1.heap.size) (V2.heap.size) v3 v4 V5 ⟨HB5, HQ5, HZ5, HB2.out.size⟩) (by kernel_rfl) (by kernel_rfl)
          · go_simp
            obtain ⟨V2, hV2⟩ : ∃ x, x = V1.alloc (woZ) := ⟨_, rfl⟩
            rw [← hV2]
            have hb2 : Below V1.heap.size V1 V2 := by rw [hV2]; exact (Below.refl _ _).alloc (Nat.le_refl _) _
            have HB2 : Hid (Below w1.heap.size w1 V2) := HB1.out.trans (hb2.mono HB1.out.size)
            have HO2 := Sb.hide (own_keep HO1.out (fun b hb => hb2.block b (HO1.out.lt b hb).2))
            have HZ2 : Hid (V2.heap[V1.heap.size]? = some woZ) := by unfold Hid; rw [hV2]; exact heap_alloc_new _ _
            have hsz2 : V1.heap.size < V2.heap.size := by rw [hV2]; simp
            clear hV2 hb2
            refine hK.out _ _ (HS.out V2 HB2.out) (fun hHeld => ?_)
            clear hK K
            refine wpAnyH_ready (rs := [3, 10]) (by kernel_rfl) (by simp) ?_
            refine AllReadyH.cons (o := _) rfl (fun K hK => ?_) (AllReadyH.cons (o := _) rfl (fun K hK => ?_) AllReadyH.nil)
            · refine step_append_src rfl (.tmp 41) (.tmp 42) 26 rfl w1.heap.size 41 i0 _ 2 16 Tryz.underlying26 hi hz0 hz1 hz2 rfl (by decide) _ 0 [] rfl HO2.out a N cap (pkCells ps) rfl (by rw [HN.out]; exact pk_none HPS.out) (by rw [HN.out]; exact fm_len pkc 2 (fun _ => rfl) ps) (pk_src (HPB.out _ HB2.out)) (pks_one ps) (by unfold maxLen; omega) (by omega) HB2.out.size ?_
              intro v3 V3 hown hgr
              have hgr2 : V2.grownBy V3 (some (V0.heap.size)) := hgr
              have hlt := HO2.out.lt (V0.heap.size) rfl
              have HB3 : Hid (Below w1.heap.size w1 V3) := HB2.out.grown hgr2 HB2.out.size (fun b hb => by cases hb; exact hlt.1)
              have HR3 : Hid (V3.ownsRow w1.heap.size 41 2 v3 N (pkCells ps)) := by have := hown; rw [Nat.zero_add, List.nil_append] at this; exact this
              have HZ3 := Sb.hide ((hgr2.block _ (lt_of_block HZ2.out) (by simp; omega)).trans HZ2.out)
              have hsz3 := hgr2.size
              clear hown hgr hgr2 hlt
              refine hK.out _ _ (HS.out V3 HB3.out) (fun hHeld => ?_)
              clear hK K
              refine wpAnyH_ready (rs := [10]) (by kernel_rfl) (by simp) ?_
              refine AllReadyH.cons (o := _) rfl (fun K hK => ?_) AllReadyH.nil
              go_simp
              obtain ⟨V4, hV4⟩ : ∃ x, x = V3.alloc (.cells #[.int .i64 task, .int .i64 one, .int .i64 task, .int .i64 two] 41) := ⟨_, rfl⟩
              rw [← hV4]
              have hb4 : Below V3.heap.size V3 V4 := by rw [hV4]; exact (Below.refl _ _).alloc (Nat.le_refl _) _
              have HB4 : Hid (Below w1.heap.size w1 V4) := HB3.out.trans (hb4.mono HB3.out.size)
              have HR4 := Sb.hide (own_keep HR3.out (fun b hb => hb4.block b (HR3.out.lt b hb).2))
              have HZ4 := Sb.hide ((hb4.block _ (lt_of_block HZ3.out)).trans HZ3.out)
              have HP4 : Hid (V4.heap[V3.heap.size]? = some (.cells #[.int .i64 task, .int .i64 one, .int .i64 task, .int .i64 two] 41 (0, 0))) := by unfold Hid; rw [hV4]; exact heap_alloc_new _ _
              have hsz4 : V3.heap.size < V4.heap.size := by rw [hV4]; simp
              clear hV4 hb4
              refine hK.out _ _ (HS.out V4 HB4.out) (fun hHeld => ?_)
              clear hK K
              refine wpAnyH_ready (rs := [11]) (by kernel_rfl) (by simp) ?_
              refine AllReadyH.cons (o := _) rfl (fun K hK => ?_) AllReadyH.nil
              have hnw : ∀ ad, some (⟨V3.heap.size, 0, none⟩ : Addr) = some ad → ∀ j u, (pkCells [(⟨task, one⟩ : Pk), ⟨task, two⟩])[j]? = some u → V4.cell? (ad.add j) = some u := fun ad e j u hu => by cases e; exact pk_lit HP4.out j u hu
              refine step_append_src rfl (.tmp 43) (.tmp 50) 26 rfl w1.heap.size 41 i0 _ 2 16 Tryz.underlying26 hi hz0 hz1 hz2 rfl (by decide) v3 N (pkCells ps) rfl HR4.out (some ⟨V3.heap.size, 0, none⟩) 2 2 (pkCells [(⟨task, one⟩ : Pk), ⟨task, two⟩]) rfl (fun e => by cases e) rfl hnw (pks_one _) (by unfold maxLen; omega) (by omega) HB4.out.size ?_
              intro v4 V5 hown hgr
              have HB5 : Hid (Below w1.heap.size w1 V5) := HB4.out.grown hgr HB4.out.size (fun b hb => (HR4.out.lt b hb).1)
              have HQ5 : Hid (V5.ownsRow w1.heap.size 41 2 v4 pl1.length (pkCells pl1)) := by rw [HPL1.out]; exact pk_more HN.out hown rfl
              have HZ5 := Sb.hide ((hgr.block _ (lt_of_block HZ4.out) (fun e => ty_ne HR4.out HZ4.out (by decide) e.symm)).trans HZ4.out)
              have hsz5 := hgr.size
              clear hown hgr hnw
              refine hK.out _ _ (HS.out V5 HB5.out) (fun hHeld => ?_)
              clear hK K
              exact wpAnyH_at (TAIL1 (V0.heap.size) (V3.heap.size) (V1.heap.size) v3 v4 V5 ⟨HB5, HQ5, HZ5, HB1.out.size⟩) (by kernel_rfl) (by kernel_rfl)
            · go_simp
              obtain ⟨V3, hV3⟩ : ∃ x, x = V2.alloc (.cells #[.int .i64 task, .int .i64 one, .int .i64 task, .int .i64 two] 41) := ⟨_, rfl⟩
              rw [← hV3]
              have hb3 : Below V2.heap.size V2 V3 := by rw [hV3]; exact (Below.refl _ _).alloc (Nat.le_refl _) _
              have HB3 : Hid (Below w1.heap.size w1 V3) := HB2.out.trans (hb3.mono HB2.out.size)
              have HO3 := Sb.hide (own_keep HO2.out (fun b hb => hb3.block b (HO2.out.lt b hb).2))
              have HZ3 := Sb.hide ((hb3.block _ (lt_of_block HZ2.out)).trans HZ2.out)
              have HP3 : Hid (V3.heap[V2.heap.size]? = some (.cells #[.int .i64 task, .int .i64 one, .int .i64 task, .int .i64 two] 41 (0, 0))) := by unfold Hid; rw [hV3]; exact heap_alloc_new _ _
              have hsz3 : V2.heap.size < V3.heap.size := by rw [hV3]; simp
              clear hV3 hb3
              refine hK.out _ _ (HS.out V3 HB3.out) (fun hHeld => ?_)
              clear hK K
              refine wpAnyH_ready (rs := [3]) (by kernel_rfl) (by simp) ?_
              refine AllReadyH.cons (o := _) rfl (fun K hK => ?_) AllReadyH.nil
              refine step_append_src rfl (.tmp 41) (.tmp 42) 26 rfl w1.heap.size 41 i0 _ 2 16 Tryz.underlying26 hi hz0 hz1 hz2 rfl (by decide) _ 0 [] rfl HO3.out a N cap (pkCells ps) rfl (by rw [HN.out]; exact pk_none HPS.out) (by rw [HN.out]; exact fm_len pkc 2 (fun _ => rfl) ps) (pk_src (HPB.out _ HB3.out)) (pks_one ps) (by unfold maxLen; omega) (by omega) HB3.out.size ?_
              intro v3 V4 hown hgr
              have hgr2 : V3.grownBy V4 (some (V0.heap.size)) := hgr
              have hlt := HO3.out.lt (V0.heap.size) rfl
              have HB4 : Hid (Below w1.heap.size w1 V4) := HB3.out.grown hgr2 HB3.out.size (fun b hb => by cases hb; exact hlt.1)
              have HR4 : Hid (V4.ownsRow w1.heap.size 41 2 v3 N (pkCells ps)) := by have := hown; rw [Nat.zero_add, List.nil_append] at this; exact this
              have HP4 := Sb.hide ((hgr2.block _ (lt_of_block HP3.out) (by simp; omega)).trans HP3.out)
              have HZ4 := Sb.hide ((hgr2.block _ (lt_of_block HZ3.out) (by simp; omega)).trans HZ3.out)
              have hsz4 := hgr2.size
              clear hown hgr hgr2 hlt
              refine hK.out _ _ (HS.out V4 HB4.out) (fun hHeld => ?_)
              clear hK K
              refine wpAnyH_ready (rs := [11]) (by kernel_rfl) (by simp) ?_
              refine AllReadyH.cons (o := _) rfl (fun K hK => ?_) AllReadyH.nil
              have hnw : ∀ ad, some (⟨V2.heap.size, 0, none⟩ : Addr) = some ad → ∀ j u, (pkCells [(⟨task, one⟩ : Pk), ⟨task, two⟩])[j]? = some u → V4.cell? (ad.add j) = some u := fun ad e j u hu => by cases e; exact pk_lit HP4.out j u hu
              refine step_append_src rfl (.tmp 43) (.tmp 50) 26 rfl w1.heap.size 41 i0 _ 2 16 Tryz.underlying26 hi hz0 hz1 hz2 rfl (by decide) v3 N (pkCells ps) rfl HR4.out (some ⟨V2.heap.size, 0, none⟩) 2 2 (pkCells [(⟨task, one⟩ : Pk), ⟨task, two⟩]) rfl (fun e => by cases e) rfl hnw (pks_one _) (by unfold maxLen; omega) (by omega) HB4.out.size ?_
              intro v4 V5 hown hgr
              have HB5 : Hid (Below w1.heap.size w1 V5) := HB4.out.grown hgr HB4.out.size (fun b hb => (HR4.out.lt b hb).1)
              have HQ5 : Hid (V5.ownsRow w1.heap.size 41 2 v4 pl1.length (pkCells pl1)) := by rw [HPL1.out]; exact pk_more HN.out hown rfl
              have HZ5 := Sb.hide ((hgr.block _ (lt_of_block HZ4.out) (fun e => ty_ne HR4.out HZ4.out (by decide) e.symm)).trans HZ4.out)
              have hsz5 := hgr.size
              clear hown hgr hnw
              refine hK.out _ _ (HS.out V5 HB5.out) (fun hHeld => ?_)
              clear hK K
              exact wpAnyH_at (TAIL1 (V0.heap.size) (V2.heap.size) (V1.heap.size) v3 v4 V5 ⟨HB5, HQ5, HZ5, HB1.out.size⟩) (by kernel_rfl) (by kernel_rfl)
        · go_simp
          obtain ⟨V1, hV1⟩ : ∃ x, x = V0.alloc (.cells #[.int .i64 task, .int .i64 one, .int .i64 task, .int .i64 two] 41) := ⟨_, rfl⟩
          rw [← hV1]
          have hb1 : Below V0.heap.size V0 V1 := by rw [hV1]; exact (Below.refl _ _).alloc (Nat.le_refl _) _
          have HB1 : Hid (Below w1.heap.size w1 V1) := HB0.out.trans (hb1.mono HB0.out.size)
          have HP1 : Hid (V1.heap[V0.heap.size]? = some (.cells #[.int .i64 task, .int .i64 one, .int .i64 task, .int .i64 two] 41 (0, 0))) := by unfold Hid; rw [hV1]; exact heap_alloc_new _ _
          have hsz1 : V0.heap.size < V1.heap.size := by rw [hV1]; simp
          clear hV1 hb1
          refine hK.out _ _ (HS.out V1 HB1.out) (fun hHeld => ?_)
          clear hK K
          refine wpAnyH_ready (rs := [1, 17]) (by kernel_rfl) (by simp) ?_
          refine AllReadyH.cons (o := _) rfl (fun K hK => ?_) (AllReadyH.cons (o := _) rfl (fun K hK => ?_) AllReadyH.nil)
          · go_simp
            obtain ⟨V2, hV2⟩ : ∃ x, x = V1.alloc (.cells #[] 41) := ⟨_, rfl⟩
            rw [← hV2]
            have hb2 : Below V1.heap.size V1 V2 := by rw [hV2]; exact (Below.refl _ _).alloc (Nat.le_refl _) _
            have HB2 : Hid (Below w1.heap.size w1 V2) := HB1.out.trans (hb2.mono HB1.out.size)
            have HP2 := Sb.hide ((hb2.block _ (lt_of_block HP1.out)).trans HP1.out)
            have HO2 : Hid (V2.ownsRow w1.heap.size 41 2 (.slice (some ⟨V1.heap.size, 0, none⟩) 0 0) 0 []) := by unfold Hid; rw [hV2]; exact own_empty V1 41 HB1.out.size 2
            have hsz2 : V1.heap.size < V2.heap.size := by rw [hV2]; simp
            clear hV2 hb2
            refine hK.out _ _ (HS.out V2 HB2.out) (fun hHeld => ?_)
            clear hK K
            refine wpAnyH_ready (rs := [3, 17]) (by kernel_rfl) (by simp) ?_
            refine AllReadyH.cons (o := _) rfl (fun K hK => ?_) (AllReadyH.cons (o := _) rfl (fun K hK => ?_) AllReadyH.nil)
            · refine step_append_src rfl (.tmp 41) (.tmp 42) 26 rfl w1.heap.size 41 i0 _ 2 16 Tryz.underlying26 hi hz0 hz1 hz2 rfl (by decide) _ 0 [] rfl HO2.out a N cap (pkCells ps) rfl (by rw [HN.out]; exact pk_none HPS.out) (by rw [HN.out]; exact fm_len pkc 2 (fun _ => rfl) ps) (pk_src (HPB.out _ HB2.out)) (pks_one ps) (by unfold maxLen; omega) (by omega) HB2.out.size ?_
              intro v3 V3 hown hgr
              have hgr2 : V2.grownBy V3 (some (V1.heap.size)) := hgr
              have hlt := HO2.out.lt (V1.heap.size) rfl
              have HB3 : Hid (Below w1.heap.size w1 V3) := HB2.out.grown hgr2 HB2.out.size (fun b hb => by cases hb; exact hlt.1)
              have HR3 : Hid (V3.ownsRow w1.heap.size 41 2 v3 N (pkCells ps)) := by have := hown; rw [Nat.zero_add, List.nil_append] at this; exact this
              have HP3 := Sb.hide ((hgr2.block _ (lt_of_block HP2.out) (by simp; omega)).trans HP2.out)
              have hsz3 := hgr2.size
              clear hown hgr hgr2 hlt
              refine hK.out _ _ (HS.out V3 HB3.out) (fun hHeld => ?_)
              clear hK K
              refine wpAnyH_ready (rs := [11, 17]) (by kernel_rfl) (by simp) ?_
              refine AllReadyH.cons (o := _) rfl (fun K hK => ?_) (AllReadyH.cons (o := _) rfl (fun K hK => ?_) AllReadyH.nil)
              · have hnw : ∀ ad, some (⟨V0.heap.size, 0, none⟩ : Addr) = some ad → ∀ j u, (pkCells [(⟨task, one⟩ : Pk), ⟨task, two⟩])[j]? = some u → V3.cell? (ad.add j) = some u := fun ad e j u hu => by cases e; exact pk_lit HP3.out j u hu
                refine step_append_src rfl (.tmp 43) (.tmp 50) 26 rfl w1.heap.size 41 i0 _ 2 16 Tryz.underlying26 hi hz0 hz1 hz2 rfl (by decide) v3 N (pkCells ps) rfl HR3.out (some ⟨V0.heap.size, 0, none⟩) 2 2 (pkCells [(⟨task, one⟩ : Pk), ⟨task, two⟩]) rfl (fun e => by cases e) rfl hnw (pks_one _) (by unfold maxLen; omega) (by omega) HB3.out.size ?_
                intro v4 V4 hown hgr
                have HB4 : Hid (Below w1.heap.size w1 V4) := HB3.out.grown hgr HB3.out.size (fun b hb => (HR3.out.lt b hb).1)
                have HQ4 : Hid (V4.ownsRow w1.heap.size 41 2 v4 pl1.length (pkCells pl1)) := by rw [HPL1.out]; exact pk_more HN.out hown rfl
                have hsz4 := hgr.size
                clear hown hgr hnw
                refine hK.out _ _ (HS.out V4 HB4.out) (fun hHeld => ?_)
                clear hK K
                exact wpAnyH_at (TAIL2 (V1.heap.size) (V0.heap.size) v3 v4 V4 ⟨HB4, HQ4⟩) (by kernel_rfl) (by kernel_rfl)
              · go_simp
                obtain ⟨V4, hV4⟩ : ∃ x, x = V3.alloc (woZ) := ⟨_, rfl⟩
                rw [← hV4]
                have hb4 : Below V3.heap.size V3 V4 := by rw [hV4]; exact (Below.refl _ _).alloc (Nat.le_refl _) _
                have HB4 : Hid (Below w1.heap.size w1 V4) := HB3.out.trans (hb4.mono HB3.out.size)
                have HR4 := Sb.hide (own_keep HR3.out (fun b hb => hb4.block b (HR3.out.lt b hb).2))
                have HP4 := Sb.hide ((hb4.block _ (lt_of_block HP3.out)).trans HP3.out)
                have HZ4 : Hid (V4.heap[V3.heap.size]? = some woZ) := by unfold Hid; rw [hV4]; exact heap_alloc_new _ _
                have hsz4 : V3.heap.size < V4.heap.size := by rw [hV4]; simp
                clear hV4 hb4
                refine hK.out _ _ (HS.out V4 HB4.out) (fun hHeld => ?_)
                clear hK K
                refine wpAnyH_ready (rs := [11]) (by kernel_rfl) (by simp) ?_
                refine AllReadyH.cons (o := _) rfl (fun K hK => ?_) AllReadyH.nil
                have hnw : ∀ ad, some (⟨V0.heap.size, 0, none⟩ : Addr) = some ad → ∀ j u, (pkCells [(⟨task, one⟩ : Pk), ⟨task, two⟩])[j]? = some u → V4.cell? (ad.add j) = some u := fun ad e j u hu => by cases e; exact pk_lit HP4.out j u hu
                refine step_append_src rfl (.tmp 43) (.tmp 50) 26 rfl w1.heap.size 41 i0 _ 2 16 Tryz.underlying26 hi hz0 hz1 hz2 rfl (by decide) v3 N (pkCells ps) rfl HR4.out (some ⟨V0.heap.size, 0, none⟩) 2 2 (pkCells [(⟨task, one⟩ : Pk), ⟨task, two⟩]) rfl (fun e => by cases e) rfl hnw (pks_one _) (by unfold maxLen; omega) (by omega) HB4.out.size ?_
                intro v4 V5 hown hgr
                have HB5 : Hid (Below w1.heap.size w1 V5) := HB4.out.grown hgr HB4.out.size (fun b hb => (HR4.out.lt b hb).1)
                have HQ5 : Hid (V5.ownsRow w1.heap.size 41 2 v4 pl1.length (pkCells pl1)) := by rw [HPL1.out]; exact pk_more HN.out hown rfl
                have HZ5 := Sb.hide ((hgr.block _ (lt_of_block HZ4.out) (fun e => ty_ne HR4.out HZ4.out (by decide) e.symm)).trans HZ4.out)
                have hsz5 := hgr.size
                clear hown hgr hnw
                refine hK.out _ _ (HS.out V5 HB5.out) (fun hHeld => ?_)
                clear hK K
                exact wpAnyH_at (TAIL1 (V1.heap.size) (V0.heap.size) (V3.heap.size) v3 v4 V5 ⟨HB5, HQ5, HZ5, HB3.out.size⟩) (by kernel_rfl) (by kernel_rfl)
            · go_simp
              obtain ⟨V3, hV3⟩ : ∃ x, x = V2.alloc (woZ) := ⟨_, rfl⟩
              rw [← hV3]
              have hb3 : Below V2.heap.size V2 V3 := by rw [hV3]; exact (Below.refl _ _).alloc (Nat.le_refl _) _
              have HB3 : Hid (Below w1.heap.size w1 V3) := HB2.out.trans (hb3.mono HB2.out.size)
              have HO3 := Sb.hide (own_keep HO2.out (fun b hb => hb3.block b (HO2.out.lt b hb).2))
              have HP3 := Sb.hide ((hb3.block _ (lt_of_block HP2.out)).trans HP2.out)
              have HZ3 : Hid (V3.heap[V2.heap.size]? = some woZ) := by unfold Hid; rw [hV3]; exact heap_alloc_new _ _
              have hsz3 : V2.heap.size < V3.heap.size := by rw [hV3]; simp
              clear hV3 hb3
              refine hK.out _ _ (HS.out V3 HB3.out) (fun hHeld => ?_)
              clear hK K
              refine wpAnyH_ready (rs := [3]) (by kernel_rfl) (by simp) ?_
              refine AllReadyH.cons (o := _) rfl (fun K hK => ?_) AllReadyH.nil
              refine step_append_src rfl (.tmp 41) (.tmp 42) 26 rfl w1.heap.size 41 i0 _ 2 16 Tryz.underlying26 hi hz0 hz1 hz2 rfl (by decide) _ 0 [] rfl HO3.out a N cap (pkCells ps) rfl (by rw [HN.out]; exact pk_none HPS.out) (by rw [HN.out]; exact fm_len pkc 2 (fun _ => rfl) ps) (pk_src (HPB.out _ HB3.out)) (pks_one ps) (by unfold maxLen; omega) (by omega) HB3.out.size ?_
              intro v3 V4 hown hgr
              have hgr2 : V3.grownBy V4 (some (V1.heap.size)) := hgr
              have hlt := HO3.out.lt (V1.heap.size) rfl
              have HB4 : Hid (Below w1.heap.size w1 V4) := HB3.out.grown hgr2 HB3.out.size (fun b hb => by cases hb; exact hlt.1)
              have HR4 : Hid (V4.ownsRow w1.heap.size 41 2 v3 N (pkCells ps)) := by have := hown; rw [Nat.zero_add, List.nil_append] at this; exact this
              have HP4 := Sb.hide ((hgr2.block _ (lt_of_block HP3.out) (by simp; omega)).trans HP3.out)
              have HZ4 := Sb.hide ((hgr2.block _ (lt_of_block HZ3.out) (by simp; omega)).trans HZ3.out)
              have hsz4 := hgr2.size
              clear hown hgr hgr2 hlt
              refine hK.out _ _ (HS.out V4 HB4.out) (fun hHeld => ?_)
              clear hK K
              refine wpAnyH_ready (rs := [11]) (by kernel_rfl) (by simp) ?_
              refine AllReadyH.cons (o := _) rfl (fun K hK => ?_) AllReadyH.nil
              have hnw : ∀ ad, some (⟨V0.heap.size, 0, none⟩ : Addr) = some ad → ∀ j u, (pkCells [(⟨task, one⟩ : Pk), ⟨task, two⟩])[j]? = some u → V4.cell? (ad.add j) = some u := fun ad e j u hu => by cases e; exact pk_lit HP4.out j u hu
              refine step_append_src rfl (.tmp 43) (.tmp 50) 26 rfl w1.heap.size 41 i0 _ 2 16 Tryz.underlying26 hi hz0 hz1 hz2 rfl (by decide) v3 N (pkCells ps) rfl HR4.out (some ⟨V0.heap.size, 0, none⟩) 2 2 (pkCells [(⟨task, one⟩ : Pk), ⟨task, two⟩]) rfl (fun e => by cases e) rfl hnw (pks_one _) (by unfold maxLen; omega) (by omega) HB4.out.size ?_
              intro v4 V5 hown hgr
              have HB5 : Hid (Below w1.heap.size w1 V5) := HB4.out.grown hgr HB4.out.size (fun b hb => (HR4.out.lt b hb).1)
              have HQ5 : Hid (V5.ownsRow w1.heap.size 41 2 v4 pl1.length (pkCells pl1)) := by rw [HPL1.out]; exact pk_more HN.out hown rfl
              have HZ5 := Sb.hide ((hgr.block _ (lt_of_block HZ4.out) (fun e => ty_ne HR4.out HZ4.out (by decide) e.symm)).trans HZ4.out)
              have hsz5 := hgr.size
              clear hown hgr hnw
              refine hK.out _ _ (HS.out V5 HB5.out) (fun hHeld => ?_)
              clear hK K
              exact wpAnyH_at (TAIL1 (V1.heap.size) (V0.heap.size) (V2.heap.size) v3 v4 V5 ⟨HB5, HQ5, HZ5, HB2.out.size⟩) (by kernel_rfl) (by kernel_rfl)
          · go_simp
            obtain ⟨V2, hV2⟩ : ∃ x, x = V1.alloc (woZ) := ⟨_, rfl⟩
            rw [← hV2]
            have hb2 : Below V1.heap.size V1 V2 := by rw [hV2]; exact (Below.refl _ _).alloc (Nat.le_refl _) _
            have HB2 : Hid (Below w1.heap.size w1 V2) := HB1.out.trans (hb2.mono HB1.out.size)
            have HP2 := Sb.hide ((hb2.block _ (lt_of_block HP1.out)).trans HP1.out)
            have HZ2 : Hid (V2.heap[V1.heap.size]? = some woZ) := by unfold Hid; rw [hV2]; exact heap_alloc_new _ _
            have hsz2 : V1.heap.size < V2.heap.size := by rw [hV2]; simp
            clear hV2 hb2
            refine hK.out _ _ (HS.out V2 HB2.out) (fun hHeld => ?_)
            clear hK K
            refine wpAnyH_ready (rs := [1]) (by kernel_rfl) (by simp) ?_
            refine AllReadyH.cons (o := _) rfl (fun K hK => ?_) AllReadyH.nil
            go_simp
            obtain ⟨V3, hV3⟩ : ∃ x, x = V2.alloc (.cells #[] 41) := ⟨_, rfl⟩
            rw [← hV3]
            have hb3 : Below V2.heap.size V2 V3 := by rw [hV3]; exact (Below.refl _ _).alloc (Nat.le_refl _) _
            have HB3 : Hid (Below w1.heap.size w1 V3) := HB2.out.trans (hb3.mono HB2.out.size)
            have HP3 := Sb.hide ((hb3.block _ (lt_of_block HP2.out)).trans HP2.out)
            have HZ3 := Sb.hide ((hb3.block _ (lt_of_block HZ2.out)).trans HZ2.out)
            have HO3 : Hid (V3.ownsRow w1.heap.size 41 2 (.slice (some ⟨V2.heap.size, 0, none⟩) 0 0) 0 []) := by unfold Hid; rw [hV3]; exact own_empty V2 41 HB2.out.size 2
            have hsz3 : V2.heap.size < V3.heap.size := by rw [hV3]; simp
            clear hV3 hb3
            refine hK.out _ _ (HS.out V3 HB3.out) (fun hHeld => ?_)
            clear hK K
            refine wpAnyH_ready (rs := [3]) (by kernel_rfl) (by simp) ?_
            refine AllReadyH.cons (o := _) rfl (fun K hK => ?_) AllReadyH.nil
            refine step_append_src rfl (.tmp 41) (.tmp 42) 26 rfl w1.heap.size 41 i0 _ 2 16 Tryz.underlying26 hi hz0 hz1 hz2 rfl (by decide) _ 0 [] rfl HO3.out a N cap (pkCells ps) rfl (by rw [HN.out]; exact pk_none HPS.out) (by rw [HN.out]; exact fm_len pkc 2 (fun _ => rfl) ps) (pk_src (HPB.out _ HB3.out)) (pks_one ps) (by unfold maxLen; omega) (by omega) HB3.out.size ?_
            intro v3 V4 hown hgr
            have hgr2 : V3.grownBy V4 (some (V2.heap.size)) := hgr
            have hlt := HO3.out.lt (V2.heap.size) rfl
            have HB4 : Hid (Below w1.heap.size w1 V4) := HB3.out.grown hgr2 HB3.out.size (fun b hb => by cases hb; exact hlt.1)
            have HR4 : Hid (V4.ownsRow w1.heap.size 41 2 v3 N (pkCells ps)) := by have := hown; rw [Nat.zero_add, List.nil_append] at this; exact this
            have HP4 := Sb.hide ((hgr2.block _ (lt_of_block HP3.out) (by simp; omega)).trans HP3.out)
            have HZ4 := Sb.hide ((hgr2.block _ (lt_of_block HZ3.out) (by simp; omega)).trans HZ3.out)
            have hsz4 := hgr2.size
            clear hown hgr hgr2 hlt
            refine hK.out _ _ (HS.out V4 HB4.out) (fun hHeld => ?_)
            clear hK K
            refine wpAnyH_ready (rs := [11]) (by kernel_rfl) (by simp) ?_
            refine AllReadyH.cons (o := _) rfl (fun K hK => ?_) AllReadyH.nil
            have hnw : ∀ ad, some (⟨V0.heap.size, 0, none⟩ : Addr) = some ad → ∀ j u, (pkCells [(⟨task, one⟩ : Pk), ⟨task, two⟩])[j]? = some u → V4.cell? (ad.add j) = some u := fun ad e j u hu => by cases e; exact pk_lit HP4.out j u hu
            refine step_append_src rfl (.tmp 43) (.tmp 50) 26 rfl w1.heap.size 41 i0 _ 2 16 Tryz.underlying26 hi hz0 hz1 hz2 rfl (by decide) v3 N (pkCells ps) rfl HR4.out (some ⟨V0.heap.size, 0, none⟩) 2 2 (pkCells [(⟨task, one⟩ : Pk), ⟨task, two⟩]) rfl (fun e => by cases e) rfl hnw (pks_one _) (by unfold maxLen; omega) (by omega) HB4.out.size ?_
            intro v4 V5 hown hgr
            have HB5 : Hid (Below w1.heap.size w1 V5) := HB4.out.grown hgr HB4.out.size (fun b hb => (HR4.out.lt b hb).1)
            have HQ5 : Hid (V5.ownsRow w1.heap.size 41 2 v4 pl1.length (pkCells pl1)) := by rw [HPL1.out]; exact pk_more HN.out hown rfl
            have HZ5 := Sb.hide ((hgr.block _ (lt_of_block HZ4.out) (fun e => ty_ne HR4.out HZ4.out (by decide) e.symm)).trans HZ4.out)
            have hsz5 := hgr.size
            clear hown hgr hnw
            refine hK.out _ _ (HS.out V5 HB5.out) (fun hHeld => ?_)
            clear hK K
            exact wpAnyH_at (TAIL1 (V2.heap.size) (V0.heap.size) (V1.heap.size) v3 v4 V5 ⟨HB5, HQ5, HZ5, HB1.out.size⟩) (by kernel_rfl) (by kernel_rfl)
        · go_simp
          obtain ⟨V1, hV1⟩ : ∃ x, x = V0.alloc (woZ) := ⟨_, rfl⟩
          rw [← hV1]
          have hb1 : Below V0.heap.size V0 V1 := by rw [hV1]; exact (Below.refl _ _).alloc (Nat.le_refl _) _
          have HB1 : Hid (Below w1.heap.size w1 V1) := HB0.out.trans (hb1.mono HB0.out.size)
          have HZ1 : Hid (V1.heap[V0.heap.size]? = some woZ) := by unfold Hid; rw [hV1]; exact heap_alloc_new _ _
          have hsz1 : V0.heap.size < V1.heap.size := by rw [hV1]; simp
          clear hV1 hb1
          refine hK.out _ _ (HS.out V1 HB1.out) (fun hHeld => ?_)
          clear hK K
          refine wpAnyH_ready (rs := [1, 10]) (by kernel_rfl) (by simp) ?_
          refine AllReadyH.cons (o := _) rfl (fun K hK => ?_) (AllReadyH.cons (o := _) rfl (fun K hK => ?_) AllReadyH.nil)
          · go_simp
            obtain ⟨V2, hV2⟩ : ∃ x, x = V1.alloc (.cells #[] 41) := ⟨_, rfl⟩
            rw [← hV2]
            have hb2 : Below V1.heap.size V1 V2 := by rw [hV2]; exact (Below.refl _ _).alloc (Nat.le_refl _) _
            have HB2 : Hid (Below w1.heap.size w1 V2) := HB1.out.trans (hb2.mono HB1.out.size)
            have HZ2 := Sb.hide ((hb2.block _ (lt_of_block HZ1.out)).trans HZ1.out)
            have HO2 : Hid (V2.ownsRow w1.heap.size 41 2 (.slice (some ⟨V1.heap.size, 0, none⟩) 0 0) 0 []) := by unfold Hid; rw [hV2]; exact own_empty V1 41 HB1.out.size 2
            have hsz2 : V1.heap.size < V2.heap.size := by rw [hV2]; simp
            clear hV2 hb2
            refine hK.out _ _ (HS.out V2 HB2.out) (fun hHeld => ?_)
            clear hK K
            refine wpAnyH_ready (rs := [3, 10]) (by kernel_rfl) (by simp) ?_
            refine AllReadyH.cons (o := _) rfl (fun K hK => ?_) (AllReadyH.cons (o := _) rfl (fun K hK => ?_) AllReadyH.nil)
            · refine step_append_src rfl (.tmp 41) (.tmp 42) 26 rfl w1.heap.size 41 i0 _ 2 16 Tryz.underlying26 hi hz0 hz1 hz2 rfl (by decide) _ 0 [] rfl HO2.out a N cap (pkCells ps) rfl (by rw [HN.out]; exact pk_none HPS.out) (by rw [HN.out]; exact fm_len pkc 2 (fun _ => rfl) ps) (pk_src (HPB.out _ HB2.out)) (pks_one ps) (by unfold maxLen; omega) (by omega) HB2.out.size ?_
              intro v3 V3 hown hgr
              have hgr2 : V2.grownBy V3 (some (V1.heap.size)) := hgr
              have hlt := HO2.out.lt (V1.heap.size) rfl
              have HB3 : Hid (Below w1.heap.size w1 V3) := HB2.out.grown hgr2 HB2.out.size (fun b hb => by cases hb; exact hlt.1)
              have HR3 : Hid (V3.ownsRow w1.heap.size 41 2 v3 N (pkCells ps)) := by have := hown; rw [Nat.zero_add, List.nil_append] at this; exact this
              have HZ3 := Sb.hide ((hgr2.block _ (lt_of_block HZ2.out) (by simp; omega)).trans HZ2.out)
              have hsz3 := hgr2.size
              clear hown hgr hgr2 hlt
              refine hK.out _ _ (HS.out V3 HB3.out) (fun hHeld => ?_)
              clear hK K
              refine wpAnyH_ready (rs := [10]) (by kernel_rfl) (by simp) ?_
              refine AllReadyH.cons (o := _) rfl (fun K hK => ?_) AllReadyH.nil
              go_simp
              obtain ⟨V4, hV4⟩ : ∃ x, x = V3.alloc (.cells #[.int .i64 task, .int .i64 one, .int .i64 task, .int .i64 two] 41) := ⟨_, rfl⟩
              rw [← hV4]
              have hb4 : Below V3.heap.size V3 V4 := by rw [hV4]; exact (Below.refl _ _).alloc (Nat.le_refl _) _
              have HB4 : Hid (Below w1.heap.size w1 V4) := HB3.out.trans (hb4.mono HB3.out.size)
              have HR4 := Sb.hide (own_keep HR3.out (fun b hb => hb4.block b (HR3.out.lt b hb).2))
              have HZ4 := Sb.hide ((hb4.block _ (lt_of_block HZ3.out)).trans HZ3.out)
              have HP4 : Hid (V4.heap[V3.heap.size]? = some (.cells #[.int .i64 task, .int .i64 one, .int .i64 task, .int .i64 two] 41 (0, 0))) := by unfold Hid; rw [hV4]; exact heap_alloc_new _ _
              have hsz4 : V3.heap.size < V4.heap.size := by rw [hV4]; simp
              clear hV4 hb4
              refine hK.out _ _ (HS.out V4 HB4.out) (fun hHeld => ?_)
              clear hK K
              refine wpAnyH_ready (rs := [11]) (by kernel_rfl) (by simp) ?_
              refine AllReadyH.cons (o := _) rfl (fun K hK => ?_) AllReadyH.nil
              have hnw : ∀ ad, some (⟨V3.heap.size, 0, none⟩ : Addr) = some ad → ∀ j u, (pkCells [(⟨task, one⟩ : Pk), ⟨task, two⟩])[j]? = some u → V4.cell? (ad.add j) = some u := fun ad e j u hu => by cases e; exact pk_lit HP4.out j u hu
              refine step_append_src rfl (.tmp 43) (.tmp 50) 26 rfl w1.heap.size 41 i0 _ 2 16 Tryz.underlying26 hi hz0 hz1 hz2 rfl (by decide) v3 N (pkCells ps) rfl HR4.out (some ⟨V3.heap.size, 0, none⟩) 2 2 (pkCells [(⟨task, one⟩ : Pk), ⟨task, two⟩]) rfl (fun e => by cases e) rfl hnw (pks_one _) (by unfold maxLen; omega) (by omega) HB4.out.size ?_
              intro v4 V5 hown hgr
              have HB5 : Hid (Below w1.heap.size w1 V5) := HB4.out.grown hgr HB4.out.size (fun b hb => (HR4.out.lt b hb).1)
              have HQ5 : Hid (V5.ownsRow w1.heap.size 41 2 v4 pl1.length (pkCells pl1)) := by rw [HPL1.out]; exact pk_more HN.out hown rfl
              have HZ5 := Sb.hide ((hgr.block _ (lt_of_block HZ4.out) (fun e => ty_ne HR4.out HZ4.out (by decide) e.symm)).trans HZ4.out)
              have hsz5 := hgr.size
              clear hown hgr hnw
              refine hK.out _ _ (HS.out V5 HB5.out) (fun hHeld => ?_)
              clear hK K
              exact wpAnyH_at (TAIL1 (V1.heap.size) (V3.heap.size) (V0.heap.size) v3 v4 V5 ⟨HB5, HQ5, HZ5, HB0.out.size⟩) (by kernel_rfl) (by kernel_rfl)
            · go_simp
              obtain ⟨V3, hV3⟩ : ∃ x, x = V2.alloc (.cells #[.int .i64 task, .int .i64 one, .int .i64 task, .int .i64 two] 41) := ⟨_, rfl⟩
              rw [← hV3]
              have hb3 : Below V2.heap.size V2 V3 := by rw [hV3]; exact (Below.refl _ _).alloc (Nat.le_refl _) _
              have HB3 : Hid (Below w1.heap.size w1 V3) := HB2.out.trans (hb3.mono HB2.out.size)
              have HO3 := Sb.hide (own_keep HO2.out (fun b hb => hb3.block b (HO2.out.lt b hb).2))
              have HZ3 := Sb.hide ((hb3.block _ (lt_of_block HZ2.out)).trans HZ2.out)
              have HP3 : Hid (V3.heap[V2.heap.size]? = some (.cells #[.int .i64 task, .int .i64 one, .int .i64 task, .int .i64 two] 41 (0, 0))) := by unfold Hid; rw [hV3]; exact heap_alloc_new _ _
              have hsz3 : V2.heap.size < V3.heap.size := by rw [hV3]; simp
              clear hV3 hb3
              refine hK.out _ _ (HS.out V3 HB3.out) (fun hHeld => ?_)
              clear hK K
              refine wpAnyH_ready (rs := [3]) (by kernel_rfl) (by simp) ?_
              refine AllReadyH.cons (o := _) rfl (fun K hK => ?_) AllReadyH.nil
              refine step_append_src rfl (.tmp 41) (.tmp 42) 26 rfl w1.heap.size 41 i0 _ 2 16 Tryz.underlying26 hi hz0 hz1 hz2 rfl (by decide) _ 0 [] rfl HO3.out a N cap (pkCells ps) rfl (by rw [HN.out]; exact pk_none HPS.out) (by rw [HN.out]; exact fm_len pkc 2 (fun _ => rfl) ps) (pk_src (HPB.out _ HB3.out)) (pks_one ps) (by unfold maxLen; omega) (by omega) HB3.out.size ?_
              intro v3 V4 hown hgr
              have hgr2 : V3.grownBy V4 (some (V1.heap.size)) := hgr
              have hlt := HO3.out.lt (V1.heap.size) rfl
              have HB4 : Hid (Below w1.heap.size w1 V4) := HB3.out.grown hgr2 HB3.out.size (fun b hb => by cases hb; exact hlt.1)
              have HR4 : Hid (V4.ownsRow w1.heap.size 41 2 v3 N (pkCells ps)) := by have := hown; rw [Nat.zero_add, List.nil_append] at this; exact this
              have HP4 := Sb.hide ((hgr2.block _ (lt_of_block HP3.out) (by simp; omega)).trans HP3.out)
              have HZ4 := Sb.hide ((hgr2.block _ (lt_of_block HZ3.out) (by simp; omega)).trans HZ3.out)
              have hsz4 := hgr2.size
              clear hown hgr hgr2 hlt
              refine hK.out _ _ (HS.out V4 HB4.out) (fun hHeld => ?_)
              clear hK K
              refine wpAnyH_ready (rs := [11]) (by kernel_rfl) (by simp) ?_
              refine AllReadyH.cons (o := _) rfl (fun K hK => ?_) AllReadyH.nil
              have hnw : ∀ ad, some (⟨V2.heap.size, 0, none⟩ : Addr) = some ad → ∀ j u, (pkCells [(⟨task, one⟩ : Pk), ⟨task, two⟩])[j]? = some u → V4.cell? (ad.add j) = some u := fun ad e j u hu => by cases e; exact pk_lit HP4.out j u hu
              refine step_append_src rfl (.tmp 43) (.tmp 50) 26 rfl w1.heap.size 41 i0 _ 2 16 Tryz.underlying26 hi hz0 hz1 hz2 rfl (by decide) v3 N (pkCells ps) rfl HR4.out (some ⟨V2.heap.size, 0, none⟩) 2 2 (pkCells [(⟨task, one⟩ : Pk), ⟨task, two⟩]) rfl (fun e => by cases e) rfl hnw (pks_one _) (by unfold maxLen; omega) (by omega) HB4.out.size ?_
              intro v4 V5 hown hgr
              have HB5 : Hid (Below w1.heap.size w1 V5) := HB4.out.grown hgr HB4.out.size (fun b hb => (HR4.out.lt b hb).1)
              have HQ5 : Hid (V5.ownsRow w1.heap.size 41 2 v4 pl1.length (pkCells pl1)) := by rw [HPL1.out]; exact pk_more HN.out hown rfl
              have HZ5 := Sb.hide ((hgr.block _ (lt_of_block HZ4.out) (fun e => ty_ne HR4.out HZ4.out (by decide) e.symm)).trans HZ4.out)
              have hsz5 := hgr.size
              clear hown hgr hnw
              refine hK.out _ _ (HS.out V5 HB5.out) (fun hHeld => ?_)
              clear hK K
              exact wpAnyH_at (TAIL1 (V1.heap.size) (V2.heap.size) (V0.heap.size) v3 v4 V5 ⟨HB5, HQ5, HZ5, HB0.out.size⟩) (by kernel_rfl) (by kernel_rfl)
          · go_simp
            obtain ⟨V2, hV2⟩ : ∃ x, x = V1.alloc (.cells #[.int .i64 task, .int .i64 one, .int .i64 task, .int .i64 two] 41) := ⟨_, rfl⟩
            rw [← hV2]
            have hb2 : Below V1.heap.size V1 V2 := by rw [hV2]; exact (Below.refl _ _).alloc (Nat.le_refl _) _
            have HB2 : Hid (Below w1.heap.size w1 V2) := HB1.out.trans (hb2.mono HB1.out.size)
            have HZ2 := Sb.hide ((hb2.block _ (lt_of_block HZ1.out)).trans HZ1.out)
            have HP2 : Hid (V2.heap[V1.heap.size]? = some (.cells #[.int .i64 task, .int .i64 one, .int .i64 task, .int .i64 two] 41 (0, 0))) := by unfold Hid; rw [hV2]; exact heap_alloc_new _ _
            have hsz2 : V1.heap.size < V2.heap.size := by rw [hV2]; simp
            clear hV2 hb2
            refine hK.out _ _ (HS.out V2 HB2.out) (fun hHeld => ?_)
            clear hK K
            refine wpAnyH_ready (rs := [1]) (by kernel_rfl) (by simp) ?_
            refine AllReadyH.cons (o := _) rfl (fun K hK => ?_) AllReadyH.nil
            go_simp
            obtain ⟨V3, hV3⟩ : ∃ x, x = V2.alloc (.cells #[] 41) := ⟨_, rfl⟩
            rw [← hV3]
            have hb3 : Below V2.heap.size V2 V3 := by rw [hV3]; exact (Below.refl _ _).alloc (Nat.le_refl _) _
            have HB3 : Hid (Below w1.heap.size w1 V3) := HB2.out.trans (hb3.mono HB2.out.size)
            have HP3 := Sb.hide ((hb3.block _ (lt_of_block HP2.out)).trans HP2.out)
            have HZ3 := Sb.hide ((hb3.block _ (lt_of_block HZ2.out)).trans HZ2.out)
            have HO3 : Hid (V3.ownsRow w1.heap.size 41 2 (.slice (some ⟨V2.heap.size, 0, none⟩) 0 0) 0 []) := by unfold Hid; rw [hV3]; exact own_empty V2 41 HB2.out.size 2
            have hsz3 : V2.heap.size < V3.heap.size := by rw [hV3]; simp
            clear hV3 hb3
            refine hK.out _ _ (HS.out V3 HB3.out) (fun hHeld => ?_)
            clear hK K
            refine wpAnyH_ready (rs := [3]) (by kernel_rfl) (by simp) ?_
            refine AllReadyH.cons (o := _) rfl (fun K hK => ?_) AllReadyH.nil
            refine step_append_src rfl (.tmp 41) (.tmp 42) 26 rfl w1.heap.size 41 i0 _ 2 16 Tryz.underlying26 hi hz0 hz1 hz2 rfl (by decide) _ 0 [] rfl HO3.out a N cap (pkCells ps) rfl (by rw [HN.out]; exact pk_none HPS.out) (by rw [HN.out]; exact fm_len pkc 2 (fun _ => rfl) ps) (pk_src (HPB.out _ HB3.out)) (pks_one ps) (by unfold maxLen; omega) (by omega) HB3.out.size ?_
            intro v3 V4 hown hgr
            have hgr2 : V3.grownBy V4 (some (V2.heap.size)) := hgr
            have hlt := HO3.out.lt (V2.heap.size) rfl
            have HB4 : Hid (Below w1.heap.size w1 V4) := HB3.out.grown hgr2 HB3.out.size (fun b hb => by cases hb; exact hlt.1)
            have HR4 : Hid (V4.ownsRow w1.heap.size 41 2 v3 N (pkCells ps)) := by have := hown; rw [Nat.zero_add, List.nil_append] at this; exact this
            have HP4 := Sb.hide ((hgr2.block _ (lt_of_block HP3.out) (by simp; omega)).trans HP3.out)
            have HZ4 := Sb.hide ((hgr2.block _ (lt_of_block HZ3.out) (by simp; omega)).trans HZ3.out)
            have hsz4 := hgr2.size
            clear hown hgr hgr2 hlt
            refine hK.out _ _ (HS.out V4 HB4.out) (fun hHeld => ?_)
            clear hK K
            refine wpAnyH_ready (rs := [11]) (by kernel_rfl) (by simp) ?_
            refine AllReadyH.cons (o := _) rfl (fun K hK => ?_) AllReadyH.nil
            have hnw : ∀ ad, some (⟨V1.heap.size, 0, none⟩ : Addr) = some ad → ∀ j u, (pkCells [(⟨task, one⟩ : Pk), ⟨task, two⟩])[j]? = some u → V4.cell? (ad.add j) = some u := fun ad e j u hu => by cases e; exact pk_lit HP4.out j u hu
            refine step_append_src rfl (.tmp 43) (.tmp 50) 26 rfl w1.heap.size 41 i0 _ 2 16 Tryz.underlying26 hi hz0 hz1 hz2 rfl (by decide) v3 N (pkCells ps) rfl HR4.out (some ⟨V1.heap.size, 0, none⟩) 2 2 (pkCells [(⟨task, one⟩ : Pk), ⟨task, two⟩]) rfl (fun e => by cases e) rfl hnw (pks_one _) (by unfold maxLen; omega) (by omega) HB4.out.size ?_
            intro v4 V5 hown hgr
            have HB5 : Hid (Below w1.heap.size w1 V5) := HB4.out.grown hgr HB4.out.size (fun b hb => (HR4.out.lt b hb).1)
            have HQ5 : Hid (V5.ownsRow w1.heap.size 41 2 v4 pl1.length (pkCells pl1)) := by rw [HPL1.out]; exact pk_more HN.out hown rfl
            have HZ5 := Sb.hide ((hgr.block _ (lt_of_block HZ4.out) (fun e => ty_ne HR4.out HZ4.out (by decide) e.symm)).trans HZ4.out)
            have hsz5 := hgr.size
            clear hown hgr hnw
            refine hK.out _ _ (HS.out V5 HB5.out) (fun hHeld => ?_)
            clear hK K
            exact wpAnyH_at (TAIL1 (V2.heap.size) (V1.heap.size) (V0.heap.size) v3 v4 V5 ⟨HB5, HQ5, HZ5, HB0.out.size⟩) (by kernel_rfl) (by kernel_rfl)
      case tail =>
        rintro b41 b50 v3 v4 Vf ⟨HBf, HQf⟩
        refine wpAnyH_ready (rs := [12, 17]) (by kernel_rfl) (by simp) ?_
        refine AllReadyH.cons (o := _) rfl (fun K hK => ?_) (AllReadyH.cons (o := _) rfl (fun K hK => ?_) AllReadyH.nil)
        · obtain ⟨pa, pc, rfl, hpk⟩ := own_picks HQf.out
          go_simp
          refine (Run_any m ab au cb cu Vf.heap.size pl1 pa pc Vf (Sb.hide (HMB.out _ HBf.out)) (Sb.hide hpk) (Nat.le_refl _) E (Sb.hide (HWE.out _ hle1))).mono ?_
          rintro e Vg ⟨hbn, hr⟩
          obtain ⟨ea, na, ec, ba, nb, bc, da, dn, dc, st, rfl, hX⟩ := ran_form hr
          have HXg := Sb.hide (by rw [HPL1.out, ← HRA.out] at hX; exact hX)
          have HBg := Sb.hide (HBf.out.trans (hbn.mono HBf.out.size))
          clear hr hX hpk hbn
          refine hK.out _ _ (HS.out Vg HBg.out) (fun hHeld => ?_)
          clear hK K
          refine wpAnyH_take (i := 13) (oi := _) (v := ?_) rfl (by kernel_rfl) (by kernel_rfl) (by kernel_rfl) (fun _ _ _ h => h) (Or.inl ⟨by rfl, ?_⟩) (by assumption) ?_
          rotate_left
          · intro w hSw
            (try dsimp only at hSw)
            go_simp
            (try with_reducible rfl)
          (try go_frame)
          refine wpAnyH_take (i := 14) (oi := _) (v := ?_) rfl (by kernel_rfl) (by kernel_rfl) (by kernel_rfl) (fun _ _ _ h => h) (Or.inl ⟨by rfl, ?_⟩) (by assumption) ?_
          rotate_left
          · intro w hSw
            (try dsimp only at hSw)
            go_simp
            (try with_reducible rfl)
          (try go_frame)
          refine wpAnyH_take (i := 15) (oi := _) (v := ?_) rfl (by kernel_rfl) (by kernel_rfl) (by kernel_rfl) (fun _ _ _ h => h) (Or.inl ⟨by rfl, ?_⟩) (by assumption) ?_
          rotate_left
          · intro w hSw
            (try dsimp only at hSw)
            go_simp
            (try with_reducible rfl)
          (try go_frame)
          refine wpAnyH_take (i := 16) (oi := _) (v := ?_) rfl (by kernel_rfl) (by kernel_rfl) (by kernel_rfl) (fun _ _ _ h => h) (Or.inl ⟨by rfl, ?_⟩) (by assumption) ?_
          rotate_left
          · intro w hSw
            (try dsimp only at hSw)
            go_simp
            (try with_reducible rfl)
          (try go_frame)
          refine wpAnyH_ready (rs := [17]) (by kernel_rfl) (by simp) ?_
          refine AllReadyH.cons (o := _) rfl (fun K hK => ?_) AllReadyH.nil
          go_simp
          obtain ⟨Vh, hVn⟩ : ∃ x, x = Vg.alloc woZ := ⟨_, rfl⟩
          rw [← hVn]
          obtain ⟨b11, hb11⟩ : ∃ b, b = Vg.heap.size := ⟨_, rfl⟩
          rw [← hb11]
          have hbn : Below Vg.heap.size Vg Vh := by rw [hVn]; exact (Below.refl _ _).alloc (Nat.le_refl _) _
          have HBh := Sb.hide (HBg.out.trans (hbn.mono HBg.out.size))
          have HZh : Hid (Vh.heap[b11]? = some woZ) := by unfold Hid; rw [hVn, hb11]; exact heap_alloc_new _ _
          have hbl : w1.heap.size ≤ b11 := by rw [hb11]; exact HBg.out.size
          have HXh := Sb.hide (HXg.out.below hbn)
          clear hVn hb11 hbn
          refine hK.out _ _ (HS.out Vh HBh.out) (fun hHeld => ?_)
          clear hK K
          have zz := (wo_cells HZh.out).1
          have zf := (wo_cells HZh.out).2
          refine wpAnyH_ready (rs := [18]) (by kernel_rfl) (by simp) ?_
          refine AllReadyH.cons (o := _) rfl (fun K hK => ?_) AllReadyH.nil
          go_simp
          have hfe : QAt w1 m E R1 (.pointer (some ⟨b11, 0, none⟩)) (.int .i64 E) (fillW Vh b11 (.slice ea na ec) (.slice ba nb bc) (.int .i64 st)) := QAt.mk' HVF.out HBh.out hbl HZh.out HXh.out
          have hfb := fillW_below (v0 := .slice ea na ec) (v1 := .slice ba nb bc) (v2 := .int .i64 st) HBh.out hbl
          unfold fillW at hfe hfb
          refine hK.out _ _ (HS.out _ hfb) (fun hHeld => ?_)
          clear hK K zz zf
          have HFE := Sb.hide hfe
          clear hfe hfb
          generalize ((Vh.setCell ⟨b11, 0, none⟩ (.slice ea na ec)).setCell ⟨b11, 1, none⟩ (.slice ba nb bc)).setCell ⟨b11, 2, none⟩ (.int .i64 st) = V99 at *
          refine wpAnyH_ready (rs := [19]) (by kernel_rfl) (by simp) ?_
          refine AllReadyH.cons (o := _) rfl (fun K hK => ?_) AllReadyH.nil
          go_simp
          refine hK.out _ _ hHeld (fun hHeld => ?_)
          clear hK K
          refine wpAnyH_ready (rs := [20]) (by kernel_rfl) (by simp) ?_
          refine AllReadyH.cons (o := _) rfl (fun K hK => ?_) AllReadyH.nil
          go_simp
          refine hK.out _ _ hHeld (fun hHeld => ?_)
          clear hK K
          refine wpAnyH_done (by kernel_rfl) ?_ _
          go_wp2_with fail
          go_meet
          exact HFE.out
        · go_simp
          obtain ⟨Vz, hVn⟩ : ∃ x, x = Vf.alloc woZ := ⟨_, rfl⟩
          rw [← hVn]
          obtain ⟨b11, hb11⟩ : ∃ b, b = Vf.heap.size := ⟨_, rfl⟩
          rw [← hb11]
          have hbn : Below Vf.heap.size Vf Vz := by rw [hVn]; exact (Below.refl _ _).alloc (Nat.le_refl _) _
          have HBz := Sb.hide (HBf.out.trans (hbn.mono HBf.out.size))
          have HZz : Hid (Vz.heap[b11]? = some woZ) := by unfold Hid; rw [hVn, hb11]; exact heap_alloc_new _ _
          have hbl : w1.heap.size ≤ b11 := by rw [hb11]; exact HBf.out.size
          have HQz := Sb.hide (own_keep HQf.out (fun b hb => hbn.block b (HQf.out.lt b hb).2))
          clear hVn hb11 hbn
          refine hK.out _ _ (HS.out Vz HBz.out) (fun hHeld => ?_)
          clear hK K
          exact wpAnyH_at (TAIL1 b41 b50 b11 v3 v4 Vz ⟨HBz, HQz, HZz, hbl⟩) (by kernel_rfl) (by kernel_rfl)
    case tail =>
      rintro b41 b50 b11 v3 v4 Vf ⟨HBf, HQf, HZf, hbl⟩
      refine wpAnyH_ready (rs := [12]) (by kernel_rfl) (by simp) ?_
      refine AllReadyH.cons (o := _) rfl (fun K hK => ?_) AllReadyH.nil
      obtain ⟨pa, pc, rfl, hpk⟩ := own_picks HQf.out
      go_simp
      refine (Run_any m ab au cb cu Vf.heap.size pl1 pa pc Vf (Sb.hide (HMB.out _ HBf.out)) (Sb.hide hpk) (Nat.le_refl _) E (Sb.hide (HWE.out _ hle1))).mono ?_
      rintro e Vg ⟨hbn, hr⟩
      obtain ⟨ea, na, ec, ba, nb, bc, da, dn, dc, st, rfl, hX⟩ := ran_form hr
      have HXg := Sb.hide (by rw [HPL1.out, ← HRA.out] at hX; exact hX)
      have HBg := Sb.hide (HBf.out.trans (hbn.mono HBf.out.size))
      have HZg := Sb.hide ((hbn.block _ (lt_of_block HZf.out)).trans HZf.out)
      clear hr hX hpk hbn
      refine hK.out _ _ (HS.out Vg HBg.out) (fun hHeld => ?_)
      clear hK K
      refine wpAnyH_take (i := 13) (oi := _) (v := ?_) rfl (by kernel_rfl) (by kernel_rfl) (by kernel_rfl) (fun _ _ _ h => h) (Or.inl ⟨by rfl, ?_⟩) (by assumption) ?_
      rotate_left
      · intro w hSw
        (try dsimp only at hSw)
        go_simp
        (try with_reducible rfl)
      (try go_frame)
      refine wpAnyH_take (i := 14) (oi := _) (v := ?_) rfl (by kernel_rfl) (by kernel_rfl) (by kernel_rfl) (fun _ _ _ h => h) (Or.inl ⟨by rfl, ?_⟩) (by assumption) ?_
      rotate_left
      · intro w hSw
        (try dsimp only at hSw)
        go_simp
        (try with_reducible rfl)
      (try go_frame)
      refine wpAnyH_take (i := 15) (oi := _) (v := ?_) rfl (by kernel_rfl) (by kernel_rfl) (by kernel_rfl) (fun _ _ _ h => h) (Or.inl ⟨by rfl, ?_⟩) (by assumption) ?_
      rotate_left
      · intro w hSw
        (try dsimp only at hSw)
        go_simp
        (try with_reducible rfl)
      (try go_frame)
      refine wpAnyH_take (i := 16) (oi := _) (v := ?_) rfl (by kernel_rfl) (by kernel_rfl) (by kernel_rfl) (fun _ _ _ h => h) (Or.inl ⟨by rfl, ?_⟩) (by assumption) ?_
      rotate_left
      · intro w hSw
        (try dsimp only at hSw)
        go_simp
        (try with_reducible rfl)
      (try go_frame)
      have zz := (wo_cells HZg.out).1
      have zf := (wo_cells HZg.out).2
      refine wpAnyH_ready (rs := [18]) (by kernel_rfl) (by simp) ?_
      refine AllReadyH.cons (o := _) rfl (fun K hK => ?_) AllReadyH.nil
      go_simp
      have hfe : QAt w1 m E R1 (.pointer (some ⟨b11, 0, none⟩)) (.int .i64 E) (fillW Vg b11 (.slice ea na ec) (.slice ba nb bc) (.int .i64 st)) := QAt.mk' HVF.out HBg.out hbl HZg.out HXg.out
      have hfb := fillW_below (v0 := .slice ea na ec) (v1 := .slice ba nb bc) (v2 := .int .i64 st) HBg.out hbl
      unfold fillW at hfe hfb
      refine hK.out _ _ (HS.out _ hfb) (fun hHeld => ?_)
      clear hK K zz zf
      have HFE := Sb.hide hfe
      clear hfe hfb
      generalize ((Vg.setCell ⟨b11, 0, none⟩ (.slice ea na ec)).setCell ⟨b11, 1, none⟩ (.slice ba nb bc)).setCell ⟨b11, 2, none⟩ (.int .i64 st) = V99 at *
      refine wpAnyH_ready (rs := [19]) (by kernel_rfl) (by simp) ?_
      refine AllReadyH.cons (o := _) rfl (fun K hK => ?_) AllReadyH.nil
      go_simp
      refine hK.out _ _ hHeld (fun hHeld => ?_)
      clear hK K
      refine wpAnyH_ready (rs := [20]) (by kernel_rfl) (by simp) ?_
      refine AllReadyH.cons (o := _) rfl (fun K hK => ?_) AllReadyH.nil
      go_simp
      refine hK.out _ _ hHeld (fun hHeld => ?_)
      clear hK K
      refine wpAnyH_done (by kernel_rfl) ?_ _
      go_wp2_with fail
      go_meet
      exact HFE.out
  case rest =>
    obtain ⟨b1, vE1, vB1, st1, ts1, x1, hp1, hv1, ho1, hb1, hB1c, hW1, hf1, ha1⟩ := hcut
    subst hp1
    subst hv1
    have HO1 := Sb.hide ho1
    have HBC := Sb.hide hB1c
    have HW1 := Sb.hide hW1
    have HF1 := Sb.hide hf1
    have HA1 := Sb.hide ha1
    have hbz := lt_of_block ho1
    have hcz := hB1c.size
    have HMC : Hid (wc.heap[w.heap.size]? = some (mdB m ab au cb cu)) := (hB1c.block _ hwm).trans HM1.out
    obtain ⟨c10, c11⟩ := md_cells HMC.out
    clear ho1 hB1c hW1 hf1 ha1
    have hwr : IntKind.i64.wrap (one + two) = one + two := by rw [IntKind.wrap_i64]; omega
    go_upto_region 6 with fail
    go_cut [14, 16] (fun p v wx => QAt wc m E R2 p v wx)
    case first =>
      have HS : Hid (∀ V, Below wc.heap.size wc V → V.cell? ⟨w.heap.size, 0, none⟩ = some (.slice ab m.boxes.length cb) ∧ V.cell? ⟨w.heap.size, 1, none⟩ = some (.slice au m.units.length cu)) := fun V hV => md_cells ((hV.block _ (lt_of_block HMC.out)).trans HMC.out)
      have HPB : Hid (∀ V, Below wc.heap.size wc V → PkIn w.heap.size V ps a) := fun V hV => HPS.out.low ((HB1.out.trans (HBC.out.mono hwz)).trans (hV.mono (Nat.le_trans hwz hcz))).block
      have HMB : Hid (∀ V, Below wc.heap.size wc V → ModIn V.heap.size V m ab au) := fun V hV => mod_up (HMD.out.low ((HB1.out.trans (HBC.out.mono hwz)).trans (hV.mono (Nat.le_trans hwz hcz))).block) ((HB1.out.trans (HBC.out.mono hwz)).trans (hV.mono (Nat.le_trans hwz hcz))).size
      refine wp_region_held_drew (S := fun w' => w'.cell? ⟨w.heap.size, 0, none⟩ = some (.slice ab m.boxes.length cb) ∧ w'.cell? ⟨w.heap.size, 1, none⟩ = some (.slice au m.units.length cu)) (by kernel_rfl) ⟨c10, c11⟩ (fun hHeld => ?_)
      obtain ⟨V0, hV0⟩ : ∃ x, x = wc.drew := ⟨_, rfl⟩
      rw [← hV0] at hHeld ⊢
      have HB0' : Hid (Below wc.heap.size wc V0) := by rw [hV0]; exact (Below.refl _ _).drew
      clear HB0
      have HB0 := HB0'
      clear HB0' hV0 c10 c11
      refine wpAnyH_take (i := 0) (oi := _) (v := ?_) rfl (by kernel_rfl) (by kernel_rfl) (by kernel_rfl) (fun _ _ _ h => h) (Or.inl ⟨by rfl, ?_⟩) (by assumption) ?_
      rotate_left
      · intro w hSw
        (try dsimp only at hSw)
        go_simp
        (try with_reducible rfl)
      (try go_frame)
      refine wpAnyH_take (i := 2) (oi := _) (v := ?_) rfl (by kernel_rfl) (by kernel_rfl) (by kernel_rfl) (fun _ _ _ h => h) (Or.inl ⟨by rfl, ?_⟩) (by assumption) ?_
      rotate_left
      · intro w hSw
        (try dsimp only at hSw)
        go_simp
        (try with_reducible rfl)
      (try go_frame)
      refine wpAnyH_take (i := 4) (oi := _) (v := ?_) rfl (by kernel_rfl) (by kernel_rfl) (by kernel_rfl) (fun _ _ _ h => h) (Or.inl ⟨by rfl, ?_⟩) (by assumption) ?_
      rotate_left
      · intro w hSw
        (try dsimp only at hSw)
        go_simp
        (try with_reducible rfl)
      (try go_frame)
      refine wpAnyH_take (i := 5) (oi := _) (v := ?_) rfl (by kernel_rfl) (by kernel_rfl) (by kernel_rfl) (fun _ _ _ h => h) (Or.inl ⟨by rfl, ?_⟩) (by assumption) ?_
      rotate_left
      · intro w hSw
        (try dsimp only at hSw)
        go_simp
        (try with_reducible rfl)
      (try go_frame)
      refine wpAnyH_take (i := 6) (oi := _) (v := ?_) rfl (by kernel_rfl) (by kernel_rfl) (by kernel_rfl) (fun _ _ _ h => h) (Or.inl ⟨by rfl, ?_⟩) (by assumption) ?_
      rotate_left
      · intro w hSw
        (try dsimp only at hSw)
        go_simp
        (try with_reducible rfl)
      (try go_frame)
      refine wpAnyH_take (i := 7) (oi := _) (v := ?_) rfl (by kernel_rfl) (by kernel_rfl) (by kernel_rfl) (fun _ _ _ h => h) (Or.inl ⟨by rfl, ?_⟩) (by assumption) ?_
      rotate_left
      · intro w hSw
        (try dsimp only at hSw)
        go_simp
        (try with_reducible rfl)
      (try go_frame)
      refine wpAnyH_take (i := 8) (oi := _) (v := ?_) rfl (by kernel_rfl) (by kernel_rfl) (by kernel_rfl) (fun _ _ _ h => h) (Or.inl ⟨by rfl, ?_⟩) (by assumption) ?_
      rotate_left
      · intro w hSw
        (try dsimp only at hSw)
        go_simp
        (try with_reducible rfl)
      (try go_frame)
      apply share1 (fun b11 v4 V => Hid (Below wc.heap.size wc V) ∧ Hid (V.ownsRow wc.heap.size 41 2 v4 pl2.length (pkCells pl2)) ∧ Hid (V.heap[b11]? = some woZ) ∧ wc.heap.size ≤ b11)
      case use =>
        intro TAIL1
        apply share2 (fun v4 V => Hid (Below wc.heap.size wc V) ∧ Hid (V.ownsRow wc.heap.size 41 2 v4 pl2.length (pkCells pl2)))
        case use =>
          intro TAIL2
          refine wpAnyH_ready (rs := [1, 9, 16]) (by kernel_rfl) (by simp) ?_
          refine AllReadyH.cons (o := _) rfl (fun K hK => ?_) (AllReadyH.cons (o := _) rfl (fun K hK => ?_) (AllReadyH.cons (o := _) rfl (fun K hK => ?_) AllReadyH.nil))
          · go_simp
            obtain ⟨V1, hV1⟩ : ∃ x, x = V0.alloc (.cells #[] 41) := ⟨_, rfl⟩
            rw [← hV1]
            have hb1 : Below V0.heap.size V0 V1 := by rw [hV1]; exact (Below.refl _ _).alloc (Nat.le_refl _) _
            have HB1 : Hid (Below wc.heap.size wc V1) := HB0.out.trans (hb1.mono HB0.out.size)
            have HO1 : Hid (V1.ownsRow wc.heap.size 41 2 (.slice (some ⟨V0.heap.size, 0, none⟩) 0 0) 0 []) := by unfold Hid; rw [hV1]; exact own_empty V0 41 HB0.out.size 2
            have hsz1 : V0.heap.size < V1.heap.size := by rw [hV1]; simp
            clear hV1 hb1
            refine hK.out _ _ (HS.out V1 HB1.out) (fun hHeld => ?_)
            clear hK K
            refine wpAnyH_ready (rs := [3, 9, 16]) (by kernel_rfl) (by simp) ?_
            refine AllReadyH.cons (o := _) rfl (fun K hK => ?_) (AllReadyH.cons (o := _) rfl (fun K hK => ?_) (AllReadyH.cons (o := _) rfl (fun K hK => ?_) AllReadyH.nil))
            · refine step_append_src rfl (.tmp 58) (.tmp 59) 26 rfl wc.heap.size 41 i0 _ 2 16 Tryz.underlying26 hi hz0 hz1 hz2 rfl (by decide) _ 0 [] rfl HO1.out a N cap (pkCells ps) rfl (by rw [HN.out]; exact pk_none HPS.out) (by rw [HN.out]; exact fm_len pkc 2 (fun _ => rfl) ps) (pk_src (HPB.out _ HB1.out)) (pks_one ps) (by unfold maxLen; omega) (by omega) HB1.out.size ?_
              intro v3 V2 hown hgr
              have hgr2 : V1.grownBy V2 (some (V0.heap.size)) := hgr
              have hlt := HO1.out.lt (V0.heap.size) rfl
              have HB2 : Hid (Below wc.heap.size wc V2) := HB1.out.grown hgr2 HB1.out.size (fun b hb => by cases hb; exact hlt.1)
              have HR2 : Hid (V2.ownsRow wc.heap.size 41 2 v3 N (pkCells ps)) := by have := hown; rw [Nat.zero_add, List.nil_append] at this; exact this
              have hsz2 := hgr2.size
              clear hown hgr hgr2 hlt
              refine hK.out _ _ (HS.out V2 HB2.out) (fun hHeld => ?_)
              clear hK K
              refine wpAnyH_ready (rs := [9, 16]) (by kernel_rfl) (by simp) ?_
              refine AllReadyH.cons (o := _) rfl (fun K hK => ?_) (AllReadyH.cons (o := _) rfl (fun K hK => ?_) AllReadyH.nil)
              · go_simp
                obtain ⟨V3, hV3⟩ : ∃ x, x = V2.alloc (.cells #[.int .i64 task, .int .i64 (one + two)] 41) := ⟨_, rfl⟩
                rw [← hV3]
                have hb3 : Below V2.heap.size V2 V3 := by rw [hV3]; exact (Below.refl _ _).alloc (Nat.le_refl _) _
                have HB3 : Hid (Below wc.heap.size wc V3) := HB2.out.trans (hb3.mono HB2.out.size)
                have HR3 := Sb.hide (own_keep HR2.out (fun b hb => hb3.block b (HR2.out.lt b hb).2))
                have HP3 : Hid (V3.heap[V2.heap.size]? = some (.cells #[.int .i64 task, .int .i64 (one + two)] 41 (0, 0))) := by unfold Hid; rw [hV3]; exact heap_alloc_new _ _
                have hsz3 : V2.heap.size < V3.heap.size := by rw [hV3]; simp
                clear hV3 hb3
                refine hK.out _ _ (HS.out V3 HB3.out) (fun hHeld => ?_)
                clear hK K
                refine wpAnyH_ready (rs := [10, 16]) (by kernel_rfl) (by simp) ?_
                refine AllReadyH.cons (o := _) rfl (fun K hK => ?_) (AllReadyH.cons (o := _) rfl (fun K hK => ?_) AllReadyH.nil)
                · have hnw : ∀ ad, some (⟨V2.heap.size, 0, none⟩ : Addr) = some ad → ∀ j u, (pkCells [(⟨task, one + two⟩ : Pk)])[j]? = some u → V3.cell? (ad.add j) = some u := fun ad e j u hu => by cases e; exact pk_lit HP3.out j u hu
                  refine step_append_src rfl (.tmp 60) (.tmp 66) 26 rfl wc.heap.size 41 i0 _ 2 16 Tryz.underlying26 hi hz0 hz1 hz2 rfl (by decide) v3 N (pkCells ps) rfl HR3.out (some ⟨V2.heap.size, 0, none⟩) 1 1 (pkCells [(⟨task, one + two⟩ : Pk)]) rfl (fun e => by cases e) rfl hnw (pks_one _) (by unfold maxLen; omega) (by omega) HB3.out.size ?_
                  intro v4 V4 hown hgr
                  have HB4 : Hid (Below wc.heap.size wc V4) := HB3.out.grown hgr HB3.out.size (fun b hb => (HR3.out.lt b hb).1)
                  have HQ4 : Hid (V4.ownsRow wc.heap.size 41 2 v4 pl2.length (pkCells pl2)) := by rw [HPL2.out]; exact pk_more HN.out hown rfl
                  have hsz4 := hgr.size
                  clear hown hgr hnw
                  refine hK.out _ _ (HS.out V4 HB4.out) (fun hHeld => ?_)
                  clear hK K
                  obtain ⟨b41, hb41⟩ : ∃ b, b = V0.heap.size := ⟨_, rfl⟩
                  rw [← hb41]
                  obtain ⟨b50, hb50⟩ : ∃ b, b = V2.heap.size := ⟨_, rfl⟩
                  rw [← hb50]
                  exact TAIL2 b41 b50 v3 v4 V4 ⟨HB4, HQ4⟩
                · go_simp
                  obtain ⟨V4, hV4⟩ : ∃ x, x = V3.alloc (woZ) := ⟨_, rfl⟩
                  rw [← hV4]
                  have hb4 : Below V3.heap.size V3 V4 := by rw [hV4]; exact (Below.refl _ _).alloc (Nat.le_refl _) _
                  have HB4 : Hid (Below wc.heap.size wc V4) := HB3.out.trans (hb4.mono HB3.out.size)
                  have HR4 := Sb.hide (own_keep HR3.out (fun b hb => hb4.block b (HR3.out.lt b hb).2))
                  have HP4 := Sb.hide ((hb4.block _ (lt_of_block HP3.out)).trans HP3.out)
                  have HZ4 : Hid (V4.heap[V3.heap.size]? = some woZ) := by unfold Hid; rw [hV4]; exact heap_alloc_new _ _
                  have hsz4 : V3.heap.size < V4.heap.size := by rw [hV4]; simp
                  clear hV4 hb4
                  refine hK.out _ _ (HS.out V4 HB4.out) (fun hHeld => ?_)
                  clear hK K
                  refine wpAnyH_ready (rs := [10]) (by kernel_rfl) (by simp) ?_
                  refine AllReadyH.cons (o := _) rfl (fun K hK => ?_) AllReadyH.nil
                  have hnw : ∀ ad, some (⟨V2.heap.size, 0, none⟩ : Addr) = some ad → ∀ j u, (pkCells [(⟨task, one + two⟩ : Pk)])[j]? = some u → V4.cell? (ad.add j) = some u := fun ad e j u hu => by cases e; exact pk_lit HP4.out j u hu
                  refine step_append_src rfl (.tmp 60) (.tmp 66) 26 rfl wc.heap.size 41 i0 _ 2 16 Tryz.underlying26 hi hz0 hz1 hz2 rfl (by decide) v3 N (pkCells ps) rfl HR4.out (some ⟨V2.heap.size, 0, none⟩) 1 1 (pkCells [(⟨task, one + two⟩ : Pk)]) rfl (fun e => by cases e) rfl hnw (pks_one _) (by unfold maxLen; omega) (by omega) HB4.out.size ?_
                  intro v4 V5 hown hgr
                  have HB5 : Hid (Below wc.heap.size wc V5) := HB4.out.grown hgr HB4.out.size (fun b hb => (HR4.out.lt b hb).1)
                  have HQ5 : Hid (V5.ownsRow wc.heap.size 41 2 v4 pl2.length (pkCells pl2)) := by rw [HPL2.out]; exact pk_more HN.out hown rfl
                  have HZ5 := Sb.hide ((hgr.block _ (lt_of_block HZ4.out) (fun e => ty_ne HR4.out HZ4.out (by decide) e.symm)).trans HZ4.out)
                  have hsz5 := hgr.size
                  clear hown hgr hnw
                  refine hK.out _ _ (HS.out V5 HB5.out) (fun hHeld => ?_)
                  clear hK K
                  obtain ⟨b41, hb41⟩ : ∃ b, b = V0.heap.size := ⟨_, rfl⟩
                  rw [← hb41]
                  obtain ⟨b50, hb50⟩ : ∃ b, b = V2.heap.size := ⟨_, rfl⟩
                  rw [← hb50]
                  obtain ⟨b11, hb11⟩ : ∃ b, b = V3.heap.size := ⟨_, rfl⟩
                  rw [← hb11]
                  have HZf : Hid (V5.heap[b11]? = some woZ) := by rw [hb11]; exact HZ5
                  have hbl : wc.heap.size ≤ b11 := by rw [hb11]; exact HB3.out.size
                  exact TAIL1 b41 b50 b11 v3 v4 V5 ⟨HB5, HQ5, HZf, hbl⟩
              · go_simp
                obtain ⟨V3, hV3⟩ : ∃ x, x = V2.alloc (woZ) := ⟨_, rfl⟩
                rw [← hV3]
                have hb3 : Below V2.heap.size V2 V3 := by rw [hV3]; exact (Below.refl _ _).alloc (Nat.le_refl _) _
                have HB3 : Hid (Below wc.heap.size wc V3) := HB2.out.trans (hb3.mono HB2.out.size)
                have HR3 := Sb.hide (own_keep HR2.out (fun b hb => hb3.block b (HR2.out.lt b hb).2))
                have HZ3 : Hid (V3.heap[V2.heap.size]? = some woZ) := by unfold Hid; rw [hV3]; exact heap_alloc_new _ _
                have hsz3 : V2.heap.size < V3.heap.size := by rw [hV3]; simp
                clear hV3 hb3
                refine hK.out _ _ (HS.out V3 HB3.out) (fun hHeld => ?_)
                clear hK K
                refine wpAnyH_ready (rs := [9]) (by kernel_rfl) (by simp) ?_
                refine AllReadyH.cons (o := _) rfl (fun K hK => ?_) AllReadyH.nil
                go_simp
                obtain ⟨V4, hV4⟩ : ∃ x, x = V3.alloc (.cells #[.int .i64 task, .int .i64 (one + two)] 41) := ⟨_, rfl⟩
                rw [← hV4]
                have hb4 : Below V3.heap.size V3 V4 := by rw [hV4]; exact (Below.refl _ _).alloc (Nat.le_refl _) _
                have HB4 : Hid (Below wc.heap.size wc V4) := HB3.out.trans (hb4.mono HB3.out.size)
                have HR4 := Sb.hide (own_keep HR3.out (fun b hb => hb4.block b (HR3.out.lt b hb).2))
                have HZ4 := Sb.hide ((hb4.block _ (lt_of_block HZ3.out)).trans HZ3.out)
                have HP4 : Hid (V4.heap[V3.heap.size]? = some (.cells #[.int .i64 task, .int .i64 (one + two)] 41 (0, 0))) := by unfold Hid; rw [hV4]; exact heap_alloc_new _ _
                have hsz4 : V3.heap.size < V4.heap.size := by rw [hV4]; simp
                clear hV4 hb4
                refine hK.out _ _ (HS.out V4 HB4.out) (fun hHeld => ?_)
                clear hK K
                refine wpAnyH_ready (rs := [10]) (by kernel_rfl) (by simp) ?_
                refine AllReadyH.cons (o := _) rfl (fun K hK => ?_) AllReadyH.nil
                have hnw : ∀ ad, some (⟨V3.heap.size, 0, none⟩ : Addr) = some ad → ∀ j u, (pkCells [(⟨task, one + two⟩ : Pk)])[j]? = some u → V4.cell? (ad.add j) = some u := fun ad e j u hu => by cases e; exact pk_lit HP4.out j u hu
                refine step_append_src rfl (.tmp 60) (.tmp 66) 26 rfl wc.heap.size 41 i0 _ 2 16 Tryz.underlying26 hi hz0 hz1 hz2 rfl (by decide) v3 N (pkCells ps) rfl HR4.out (some ⟨V3.heap.size, 0, none⟩) 1 1 (pkCells [(⟨task, one + two⟩ : Pk)]) rfl (fun e => by cases e) rfl hnw (pks_one _) (by unfold maxLen; omega) (by omega) HB4.out.size ?_
                intro v4 V5 hown hgr
                have HB5 : Hid (Below wc.heap.size wc V5) := HB4.out.grown hgr HB4.out.size (fun b hb => (HR4.out.lt b hb).1)
                have HQ5 : Hid (V5.ownsRow wc.heap.size 41 2 v4 pl2.length (pkCells pl2)) := by rw [HPL2.out]; exact pk_more HN.out hown rfl
                have HZ5 := Sb.hide ((hgr.block _ (lt_of_block HZ4.out) (fun e => ty_ne HR4.out HZ4.out (by decide) e.symm)).trans HZ4.out)
                have hsz5 := hgr.size
                clear hown hgr hnw
                refine hK.out _ _ (HS.out V5 HB5.out) (fun hHeld => ?_)
                clear hK K
                exact wpAnyH_at (TAIL1 (V0.heap.size) (V3.heap.size) (V2.heap.size) v3 v4 V5 ⟨HB5, HQ5, HZ5, HB2.out.size⟩) (by kernel_rfl) (by kernel_rfl)
            · go_simp
              obtain ⟨V2, hV2⟩ : ∃ x, x = V1.alloc (.cells #[.int .i64 task, .int .i64 (one + two)] 41) := ⟨_, rfl⟩
              rw [← hV2]
              have hb2 : Below V1.heap.size V1 V2 := by rw [hV2]; exact (Below.refl _ _).alloc (Nat.le_refl _) _
              have HB2 : Hid (Below wc.heap.size wc V2) := HB1.out.trans (hb2.mono HB1.out.size)
              have HO2 := Sb.hide (own_keep HO1.out (fun b hb => hb2.block b (HO1.out.lt b hb).2))
              have HP2 : Hid (V2.heap[V1.heap.size]? = some (.cells #[.int .i64 task, .int .i64 (one + two)] 41 (0, 0))) := by unfold Hid; rw [hV2]; exact heap_alloc_new _ _
              have hsz2 : V1.heap.size < V2.heap.size := by rw [hV2]; simp
              clear hV2 hb2
              refine hK.out _ _ (HS.out V2 HB2.out) (fun hHeld => ?_)
              clear hK K
              refine wpAnyH_ready (rs := [3, 16]) (by kernel_rfl) (by simp) ?_
              refine AllReadyH.cons (o := _) rfl (fun K hK => ?_) (AllReadyH.cons (o := _) rfl (fun K hK => ?_) AllReadyH.nil)
              · refine step_append_src rfl (.tmp 58) (.tmp 59) 26 rfl wc.heap.size 41 i0 _ 2 16 Tryz.underlying26 hi hz0 hz1 hz2 rfl (by decide) _ 0 [] rfl HO2.out a N cap (pkCells ps) rfl (by rw [HN.out]; exact pk_none HPS.out) (by rw [HN.out]; exact fm_len pkc 2 (fun _ => rfl) ps) (pk_src (HPB.out _ HB2.out)) (pks_one ps) (by unfold maxLen; omega) (by omega) HB2.out.size ?_
                intro v3 V3 hown hgr
                have hgr2 : V2.grownBy V3 (some (V0.heap.size)) := hgr
                have hlt := HO2.out.lt (V0.heap.size) rfl
                have HB3 : Hid (Below wc.heap.size wc V3) := HB2.out.grown hgr2 HB2.out.size (fun b hb => by cases hb; exact hlt.1)
                have HR3 : Hid (V3.ownsRow wc.heap.size 41 2 v3 N (pkCells ps)) := by have := hown; rw [Nat.zero_add, List.nil_append] at this; exact this
                have HP3 := Sb.hide ((hgr2.block _ (lt_of_block HP2.out) (by simp; omega)).trans HP2.out)
                have hsz3 := hgr2.size
                clear hown hgr hgr2 hlt
                refine hK.out _ _ (HS.out V3 HB3.out) (fun hHeld => ?_)
                clear hK K
                refine wpAnyH_ready (rs := [10, 16]) (by kernel_rfl) (by simp) ?_
                refine AllReadyH.cons (o := _) rfl (fun K hK => ?_) (AllReadyH.cons (o := _) rfl (fun K hK => ?_) AllReadyH.nil)
                · have hnw : ∀ ad, some (⟨V1.heap.size, 0, none⟩ : Addr) = some ad → ∀ j u, (pkCells [(⟨task, one + two⟩ : Pk)])[j]? = some u → V3.cell? (ad.add j) = some u := fun ad e j u hu => by cases e; exact pk_lit HP3.out j u hu
                  refine step_append_src rfl (.tmp 60) (.tmp 66) 26 rfl wc.heap.size 41 i0 _ 2 16 Tryz.underlying26 hi hz0 hz1 hz2 rfl (by decide) v3 N (pkCells ps) rfl HR3.out (some ⟨V1.heap.size, 0, none⟩) 1 1 (pkCells [(⟨task, one + two⟩ : Pk)]) rfl (fun e => by cases e) rfl hnw (pks_one _) (by unfold maxLen; omega) (by omega) HB3.out.size ?_
                  intro v4 V4 hown hgr
                  have HB4 : Hid (Below wc.heap.size wc V4) := HB3.out.grown hgr HB3.out.size (fun b hb => (HR3.out.lt b hb).1)
                  have HQ4 : Hid (V4.ownsRow wc.heap.size 41 2 v4 pl2.length (pkCells pl2)) := by rw [HPL2.out]; exact pk_more HN.out hown rfl
                  have hsz4 := hgr.size
                  clear hown hgr hnw
                  refine hK.out _ _ (HS.out V4 HB4.out) (fun hHeld => ?_)
                  clear hK K
                  exact wpAnyH_at (TAIL2 (V0.heap.size) (V1.heap.size) v3 v4 V4 ⟨HB4, HQ4⟩) (by kernel_rfl) (by kernel_rfl)
                · go_simp
                  obtain ⟨V4, hV4⟩ : ∃ x, x = V3.alloc (woZ) := ⟨_, rfl⟩
                  rw [← hV4]
                  have hb4 : Below V3.heap.size V3 V4 := by rw [hV4]; exact (Below.refl _ _).alloc (Nat.le_refl _) _
                  have HB4 : Hid (Below wc.heap.size wc V4) := HB3.out.trans (hb4.mono HB3.out.size)
                  have HR4 := Sb.hide (own_keep HR3.out (fun b hb => hb4.block b (HR3.out.lt b hb).2))
                  have HP4 := Sb.hide ((hb4.block _ (lt_of_block HP3.out)).trans HP3.out)
                  have HZ4 : Hid (V4.heap[V3.heap.size]? = some woZ) := by unfold Hid; rw [hV4]; exact heap_alloc_new _ _
                  have hsz4 : V3.heap.size < V4.heap.size := by rw [hV4]; simp
                  clear hV4 hb4
                  refine hK.out _ _ (HS.out V4 HB4.out) (fun hHeld => ?_)
                  clear hK K
                  refine wpAnyH_ready (rs := [10]) (by kernel_rfl) (by simp) ?_
                  refine AllReadyH.cons (o := _) rfl (fun K hK => ?_) AllReadyH.nil
                  have hnw : ∀ ad, some (⟨V1.heap.size, 0, none⟩ : Addr) = some ad → ∀ j u, (pkCells [(⟨task, one + two⟩ : Pk)])[j]? = some u → V4.cell? (ad.add j) = some u := fun ad e j u hu => by cases e; exact pk_lit HP4.out j u hu
                  refine step_append_src rfl (.tmp 60) (.tmp 66) 26 rfl wc.heap.size 41 i0 _ 2 16 Tryz.underlying26 hi hz0 hz1 hz2 rfl (by decide) v3 N (pkCells ps) rfl HR4.out (some ⟨V1.heap.size, 0, none⟩) 1 1 (pkCells [(⟨task, one + two⟩ : Pk)]) rfl (fun e => by cases e) rfl hnw (pks_one _) (by unfold maxLen; omega) (by omega) HB4.out.size ?_
                  intro v4 V5 hown hgr
                  have HB5 : Hid (Below wc.heap.size wc V5) := HB4.out.grown hgr HB4.out.size (fun b hb => (HR4.out.lt b hb).1)
                  have HQ5 : Hid (V5.ownsRow wc.heap.size 41 2 v4 pl2.length (pkCells pl2)) := by rw [HPL2.out]; exact pk_more HN.out hown rfl
                  have HZ5 := Sb.hide ((hgr.block _ (lt_of_block HZ4.out) (fun e => ty_ne HR4.out HZ4.out (by decide) e.symm)).trans HZ4.out)
                  have hsz5 := hgr.size
                  clear hown hgr hnw
                  refine hK.out _ _ (HS.out V5 HB5.out) (fun hHeld => ?_)
                  clear hK K
                  exact wpAnyH_at (TAIL1 (V0.heap.size) (V1.heap.size) (V3.heap.size) v3 v4 V5 ⟨HB5, HQ5, HZ5, HB3.out.size⟩) (by kernel_rfl) (by kernel_rfl)
              · go_simp
                obtain ⟨V3, hV3⟩ : ∃ x, x = V2.alloc (woZ) := ⟨_, rfl⟩
                rw [← hV3]
                have hb3 : Below V2.heap.size V2 V3 := by rw [hV3]; exact (Below.refl _ _).alloc (Nat.le_refl _) _
                have HB3 : Hid (Below wc.heap.size wc V3) := HB2.out.trans (hb3.mono HB2.out.size)
                have HO3 := Sb.hide (own_keep HO2.out (fun b hb => hb3.block b (HO2.out.lt b hb).2))
                have HP3 := Sb.hide ((hb3.block _ (lt_of_block HP2.out)).trans HP2.out)
                have HZ3 : Hid (V3.heap[V2.heap.size]? = some woZ) := by unfold Hid; rw [hV3]; exact heap_alloc_new _ _
                have hsz3 : V2.heap.size < V3.heap.size := by rw [hV3]; simp
                clear hV3 hb3
                refine hK.out _ _ (HS.out V3 HB3.out) (fun hHeld => ?_)
                clear hK K
                refine wpAnyH_ready (rs := [3]) (by kernel_rfl) (by simp) ?_
                refine AllReadyH.cons (o := _) rfl (fun K hK => ?_) AllReadyH.nil
                refine step_append_src rfl (.tmp 58) (.tmp 59) 26 rfl wc.heap.size 41 i0 _ 2 16 Tryz.underlying26 hi hz0 hz1 hz2 rfl (by decide) _ 0 [] rfl HO3.out a N cap (pkCells ps) rfl (by rw [HN.out]; exact pk_none HPS.out) (by rw [HN.out]; exact fm_len pkc 2 (fun _ => rfl) ps) (pk_src (HPB.out _ HB3.out)) (pks_one ps) (by unfold maxLen; omega) (by omega) HB3.out.size ?_
                intro v3 V4 hown hgr
                have hgr2 : V3.grownBy V4 (some (V0.heap.size)) := hgr
                have hlt := HO3.out.lt (V0.heap.size) rfl
                have HB4 : Hid (Below wc.heap.size wc V4) := HB3.out.grown hgr2 HB3.out.size (fun b hb => by cases hb; exact hlt.1)
                have HR4 : Hid (V4.ownsRow wc.heap.size 41 2 v3 N (pkCells ps)) := by have := hown; rw [Nat.zero_add, List.nil_append] at this; exact this
                have HP4 := Sb.hide ((hgr2.block _ (lt_of_block HP3.out) (by simp; omega)).trans HP3.out)
                have HZ4 := Sb.hide ((hgr2.block _ (lt_of_block HZ3.out) (by simp; omega)).trans HZ3.out)
                have hsz4 := hgr2.size
                clear hown hgr hgr2 hlt
                refine hK.out _ _ (HS.out V4 HB4.out) (fun hHeld => ?_)
                clear hK K
                refine wpAnyH_ready (rs := [10]) (by kernel_rfl) (by simp) ?_
                refine AllReadyH.cons (o := _) rfl (fun K hK => ?_) AllReadyH.nil
                have hnw : ∀ ad, some (⟨V1.heap.size, 0, none⟩ : Addr) = some ad → ∀ j u, (pkCells [(⟨task, one + two⟩ : Pk)])[j]? = some u → V4.cell? (ad.add j) = some u := fun ad e j u hu => by cases e; exact pk_lit HP4.out j u hu
                refine step_append_src rfl (.tmp 60) (.tmp 66) 26 rfl wc.heap.size 41 i0 _ 2 16 Tryz.underlying26 hi hz0 hz1 hz2 rfl (by decide) v3 N (pkCells ps) rfl HR4.out (some ⟨V1.heap.size, 0, none⟩) 1 1 (pkCells [(⟨task, one + two⟩ : Pk)]) rfl (fun e => by cases e) rfl hnw (pks_one _) (by unfold maxLen; omega) (by omega) HB4.out.size ?_
                intro v4 V5 hown hgr
                have HB5 : Hid (Below wc.heap.size wc V5) := HB4.out.grown hgr HB4.out.size (fun b hb => (HR4.out.lt b hb).1)
                have HQ5 : Hid (V5.ownsRow wc.heap.size 41 2 v4 pl2.length (pkCells pl2)) := by rw [HPL2.out]; exact pk_more HN.out hown rfl
                have HZ5 := Sb.hide ((hgr.block _ (lt_of_block HZ4.out) (fun e => ty_ne HR4.out HZ4.out (by decide) e.symm)).trans HZ4.out)
                have hsz5 := hgr.size
                clear hown hgr hnw
                refine hK.out _ _ (HS.out V5 HB5.out) (fun hHeld => ?_)
                clear hK K
                exact wpAnyH_at (TAIL1 (V0.heap.size) (V1.heap.size) (V2.heap.size) v3 v4 V5 ⟨HB5, HQ5, HZ5, HB2.out.size⟩) (by kernel_rfl) (by kernel_rfl)
            · go_simp
              obtain ⟨V2, hV2⟩ : ∃ x, x = V1.alloc (woZ) := ⟨_, rfl⟩
              rw [← hV2]
              have hb2 : Below V1.heap.size V1 V2 := by rw [hV2]; exact (Below.refl _ _).alloc (Nat.le_refl _) _
              have HB2 : Hid (Below wc.heap.size wc V2) := HB1.out.trans (hb2.mono HB1.out.size)
              have HO2 := Sb.hide (own_keep HO1.out (fun b hb => hb2.block b (HO1.out.lt b hb).2))
              have HZ2 : Hid (V2.heap[V1.heap.size]? = some woZ) := by unfold Hid; rw [hV2]; exact heap_alloc_new _ _
              have hsz2 : V1.heap.size < V2.heap.size := by rw [hV2]; simp
              clear hV2 hb2
              refine hK.out _ _ (HS.out V2 HB2.out) (fun hHeld => ?_)
              clear hK K
              refine wpAnyH_ready (rs := [3, 9]) (by kernel_rfl) (by simp) ?_
              refine AllReadyH.cons (o := _) rfl (fun K hK => ?_) (AllReadyH.cons (o := _) rfl (fun K hK => ?_) AllReadyH.nil)
              · refine step_append_src rfl (.tmp 58) (.tmp 59) 26 rfl wc.heap.size 41 i0 _ 2 16 Tryz.underlying26 hi hz0 hz1 hz2 rfl (by decide) _ 0 [] rfl HO2.out a N cap (pkCells ps) rfl (by rw [HN.out]; exact pk_none HPS.out) (by rw [HN.out]; exact fm_len pkc 2 (fun _ => rfl) ps) (pk_src (HPB.out _ HB2.out)) (pks_one ps) (by unfold maxLen; omega) (by omega) HB2.out.size ?_
                intro v3 V3 hown hgr
                have hgr2 : V2.grownBy V3 (some (V0.heap.size)) := hgr
                have hlt := HO2.out.lt (V0.heap.size) rfl
                have HB3 : Hid (Below wc.heap.size wc V3) := HB2.out.grown hgr2 HB2.out.size (fun b hb => by cases hb; exact hlt.1)
                have HR3 : Hid (V3.ownsRow wc.heap.size 41 2 v3 N (pkCells ps)) := by have := hown; rw [Nat.zero_add, List.nil_append] at this; exact this
                have HZ3 := Sb.hide ((hgr2.block _ (lt_of_block HZ2.out) (by simp; omega)).trans HZ2.out)
                have hsz3 := hgr2.size
                clear hown hgr hgr2 hlt
                refine hK.out _ _ (HS.out V3 HB3.out) (fun hHeld => ?_)
                clear hK K
                refine wpAnyH_ready (rs := [9]) (by kernel_rfl) (by simp) ?_
                refine AllReadyH.cons (o := _) rfl (fun K hK => ?_) AllReadyH.nil
                go_simp
                obtain ⟨V4, hV4⟩ : ∃ x, x = V3.alloc (.cells #[.int .i64 task, .int .i64 (one + two)] 41) := ⟨_, rfl⟩
                rw [← hV4]
                have hb4 : Below V3.heap.size V3 V4 := by rw [hV4]; exact (Below.refl _ _).alloc (Nat.le_refl _) _
                have HB4 : Hid (Below wc.heap.size wc V4) := HB3.out.trans (hb4.mono HB3.out.size)
                have HR4 := Sb.hide (own_keep HR3.out (fun b hb => hb4.block b (HR3.out.lt b hb).2))
                have HZ4 := Sb.hide ((hb4.block _ (lt_of_block HZ3.out)).trans HZ3.out)
                have HP4 : Hid (V4.heap[V3.heap.size]? = some (.cells #[.int .i64 task, .int .i64 (one + two)] 41 (0, 0))) := by unfold Hid; rw [hV4]; exact heap_alloc_new _ _
                have hsz4 : V3.heap.size < V4.heap.size := by rw [hV4]; simp
                clear hV4 hb4
                refine hK.out _ _ (HS.out V4 HB4.out) (fun hHeld => ?_)
                clear hK K
                refine wpAnyH_ready (rs := [10]) (by kernel_rfl) (by simp) ?_
                refine AllReadyH.cons (o := _) rfl (fun K hK => ?_) AllReadyH.nil
                have hnw : ∀ ad, some (⟨V3.heap.size, 0, none⟩ : Addr) = some ad → ∀ j u, (pkCells [(⟨task, one + two⟩ : Pk)])[j]? = some u → V4.cell? (ad.add j) = some u := fun ad e j u hu => by cases e; exact pk_lit HP4.out j u hu
                refine step_append_src rfl (.tmp 60) (.tmp 66) 26 rfl wc.heap.size 41 i0 _ 2 16 Tryz.underlying26 hi hz0 hz1 hz2 rfl (by decide) v3 N (pkCells ps) rfl HR4.out (some ⟨V3.heap.size, 0, none⟩) 1 1 (pkCells [(⟨task, one + two⟩ : Pk)]) rfl (fun e => by cases e) rfl hnw (pks_one _) (by unfold maxLen; omega) (by omega) HB4.out.size ?_
                intro v4 V5 hown hgr
                have HB5 : Hid (Below wc.heap.size wc V5) := HB4.out.grown hgr HB4.out.size (fun b hb => (HR4.out.lt b hb).1)
                have HQ5 : Hid (V5.ownsRow wc.heap.size 41 2 v4 pl2.length (pkCells pl2)) := by rw [HPL2.out]; exact pk_more HN.out hown rfl
                have HZ5 := Sb.hide ((hgr.block _ (lt_of_block HZ4.out) (fun e => ty_ne HR4.out HZ4.out (by decide) e.symm)).trans HZ4.out)
                have hsz5 := hgr.size
                clear hown hgr hnw
                refine hK.out _ _ (HS.out V5 HB5.out) (fun hHeld => ?_)
                clear hK K
                exact wpAnyH_at (TAIL1 (V0.heap.size) (V3.heap.size) (V1.heap.size) v3 v4 V5 ⟨HB5, HQ5, HZ5, HB1.out.size⟩) (by kernel_rfl) (by kernel_rfl)
              · go_simp
                obtain ⟨V3, hV3⟩ : ∃ x, x = V2.alloc (.cells #[.int .i64 task, .int .i64 (one + two)] 41) := ⟨_, rfl⟩
                rw [← hV3]
                have hb3 : Below V2.heap.size V2 V3 := by rw [hV3]; exact (Below.refl _ _).alloc (Nat.le_refl _) _
                have HB3 : Hid (Below wc.heap.size wc V3) := HB2.out.trans (hb3.mono HB2.out.size)
                have HO3 := Sb.hide (own_keep HO2.out (fun b hb => hb3.block b (HO2.out.lt b hb).2))
                have HZ3 := Sb.hide ((hb3.block _ (lt_of_block HZ2.out)).trans HZ2.out)
                have HP3 : Hid (V3.heap[V2.heap.size]? = some (.cells #[.int .i64 task, .int .i64 (one + two)] 41 (0, 0))) := by unfold Hid; rw [hV3]; exact heap_alloc_new _ _
                have hsz3 : V2.heap.size < V3.heap.size := by rw [hV3]; simp
                clear hV3 hb3
                refine hK.out _ _ (HS.out V3 HB3.out) (fun hHeld => ?_)
                clear hK K
                refine wpAnyH_ready (rs := [3]) (by kernel_rfl) (by simp) ?_
                refine AllReadyH.cons (o := _) rfl (fun K hK => ?_) AllReadyH.nil
                refine step_append_src rfl (.tmp 58) (.tmp 59) 26 rfl wc.heap.size 41 i0 _ 2 16 Tryz.underlying26 hi hz0 hz1 hz2 rfl (by decide) _ 0 [] rfl HO3.out a N cap (pkCells ps) rfl (by rw [HN.out]; exact pk_none HPS.out) (by rw [HN.out]; exact fm_len pkc 2 (fun _ => rfl) ps) (pk_src (HPB.out _ HB3.out)) (pks_one ps) (by unfold maxLen; omega) (by omega) HB3.out.size ?_
                intro v3 V4 hown hgr
                have hgr2 : V3.grownBy V4 (some (V0.heap.size)) := hgr
                have hlt := HO3.out.lt (V0.heap.size) rfl
                have HB4 : Hid (Below wc.heap.size wc V4) := HB3.out.grown hgr2 HB3.out.size (fun b hb => by cases hb; exact hlt.1)
                have HR4 : Hid (V4.ownsRow wc.heap.size 41 2 v3 N (pkCells ps)) := by have := hown; rw [Nat.zero_add, List.nil_append] at this; exact this
                have HP4 := Sb.hide ((hgr2.block _ (lt_of_block HP3.out) (by simp; omega)).trans HP3.out)
                have HZ4 := Sb.hide ((hgr2.block _ (lt_of_block HZ3.out) (by simp; omega)).trans HZ3.out)
                have hsz4 := hgr2.size
                clear hown hgr hgr2 hlt
                refine hK.out _ _ (HS.out V4 HB4.out) (fun hHeld => ?_)
                clear hK K
                refine wpAnyH_ready (rs := [10]) (by kernel_rfl) (by simp) ?_
                refine AllReadyH.cons (o := _) rfl (fun K hK => ?_) AllReadyH.nil
                have hnw : ∀ ad, some (⟨V2.heap.size, 0, none⟩ : Addr) = some ad → ∀ j u, (pkCells [(⟨task, one + two⟩ : Pk)])[j]? = some u → V4.cell? (ad.add j) = some u := fun ad e j u hu => by cases e; exact pk_lit HP4.out j u hu
                refine step_append_src rfl (.tmp 60) (.tmp 66) 26 rfl wc.heap.size 41 i0 _ 2 16 Tryz.underlying26 hi hz0 hz1 hz2 rfl (by decide) v3 N (pkCells ps) rfl HR4.out (some ⟨V2.heap.size, 0, none⟩) 1 1 (pkCells [(⟨task, one + two⟩ : Pk)]) rfl (fun e => by cases e) rfl hnw (pks_one _) (by unfold maxLen; omega) (by omega) HB4.out.size ?_
                intro v4 V5 hown hgr
                have HB5 : Hid (Below wc.heap.size wc V5) := HB4.out.grown hgr HB4.out.size (fun b hb => (HR4.out.lt b hb).1)
                have HQ5 : Hid (V5.ownsRow wc.heap.size 41 2 v4 pl2.length (pkCells pl2)) := by rw [HPL2.out]; exact pk_more HN.out hown rfl
                have HZ5 := Sb.hide ((hgr.block _ (lt_of_block HZ4.out) (fun e => ty_ne HR4.out HZ4.out (by decide) e.symm)).trans HZ4.out)
                have hsz5 := hgr.size
                clear hown hgr hnw
                refine hK.out _ _ (HS.out V5 HB5.out) (fun hHeld => ?_)
                clear hK K
                exact wpAnyH_at (TAIL1 (V0.heap.size) (V2.heap.size) (V1.heap.size) v3 v4 V5 ⟨HB5, HQ5, HZ5, HB1.out.size⟩) (by kernel_rfl) (by kernel_rfl)
          · go_simp
            obtain ⟨V1, hV1⟩ : ∃ x, x = V0.alloc (.cells #[.int .i64 task, .int .i64 (one + two)] 41) := ⟨_, rfl⟩
            rw [← hV1]
            have hb1 : Below V0.heap.size V0 V1 := by rw [hV1]; exact (Below.refl _ _).alloc (Nat.le_refl _) _
            have HB1 : Hid (Below wc.heap.size wc V1) := HB0.out.trans (hb1.mono HB0.out.size)
            have HP1 : Hid (V1.heap[V0.heap.size]? = some (.cells #[.int .i64 task, .int .i64 (one + two)] 41 (0, 0))) := by unfold Hid; rw [hV1]; exact heap_alloc_new _ _
            have hsz1 : V0.heap.size < V1.heap.size := by rw [hV1]; simp
            clear hV1 hb1
            refine hK.out _ _ (HS.out V1 HB1.out) (fun hHeld => ?_)
            clear hK K
            refine wpAnyH_ready (rs := [1, 16]) (by kernel_rfl) (by simp) ?_
            refine AllReadyH.cons (o := _) rfl (fun K hK => ?_) (AllReadyH.cons (o := _) rfl (fun K hK => ?_) AllReadyH.nil)
            · go_simp
              obtain ⟨V2, hV2⟩ : ∃ x, x = V1.alloc (.cells #[] 41) := ⟨_, rfl⟩
              rw [← hV2]
              have hb2 : Below V1.heap.size V1 V2 := by rw [hV2]; exact (Below.refl _ _).alloc (Nat.le_refl _) _
              have HB2 : Hid (Below wc.heap.size wc V2) := HB1.out.trans (hb2.mono HB1.out.size)
              have HP2 := Sb.hide ((hb2.block _ (lt_of_block HP1.out)).trans HP1.out)
              have HO2 : Hid (V2.ownsRow wc.heap.size 41 2 (.slice (some ⟨V1.heap.size, 0, none⟩) 0 0) 0 []) := by unfold Hid; rw [hV2]; exact own_empty V1 41 HB1.out.size 2
              have hsz2 : V1.heap.size < V2.heap.size := by rw [hV2]; simp
              clear hV2 hb2
              refine hK.out _ _ (HS.out V2 HB2.out) (fun hHeld => ?_)
              clear hK K
              refine wpAnyH_ready (rs := [3, 16]) (by kernel_rfl) (by simp) ?_
              refine AllReadyH.cons (o := _) rfl (fun K hK => ?_) (AllReadyH.cons (o := _) rfl (fun K hK => ?_) AllReadyH.nil)
              · refine step_append_src rfl (.tmp 58) (.tmp 59) 26 rfl wc.heap.size 41 i0 _ 2 16 Tryz.underlying26 hi hz0 hz1 hz2 rfl (by decide) _ 0 [] rfl HO2.out a N cap (pkCells ps) rfl (by rw [HN.out]; exact pk_none HPS.out) (by rw [HN.out]; exact fm_len pkc 2 (fun _ => rfl) ps) (pk_src (HPB.out _ HB2.out)) (pks_one ps) (by unfold maxLen; omega) (by omega) HB2.out.size ?_
                intro v3 V3 hown hgr
                have hgr2 : V2.grownBy V3 (some (V1.heap.size)) := hgr
                have hlt := HO2.out.lt (V1.heap.size) rfl
                have HB3 : Hid (Below wc.heap.size wc V3) := HB2.out.grown hgr2 HB2.out.size (fun b hb => by cases hb; exact hlt.1)
                have HR3 : Hid (V3.ownsRow wc.heap.size 41 2 v3 N (pkCells ps)) := by have := hown; rw [Nat.zero_add, List.nil_append] at this; exact this
                have HP3 := Sb.hide ((hgr2.block _ (lt_of_block HP2.out) (by simp; omega)).trans HP2.out)
                have hsz3 := hgr2.size
                clear hown hgr hgr2 hlt
                refine hK.out _ _ (HS.out V3 HB3.out) (fun hHeld => ?_)
                clear hK K
                refine wpAnyH_ready (rs := [10, 16]) (by kernel_rfl) (by simp) ?_
                refine AllReadyH.cons (o := _) rfl (fun K hK => ?_) (AllReadyH.cons (o := _) rfl (fun K hK => ?_) AllReadyH.nil)
                · have hnw : ∀ ad, some (⟨V0.heap.size, 0, none⟩ : Addr) = some ad → ∀ j u, (pkCells [(⟨task, one + two⟩ : Pk)])[j]? = some u → V3.cell? (ad.add j) = some u := fun ad e j u hu => by cases e; exact pk_lit HP3.out j u hu
                  refine step_append_src rfl (.tmp 60) (.tmp 66) 26 rfl wc.heap.size 41 i0 _ 2 16 Tryz.underlying26 hi hz0 hz1 hz2 rfl (by decide) v3 N (pkCells ps) rfl HR3.out (some ⟨V0.heap.size, 0, none⟩) 1 1 (pkCells [(⟨task, one + two⟩ : Pk)]) rfl (fun e => by cases e) rfl hnw (pks_one _) (by unfold maxLen; omega) (by omega) HB3.out.size ?_
                  intro v4 V4 hown hgr
                  have HB4 : Hid (Below wc.heap.size wc V4) := HB3.out.grown hgr HB3.out.size (fun b hb => (HR3.out.lt b hb).1)
                  have HQ4 : Hid (V4.ownsRow wc.heap.size 41 2 v4 pl2.length (pkCells pl2)) := by rw [HPL2.out]; exact pk_more HN.out hown rfl
                  have hsz4 := hgr.size
                  clear hown hgr hnw
                  refine hK.out _ _ (HS.out V4 HB4.out) (fun hHeld => ?_)
                  clear hK K
                  exact wpAnyH_at (TAIL2 (V1.heap.size) (V0.heap.size) v3 v4 V4 ⟨HB4, HQ4⟩) (by kernel_rfl) (by kernel_rfl)
                · go_simp
                  obtain ⟨V4, hV4⟩ : ∃ x, x = V3.alloc (woZ) := ⟨_, rfl⟩
                  rw [← hV4]
                  have hb4 : Below V3.heap.size V3 V4 := by rw [hV4]; exact (Below.refl _ _).alloc (Nat.le_refl _) _
                  have HB4 : Hid (Below wc.heap.size wc V4) := HB3.out.trans (hb4.mono HB3.out.size)
                  have HR4 := Sb.hide (own_keep HR3.out (fun b hb => hb4.block b (HR3.out.lt b hb).2))
                  have HP4 := Sb.hide ((hb4.block _ (lt_of_block HP3.out)).trans HP3.out)
                  have HZ4 : Hid (V4.heap[V3.heap.size]? = some woZ) := by unfold Hid; rw [hV4]; exact heap_alloc_new _ _
                  have hsz4 : V3.heap.size < V4.heap.size := by rw [hV4]; simp
                  clear hV4 hb4
                  refine hK.out _ _ (HS.out V4 HB4.out) (fun hHeld => ?_)
                  clear hK K
                  refine wpAnyH_ready (rs := [10]) (by kernel_rfl) (by simp) ?_
                  refine AllReadyH.cons (o := _) rfl (fun K hK => ?_) AllReadyH.nil
                  have hnw : ∀ ad, some (⟨V0.heap.size, 0, none⟩ : Addr) = some ad → ∀ j u, (pkCells [(⟨task, one + two⟩ : Pk)])[j]? = some u → V4.cell? (ad.add j) = some u := fun ad e j u hu => by cases e; exact pk_lit HP4.out j u hu
                  refine step_append_src rfl (.tmp 60) (.tmp 66) 26 rfl wc.heap.size 41 i0 _ 2 16 Tryz.underlying26 hi hz0 hz1 hz2 rfl (by decide) v3 N (pkCells ps) rfl HR4.out (some ⟨V0.heap.size, 0, none⟩) 1 1 (pkCells [(⟨task, one + two⟩ : Pk)]) rfl (fun e => by cases e) rfl hnw (pks_one _) (by unfold maxLen; omega) (by omega) HB4.out.size ?_
                  intro v4 V5 hown hgr
                  have HB5 : Hid (Below wc.heap.size wc V5) := HB4.out.grown hgr HB4.out.size (fun b hb => (HR4.out.lt b hb).1)
                  have HQ5 : Hid (V5.ownsRow wc.heap.size 41 2 v4 pl2.length (pkCells pl2)) := by rw [HPL2.out]; exact pk_more HN.out hown rfl
                  have HZ5 := Sb.hide ((hgr.block _ (lt_of_block HZ4.out) (fun e => ty_ne HR4.out HZ4.out (by decide) e.symm)).trans HZ4.out)
                  have hsz5 := hgr.size
                  clear hown hgr hnw
                  refine hK.out _ _ (HS.out V5 HB5.out) (fun hHeld => ?_)
                  clear hK K
                  exact wpAnyH_at (TAIL1 (V1.heap.size) (V0.heap.size) (V3.heap.size) v3 v4 V5 ⟨HB5, HQ5, HZ5, HB3.out.size⟩) (by kernel_rfl) (by kernel_rfl)
              · go_simp
                obtain ⟨V3, hV3⟩ : ∃ x, x = V2.alloc (woZ) := ⟨_, rfl⟩
                rw [← hV3]
                have hb3 : Below V2.heap.size V2 V3 := by rw [hV3]; exact (Below.refl _ _).alloc (Nat.le_refl _) _
                have HB3 : Hid (Below wc.heap.size wc V3) := HB2.out.trans (hb3.mono HB2.out.size)
                have HO3 := Sb.hide (own_keep HO2.out (fun b hb => hb3.block b (HO2.out.lt b hb).2))
                have HP3 := Sb.hide ((hb3.block _ (lt_of_block HP2.out)).trans HP2.out)
                have HZ3 : Hid (V3.heap[V2.heap.size]? = some woZ) := by unfold Hid; rw [hV3]; exact heap_alloc_new _ _
                have hsz3 : V2.heap.size < V3.heap.size := by rw [hV3]; simp
                clear hV3 hb3
                refine hK.out _ _ (HS.out V3 HB3.out) (fun hHeld => ?_)
                clear hK K
                refine wpAnyH_ready (rs := [3]) (by kernel_rfl) (by simp) ?_
                refine AllReadyH.cons (o := _) rfl (fun K hK => ?_) AllReadyH.nil
                refine step_append_src rfl (.tmp 58) (.tmp 59) 26 rfl wc.heap.size 41 i0 _ 2 16 Tryz.underlying26 hi hz0 hz1 hz2 rfl (by decide) _ 0 [] rfl HO3.out a N cap (pkCells ps) rfl (by rw [HN.out]; exact pk_none HPS.out) (by rw [HN.out]; exact fm_len pkc 2 (fun _ => rfl) ps) (pk_src (HPB.out _ HB3.out)) (pks_one ps) (by unfold maxLen; omega) (by omega) HB3.out.size ?_
                intro v3 V4 hown hgr
                have hgr2 : V3.grownBy V4 (some (V1.heap.size)) := hgr
                have hlt := HO3.out.lt (V1.heap.size) rfl
                have HB4 : Hid (Below wc.heap.size wc V4) := HB3.out.grown hgr2 HB3.out.size (fun b hb => by cases hb; exact hlt.1)
                have HR4 : Hid (V4.ownsRow wc.heap.size 41 2 v3 N (pkCells ps)) := by have := hown; rw [Nat.zero_add, List.nil_append] at this; exact this
                have HP4 := Sb.hide ((hgr2.block _ (lt_of_block HP3.out) (by simp; omega)).trans HP3.out)
                have HZ4 := Sb.hide ((hgr2.block _ (lt_of_block HZ3.out) (by simp; omega)).trans HZ3.out)
                have hsz4 := hgr2.size
                clear hown hgr hgr2 hlt
                refine hK.out _ _ (HS.out V4 HB4.out) (fun hHeld => ?_)
                clear hK K
                refine wpAnyH_ready (rs := [10]) (by kernel_rfl) (by simp) ?_
                refine AllReadyH.cons (o := _) rfl (fun K hK => ?_) AllReadyH.nil
                have hnw : ∀ ad, some (⟨V0.heap.size, 0, none⟩ : Addr) = some ad → ∀ j u, (pkCells [(⟨task, one + two⟩ : Pk)])[j]? = some u → V4.cell? (ad.add j) = some u := fun ad e j u hu => by cases e; exact pk_lit HP4.out j u hu
                refine step_append_src rfl (.tmp 60) (.tmp 66) 26 rfl wc.heap.size 41 i0 _ 2 16 Tryz.underlying26 hi hz0 hz1 hz2 rfl (by decide) v3 N (pkCells ps) rfl HR4.out (some ⟨V0.heap.size, 0, none⟩) 1 1 (pkCells [(⟨task, one + two⟩ : Pk)]) rfl (fun e => by cases e) rfl hnw (pks_one _) (by unfold maxLen; omega) (by omega) HB4.out.size ?_
                intro v4 V5 hown hgr
                have HB5 : Hid (Below wc.heap.size wc V5) := HB4.out.grown hgr HB4.out.size (fun b hb => (HR4.out.lt b hb).1)
                have HQ5 : Hid (V5.ownsRow wc.heap.size 41 2 v4 pl2.length (pkCells pl2)) := by rw [HPL2.out]; exact pk_more HN.out hown rfl
                have HZ5 := Sb.hide ((hgr.block _ (lt_of_block HZ4.out) (fun e => ty_ne HR4.out HZ4.out (by decide) e.symm)).trans HZ4.out)
                have hsz5 := hgr.size
                clear hown hgr hnw
                refine hK.out _ _ (HS.out V5 HB5.out) (fun hHeld => ?_)
                clear hK K
                exact wpAnyH_at (TAIL1 (V1.heap.size) (V0.heap.size) (V2.heap.size) v3 v4 V5 ⟨HB5, HQ5, HZ5, HB2.out.size⟩) (by kernel_rfl) (by kernel_rfl)
            · go_simp
              obtain ⟨V2, hV2⟩ : ∃ x, x = V1.alloc (woZ) := ⟨_, rfl⟩
              rw [← hV2]
              have hb2 : Below V1.heap.size V1 V2 := by rw [hV2]; exact (Below.refl _ _).alloc (Nat.le_refl _) _
              have HB2 : Hid (Below wc.heap.size wc V2) := HB1.out.trans (hb2.mono HB1.out.size)
              have HP2 := Sb.hide ((hb2.block _ (lt_of_block HP1.out)).trans HP1.out)
              have HZ2 : Hid (V2.heap[V1.heap.size]? = some woZ) := by unfold Hid; rw [hV2]; exact heap_alloc_new _ _
              have hsz2 : V1.heap.size < V2.heap.size := by rw [hV2]; simp
              clear hV2 hb2
              refine hK.out _ _ (HS.out V2 HB2.out) (fun hHeld => ?_)
              clear hK K
              refine wpAnyH_ready (rs := [1]) (by kernel_rfl) (by simp) ?_
              refine AllReadyH.cons (o := _) rfl (fun K hK => ?_) AllReadyH.nil
              go_simp
              obtain ⟨V3, hV3⟩ : ∃ x, x = V2.alloc (.cells #[] 41) := ⟨_, rfl⟩
              rw [← hV3]
              have hb3 : Below V2.heap.size V2 V3 := by rw [hV3]; exact (Below.refl _ _).alloc (Nat.le_refl _) _
              have HB3 : Hid (Below wc.heap.size wc V3) := HB2.out.trans (hb3.mono HB2.out.size)
              have HP3 := Sb.hide ((hb3.block _ (lt_of_block HP2.out)).trans HP2.out)
              have HZ3 := Sb.hide ((hb3.block _ (lt_of_block HZ2.out)).trans HZ2.out)
              have HO3 : Hid (V3.ownsRow wc.heap.size 41 2 (.slice (some ⟨V2.heap.size, 0, none⟩) 0 0) 0 []) := by unfold Hid; rw [hV3]; exact own_empty V2 41 HB2.out.size 2
              have hsz3 : V2.heap.size < V3.heap.size := by rw [hV3]; simp
              clear hV3 hb3
              refine hK.out _ _ (HS.out V3 HB3.out) (fun hHeld => ?_)
              clear hK K
              refine wpAnyH_ready (rs := [3]) (by kernel_rfl) (by simp) ?_
              refine AllReadyH.cons (o := _) rfl (fun K hK => ?_) AllReadyH.nil
              refine step_append_src rfl (.tmp 58) (.tmp 59) 26 rfl wc.heap.size 41 i0 _ 2 16 Tryz.underlying26 hi hz0 hz1 hz2 rfl (by decide) _ 0 [] rfl HO3.out a N cap (pkCells ps) rfl (by rw [HN.out]; exact pk_none HPS.out) (by rw [HN.out]; exact fm_len pkc 2 (fun _ => rfl) ps) (pk_src (HPB.out _ HB3.out)) (pks_one ps) (by unfold maxLen; omega) (by omega) HB3.out.size ?_
              intro v3 V4 hown hgr
              have hgr2 : V3.grownBy V4 (some (V2.heap.size)) := hgr
              have hlt := HO3.out.lt (V2.heap.size) rfl
              have HB4 : Hid (Below wc.heap.size wc V4) := HB3.out.grown hgr2 HB3.out.size (fun b hb => by cases hb; exact hlt.1)
              have HR4 : Hid (V4.ownsRow wc.heap.size 41 2 v3 N (pkCells ps)) := by have := hown; rw [Nat.zero_add, List.nil_append] at this; exact this
              have HP4 := Sb.hide ((hgr2.block _ (lt_of_block HP3.out) (by simp; omega)).trans HP3.out)
              have HZ4 := Sb.hide ((hgr2.block _ (lt_of_block HZ3.out) (by simp; omega)).trans HZ3.out)
              have hsz4 := hgr2.size
              clear hown hgr hgr2 hlt
              refine hK.out _ _ (HS.out V4 HB4.out) (fun hHeld => ?_)
              clear hK K
              refine wpAnyH_ready (rs := [10]) (by kernel_rfl) (by simp) ?_
              refine AllReadyH.cons (o := _) rfl (fun K hK => ?_) AllReadyH.nil
              have hnw : ∀ ad, some (⟨V0.heap.size, 0, none⟩ : Addr) = some ad → ∀ j u, (pkCells [(⟨task, one + two⟩ : Pk)])[j]? = some u → V4.cell? (ad.add j) = some u := fun ad e j u hu => by cases e; exact pk_lit HP4.out j u hu
              refine step_append_src rfl (.tmp 60) (.tmp 66) 26 rfl wc.heap.size 41 i0 _ 2 16 Tryz.underlying26 hi hz0 hz1 hz2 rfl (by decide) v3 N (pkCells ps) rfl HR4.out (some ⟨V0.heap.size, 0, none⟩) 1 1 (pkCells [(⟨task, one + two⟩ : Pk)]) rfl (fun e => by cases e) rfl hnw (pks_one _) (by unfold maxLen; omega) (by omega) HB4.out.size ?_
              intro v4 V5 hown hgr
              have HB5 : Hid (Below wc.heap.size wc V5) := HB4.out.grown hgr HB4.out.size (fun b hb => (HR4.out.lt b hb).1)
              have HQ5 : Hid (V5.ownsRow wc.heap.size 41 2 v4 pl2.length (pkCells pl2)) := by rw [HPL2.out]; exact pk_more HN.out hown rfl
              have HZ5 := Sb.hide ((hgr.block _ (lt_of_block HZ4.out) (fun e => ty_ne HR4.out HZ4.out (by decide) e.symm)).trans HZ4.out)
              have hsz5 := hgr.size
              clear hown hgr hnw
              refine hK.out _ _ (HS.out V5 HB5.out) (fun hHeld => ?_)
              clear hK K
              exact wpAnyH_at (TAIL1 (V2.heap.size) (V0.heap.size) (V1.heap.size) v3 v4 V5 ⟨HB5, HQ5, HZ5, HB1.out.size⟩) (by kernel_rfl) (by kernel_rfl)
          · go_simp
            obtain ⟨V1, hV1⟩ : ∃ x, x = V0.alloc (woZ) := ⟨_, rfl⟩
            rw [← hV1]
            have hb1 : Below V0.heap.size V0 V1 := by rw [hV1]; exact (Below.refl _ _).alloc (Nat.le_refl _) _
            have HB1 : Hid (Below wc.heap.size wc V1) := HB0.out.trans (hb1.mono HB0.out.size)
            have HZ1 : Hid (V1.heap[V0.heap.size]? = some woZ) := by unfold Hid; rw [hV1]; exact heap_alloc_new _ _
            have hsz1 : V0.heap.size < V1.heap.size := by rw [hV1]; simp
            clear hV1 hb1
            refine hK.out _ _ (HS.out V1 HB1.out) (fun hHeld => ?_)
            clear hK K
            refine wpAnyH_ready (rs := [1, 9]) (by kernel_rfl) (by simp) ?_
            refine AllReadyH.cons (o := _) rfl (fun K hK => ?_) (AllReadyH.cons (o := _) rfl (fun K hK => ?_) AllReadyH.nil)
            · go_simp
              obtain ⟨V2, hV2⟩ : ∃ x, x = V1.alloc (.cells #[] 41) := ⟨_, rfl⟩
              rw [← hV2]
              have hb2 : Below V1.heap.size V1 V2 := by rw [hV2]; exact (Below.refl _ _).alloc (Nat.le_refl _) _
              have HB2 : Hid (Below wc.heap.size wc V2) := HB1.out.trans (hb2.mono HB1.out.size)
              have HZ2 := Sb.hide ((hb2.block _ (lt_of_block HZ1.out)).trans HZ1.out)
              have HO2 : Hid (V2.ownsRow wc.heap.size 41 2 (.slice (some ⟨V1.heap.size, 0, none⟩) 0 0) 0 []) := by unfold Hid; rw [hV2]; exact own_empty V1 41 HB1.out.size 2
              have hsz2 : V1.heap.size < V2.heap.size := by rw [hV2]; simp
              clear hV2 hb2
              refine hK.out _ _ (HS.out V2 HB2.out) (fun hHeld => ?_)
              clear hK K
              refine wpAnyH_ready (rs := [3, 9]) (by kernel_rfl) (by simp) ?_
              refine AllReadyH.cons (o := _) rfl (fun K hK => ?_) (AllReadyH.cons (o := _) rfl (fun K hK => ?_) AllReadyH.nil)
              · refine step_append_src rfl (.tmp 58) (.tmp 59) 26 rfl wc.heap.size 41 i0 _ 2 16 Tryz.underlying26 hi hz0 hz1 hz2 rfl (by decide) _ 0 [] rfl HO2.out a N cap (pkCells ps) rfl (by rw [HN.out]; exact pk_none HPS.out) (by rw [HN.out]; exact fm_len pkc 2 (fun _ => rfl) ps) (pk_src (HPB.out _ HB2.out)) (pks_one ps) (by unfold maxLen; omega) (by omega) HB2.out.size ?_
                intro v3 V3 hown hgr
                have hgr2 : V2.grownBy V3 (some (V1.heap.size)) := hgr
                have hlt := HO2.out.lt (V1.heap.size) rfl
                have HB3 : Hid (Below wc.heap.size wc V3) := HB2.out.grown hgr2 HB2.out.size (fun b hb => by cases hb; exact hlt.1)
                have HR3 : Hid (V3.ownsRow wc.heap.size 41 2 v3 N (pkCells ps)) := by have := hown; rw [Nat.zero_add, List.nil_append] at this; exact this
                have HZ3 := Sb.hide ((hgr2.block _ (lt_of_block HZ2.out) (by simp; omega)).trans HZ2.out)
                have hsz3 := hgr2.size
                clear hown hgr hgr2 hlt
                refine hK.out _ _ (HS.out V3 HB3.out) (fun hHeld => ?_)
                clear hK K
                refine wpAnyH_ready (rs := [9]) (by kernel_rfl) (by simp) ?_
                refine AllReadyH.cons (o := _) rfl (fun K hK => ?_) AllReadyH.nil
                go_simp
                obtain ⟨V4, hV4⟩ : ∃ x, x = V3.alloc (.cells #[.int .i64 task, .int .i64 (one + two)] 41) := ⟨_, rfl⟩
                rw [← hV4]
                have hb4 : Below V3.heap.size V3 V4 := by rw [hV4]; exact (Below.refl _ _).alloc (Nat.le_refl _) _
                have HB4 : Hid (Below wc.heap.size wc V4) := HB3.out.trans (hb4.mono HB3.out.size)
                have HR4 := Sb.hide (own_keep HR3.out (fun b hb => hb4.block b (HR3.out.lt b hb).2))
                have HZ4 := Sb.hide ((hb4.block _ (lt_of_block HZ3.out)).trans HZ3.out)
                have HP4 : Hid (V4.heap[V3.heap.size]? = some (.cells #[.int .i64 task, .int .i64 (one + two)] 41 (0, 0))) := by unfold Hid; rw [hV4]; exact heap_alloc_new _ _
                have hsz4 : V3.heap.size < V4.heap.size := by rw [hV4]; simp
                clear hV4 hb4
                refine hK.out _ _ (HS.out V4 HB4.out) (fun hHeld => ?_)
                clear hK K
                refine wpAnyH_ready (rs := [10]) (by kernel_rfl) (by simp) ?_
                refine AllReadyH.cons (o := _) rfl (fun K hK => ?_) AllReadyH.nil
                have hnw : ∀ ad, some (⟨V3.heap.size, 0, none⟩ : Addr) = some ad → ∀ j u, (pkCells [(⟨task, one + two⟩ : Pk)])[j]? = some u → V4.cell? (ad.add j) = some u := fun ad e j u hu => by cases e; exact pk_lit HP4.out j u hu
                refine step_append_src rfl (.tmp 60) (.tmp 66) 26 rfl wc.heap.size 41 i0 _ 2 16 Tryz.underlying26 hi hz0 hz1 hz2 rfl (by decide) v3 N (pkCells ps) rfl HR4.out (some ⟨V3.heap.size, 0, none⟩) 1 1 (pkCells [(⟨task, one + two⟩ : Pk)]) rfl (fun e => by cases e) rfl hnw (pks_one _) (by unfold maxLen; omega) (by omega) HB4.out.size ?_
                intro v4 V5 hown hgr
                have HB5 : Hid (Below wc.heap.size wc V5) := HB4.out.grown hgr HB4.out.size (fun b hb => (HR4.out.lt b hb).1)
                have HQ5 : Hid (V5.ownsRow wc.heap.size 41 2 v4 pl2.length (pkCells pl2)) := by rw [HPL2.out]; exact pk_more HN.out hown rfl
                have HZ5 := Sb.hide ((hgr.block _ (lt_of_block HZ4.out) (fun e => ty_ne HR4.out HZ4.out (by decide) e.symm)).trans HZ4.out)
                have hsz5 := hgr.size
                clear hown hgr hnw
                refine hK.out _ _ (HS.out V5 HB5.out) (fun hHeld => ?_)
                clear hK K
                exact wpAnyH_at (TAIL1 (V1.heap.size) (V3.heap.size) (V0.heap.size) v3 v4 V5 ⟨HB5, HQ5, HZ5, HB0.out.size⟩) (by kernel_rfl) (by kernel_rfl)
              · go_simp
                obtain ⟨V3, hV3⟩ : ∃ x, x = V2.alloc (.cells #[.int .i64 task, .int .i64 (one + two)] 41) := ⟨_, rfl⟩
                rw [← hV3]
                have hb3 : Below V2.heap.size V2 V3 := by rw [hV3]; exact (Below.refl _ _).alloc (Nat.le_refl _) _
                have HB3 : Hid (Below wc.heap.size wc V3) := HB2.out.trans (hb3.mono HB2.out.size)
                have HO3 := Sb.hide (own_keep HO2.out (fun b hb => hb3.block b (HO2.out.lt b hb).2))
                have HZ3 := Sb.hide ((hb3.block _ (lt_of_block HZ2.out)).trans HZ2.out)
                have HP3 : Hid (V3.heap[V2.heap.size]? = some (.cells #[.int .i64 task, .int .i64 (one + two)] 41 (0, 0))) := by unfold Hid; rw [hV3]; exact heap_alloc_new _ _
                have hsz3 : V2.heap.size < V3.heap.size := by rw [hV3]; simp
                clear hV3 hb3
                refine hK.out _ _ (HS.out V3 HB3.out) (fun hHeld => ?_)
                clear hK K
                refine wpAnyH_ready (rs := [3]) (by kernel_rfl) (by simp) ?_
                refine AllReadyH.cons (o := _) rfl (fun K hK => ?_) AllReadyH.nil
                refine step_append_src rfl (.tmp 58) (.tmp 59) 26 rfl wc.heap.size 41 i0 _ 2 16 Tryz.underlying26 hi hz0 hz1 hz2 rfl (by decide) _ 0 [] rfl HO3.out a N cap (pkCells ps) rfl (by rw [HN.out]; exact pk_none HPS.out) (by rw [HN.out]; exact fm_len pkc 2 (fun _ => rfl) ps) (pk_src (HPB.out _ HB3.out)) (pks_one ps) (by unfold maxLen; omega) (by omega) HB3.out.size ?_
                intro v3 V4 hown hgr
                have hgr2 : V3.grownBy V4 (some (V1.heap.size)) := hgr
                have hlt := HO3.out.lt (V1.heap.size) rfl
                have HB4 : Hid (Below wc.heap.size wc V4) := HB3.out.grown hgr2 HB3.out.size (fun b hb => by cases hb; exact hlt.1)
                have HR4 : Hid (V4.ownsRow wc.heap.size 41 2 v3 N (pkCells ps)) := by have := hown; rw [Nat.zero_add, List.nil_append] at this; exact this
                have HP4 := Sb.hide ((hgr2.block _ (lt_of_block HP3.out) (by simp; omega)).trans HP3.out)
                have HZ4 := Sb.hide ((hgr2.block _ (lt_of_block HZ3.out) (by simp; omega)).trans HZ3.out)
                have hsz4 := hgr2.size
                clear hown hgr hgr2 hlt
                refine hK.out _ _ (HS.out V4 HB4.out) (fun hHeld => ?_)
                clear hK K
                refine wpAnyH_ready (rs := [10]) (by kernel_rfl) (by simp) ?_
                refine AllReadyH.cons (o := _) rfl (fun K hK => ?_) AllReadyH.nil
                have hnw : ∀ ad, some (⟨V2.heap.size, 0, none⟩ : Addr) = some ad → ∀ j u, (pkCells [(⟨task, one + two⟩ : Pk)])[j]? = some u → V4.cell? (ad.add j) = some u := fun ad e j u hu => by cases e; exact pk_lit HP4.out j u hu
                refine step_append_src rfl (.tmp 60) (.tmp 66) 26 rfl wc.heap.size 41 i0 _ 2 16 Tryz.underlying26 hi hz0 hz1 hz2 rfl (by decide) v3 N (pkCells ps) rfl HR4.out (some ⟨V2.heap.size, 0, none⟩) 1 1 (pkCells [(⟨task, one + two⟩ : Pk)]) rfl (fun e => by cases e) rfl hnw (pks_one _) (by unfold maxLen; omega) (by omega) HB4.out.size ?_
                intro v4 V5 hown hgr
                have HB5 : Hid (Below wc.heap.size wc V5) := HB4.out.grown hgr HB4.out.size (fun b hb => (HR4.out.lt b hb).1)
                have HQ5 : Hid (V5.ownsRow wc.heap.size 41 2 v4 pl2.length (pkCells pl2)) := by rw [HPL2.out]; exact pk_more HN.out hown rfl
                have HZ5 := Sb.hide ((hgr.block _ (lt_of_block HZ4.out) (fun e => ty_ne HR4.out HZ4.out (by decide) e.symm)).trans HZ4.out)
                have hsz5 := hgr.size
                clear hown hgr hnw
                refine hK.out _ _ (HS.out V5 HB5.out) (fun hHeld => ?_)
                clear hK K
                exact wpAnyH_at (TAIL1 (V1.heap.size) (V2.heap.size) (V0.heap.size) v3 v4 V5 ⟨HB5, HQ5, HZ5, HB0.out.size⟩) (by kernel_rfl) (by kernel_rfl)
            · go_simp
              obtain ⟨V2, hV2⟩ : ∃ x, x = V1.alloc (.cells #[.int .i64 task, .int .i64 (one + two)] 41) := ⟨_, rfl⟩
              rw [← hV2]
              have hb2 : Below V1.heap.size V1 V2 := by rw [hV2]; exact (Below.refl _ _).alloc (Nat.le_refl _) _
              have HB2 : Hid (Below wc.heap.size wc V2) := HB1.out.trans (hb2.mono HB1.out.size)
              have HZ2 := Sb.hide ((hb2.block _ (lt_of_block HZ1.out)).trans HZ1.out)
              have HP2 : Hid (V2.heap[V1.heap.size]? = some (.cells #[.int .i64 task, .int .i64 (one + two)] 41 (0, 0))) := by unfold Hid; rw [hV2]; exact heap_alloc_new _ _
              have hsz2 : V1.heap.size < V2.heap.size := by rw [hV2]; simp
              clear hV2 hb2
              refine hK.out _ _ (HS.out V2 HB2.out) (fun hHeld => ?_)
              clear hK K
              refine wpAnyH_ready (rs := [1]) (by kernel_rfl) (by simp) ?_
              refine AllReadyH.cons (o := _) rfl (fun K hK => ?_) AllReadyH.nil
              go_simp
              obtain ⟨V3, hV3⟩ : ∃ x, x = V2.alloc (.cells #[] 41) := ⟨_, rfl⟩
              rw [← hV3]
              have hb3 : Below V2.heap.size V2 V3 := by rw [hV3]; exact (Below.refl _ _).alloc (Nat.le_refl _) _
              have HB3 : Hid (Below wc.heap.size wc V3) := HB2.out.trans (hb3.mono HB2.out.size)
              have HP3 := Sb.hide ((hb3.block _ (lt_of_block HP2.out)).trans HP2.out)
              have HZ3 := Sb.hide ((hb3.block _ (lt_of_block HZ2.out)).trans HZ2.out)
              have HO3 : Hid (V3.ownsRow wc.heap.size 41 2 (.slice (some ⟨V2.heap.size, 0, none⟩) 0 0) 0 []) := by unfold Hid; rw [hV3]; exact own_empty V2 41 HB2.out.size 2
              have hsz3 : V2.heap.size < V3.heap.size := by rw [hV3]; simp
              clear hV3 hb3
              refine hK.out _ _ (HS.out V3 HB3.out) (fun hHeld => ?_)
              clear hK K
              refine wpAnyH_ready (rs := [3]) (by kernel_rfl) (by simp) ?_
              refine AllReadyH.cons (o := _) rfl (fun K hK => ?_) AllReadyH.nil
              refine step_append_src rfl (.tmp 58) (.tmp 59) 26 rfl wc.heap.size 41 i0 _ 2 16 Tryz.underlying26 hi hz0 hz1 hz2 rfl (by decide) _ 0 [] rfl HO3.out a N cap (pkCells ps) rfl (by rw [HN.out]; exact pk_none HPS.out) (by rw [HN.out]; exact fm_len pkc 2 (fun _ => rfl) ps) (pk_src (HPB.out _ HB3.out)) (pks_one ps) (by unfold maxLen; omega) (by omega) HB3.out.size ?_
              intro v3 V4 hown hgr
              have hgr2 : V3.grownBy V4 (some (V2.heap.size)) := hgr
              have hlt := HO3.out.lt (V2.heap.size) rfl
              have HB4 : Hid (Below wc.heap.size wc V4) := HB3.out.grown hgr2 HB3.out.size (fun b hb => by cases hb; exact hlt.1)
              have HR4 : Hid (V4.ownsRow wc.heap.size 41 2 v3 N (pkCells ps)) := by have := hown; rw [Nat.zero_add, List.nil_append] at this; exact this
              have HP4 := Sb.hide ((hgr2.block _ (lt_of_block HP3.out) (by simp; omega)).trans HP3.out)
              have HZ4 := Sb.hide ((hgr2.block _ (lt_of_block HZ3.out) (by simp; omega)).trans HZ3.out)
              have hsz4 := hgr2.size
              clear hown hgr hgr2 hlt
              refine hK.out _ _ (HS.out V4 HB4.out) (fun hHeld => ?_)
              clear hK K
              refine wpAnyH_ready (rs := [10]) (by kernel_rfl) (by simp) ?_
              refine AllReadyH.cons (o := _) rfl (fun K hK => ?_) AllReadyH.nil
              have hnw : ∀ ad, some (⟨V1.heap.size, 0, none⟩ : Addr) = some ad → ∀ j u, (pkCells [(⟨task, one + two⟩ : Pk)])[j]? = some u → V4.cell? (ad.add j) = some u := fun ad e j u hu => by cases e; exact pk_lit HP4.out j u hu
              refine step_append_src rfl (.tmp 60) (.tmp 66) 26 rfl wc.heap.size 41 i0 _ 2 16 Tryz.underlying26 hi hz0 hz1 hz2 rfl (by decide) v3 N (pkCells ps) rfl HR4.out (some ⟨V1.heap.size, 0, none⟩) 1 1 (pkCells [(⟨task, one + two⟩ : Pk)]) rfl (fun e => by cases e) rfl hnw (pks_one _) (by unfold maxLen; omega) (by omega) HB4.out.size ?_
              intro v4 V5 hown hgr
              have HB5 : Hid (Below wc.heap.size wc V5) := HB4.out.grown hgr HB4.out.size (fun b hb => (HR4.out.lt b hb).1)
              have HQ5 : Hid (V5.ownsRow wc.heap.size 41 2 v4 pl2.length (pkCells pl2)) := by rw [HPL2.out]; exact pk_more HN.out hown rfl
              have HZ5 := Sb.hide ((hgr.block _ (lt_of_block HZ4.out) (fun e => ty_ne HR4.out HZ4.out (by decide) e.symm)).trans HZ4.out)
              have hsz5 := hgr.size
              clear hown hgr hnw
              refine hK.out _ _ (HS.out V5 HB5.out) (fun hHeld => ?_)
              clear hK K
              exact wpAnyH_at (TAIL1 (V2.heap.size) (V1.heap.size) (V0.heap.size) v3 v4 V5 ⟨HB5, HQ5, HZ5, HB0.out.size⟩) (by kernel_rfl) (by kernel_rfl)
        case tail =>
          rintro b41 b50 v3 v4 Vf ⟨HBf, HQf⟩
          refine wpAnyH_ready (rs := [11, 16]) (by kernel_rfl) (by simp) ?_
          refine AllReadyH.cons (o := _) rfl (fun K hK => ?_) (AllReadyH.cons (o := _) rfl (fun K hK => ?_) AllReadyH.nil)
          · obtain ⟨pa, pc, rfl, hpk⟩ := own_picks HQf.out
            go_simp
            refine (Run_any m ab au cb cu Vf.heap.size pl2 pa pc Vf (Sb.hide (HMB.out _ HBf.out)) (Sb.hide hpk) (Nat.le_refl _) E (Sb.hide (HWE.out _ hle2))).mono ?_
            rintro e Vg ⟨hbn, hr⟩
            obtain ⟨ea, na, ec, ba, nb, bc, da, dn, dc, st, rfl, hX⟩ := ran_form hr
            have HXg := Sb.hide (by rw [HPL2.out, ← HRB.out] at hX; exact hX)
            have HBg := Sb.hide (HBf.out.trans (hbn.mono HBf.out.size))
            clear hr hX hpk hbn
            refine hK.out _ _ (HS.out Vg HBg.out) (fun hHeld => ?_)
            clear hK K
            refine wpAnyH_take (i := 12) (oi := _) (v := ?_) rfl (by kernel_rfl) (by kernel_rfl) (by kernel_rfl) (fun _ _ _ h => h) (Or.inl ⟨by rfl, ?_⟩) (by assumption) ?_
            rotate_left
            · intro w hSw
              (try dsimp only at hSw)
              go_simp
              (try with_reducible rfl)
            (try go_frame)
            refine wpAnyH_take (i := 13) (oi := _) (v := ?_) rfl (by kernel_rfl) (by kernel_rfl) (by kernel_rfl) (fun _ _ _ h => h) (Or.inl ⟨by rfl, ?_⟩) (by assumption) ?_
            rotate_left
            · intro w hSw
              (try dsimp only at hSw)
              go_simp
              (try with_reducible rfl)
            (try go_frame)
            refine wpAnyH_take (i := 14) (oi := _) (v := ?_) rfl (by kernel_rfl) (by kernel_rfl) (by kernel_rfl) (fun _ _ _ h => h) (Or.inl ⟨by rfl, ?_⟩) (by assumption) ?_
            rotate_left
            · intro w hSw
              (try dsimp only at hSw)
              go_simp
              (try with_reducible rfl)
            (try go_frame)
            refine wpAnyH_take (i := 15) (oi := _) (v := ?_) rfl (by kernel_rfl) (by kernel_rfl) (by kernel_rfl) (fun _ _ _ h => h) (Or.inl ⟨by rfl, ?_⟩) (by assumption) ?_
            rotate_left
            · intro w hSw
              (try dsimp only at hSw)
              go_simp
              (try with_reducible rfl)
            (try go_frame)
            refine wpAnyH_ready (rs := [16]) (by kernel_rfl) (by simp) ?_
            refine AllReadyH.cons (o := _) rfl (fun K hK => ?_) AllReadyH.nil
            go_simp
            obtain ⟨Vh, hVn⟩ : ∃ x, x = Vg.alloc woZ := ⟨_, rfl⟩
            rw [← hVn]
            obtain ⟨b11, hb11⟩ : ∃ b, b = Vg.heap.size := ⟨_, rfl⟩
            rw [← hb11]
            have hbn : Below Vg.heap.size Vg Vh := by rw [hVn]; exact (Below.refl _ _).alloc (Nat.le_refl _) _
            have HBh := Sb.hide (HBg.out.trans (hbn.mono HBg.out.size))
            have HZh : Hid (Vh.heap[b11]? = some woZ) := by unfold Hid; rw [hVn, hb11]; exact heap_alloc_new _ _
            have hbl : wc.heap.size ≤ b11 := by rw [hb11]; exact HBg.out.size
            have HXh := Sb.hide (HXg.out.below hbn)
            clear hVn hb11 hbn
            refine hK.out _ _ (HS.out Vh HBh.out) (fun hHeld => ?_)
            clear hK K
            have zz := (wo_cells HZh.out).1
            have zf := (wo_cells HZh.out).2
            refine wpAnyH_ready (rs := [17]) (by kernel_rfl) (by simp) ?_
            refine AllReadyH.cons (o := _) rfl (fun K hK => ?_) AllReadyH.nil
            go_simp
            have hfe : QAt wc m E R2 (.pointer (some ⟨b11, 0, none⟩)) (.int .i64 E) (fillW Vh b11 (.slice ea na ec) (.slice ba nb bc) (.int .i64 st)) := QAt.mk' HVF.out HBh.out hbl HZh.out HXh.out
            have hfb := fillW_below (v0 := .slice ea na ec) (v1 := .slice ba nb bc) (v2 := .int .i64 st) HBh.out hbl
            unfold fillW at hfe hfb
            refine hK.out _ _ (HS.out _ hfb) (fun hHeld => ?_)
            clear hK K zz zf
            have HFE := Sb.hide hfe
            clear hfe hfb
            generalize ((Vh.setCell ⟨b11, 0, none⟩ (.slice ea na ec)).setCell ⟨b11, 1, none⟩ (.slice ba nb bc)).setCell ⟨b11, 2, none⟩ (.int .i64 st) = V99 at *
            refine wpAnyH_ready (rs := [18]) (by kernel_rfl) (by simp) ?_
            refine AllReadyH.cons (o := _) rfl (fun K hK => ?_) AllReadyH.nil
            go_simp
            refine hK.out _ _ hHeld (fun hHeld => ?_)
            clear hK K
            refine wpAnyH_ready (rs := [19]) (by kernel_rfl) (by simp) ?_
            refine AllReadyH.cons (o := _) rfl (fun K hK => ?_) AllReadyH.nil
            go_simp
            refine hK.out _ _ hHeld (fun hHeld => ?_)
            clear hK K
            refine wpAnyH_done (by kernel_rfl) ?_ _
            go_wp2_with fail
            go_meet
            exact HFE.out
          · go_simp
            obtain ⟨Vz, hVn⟩ : ∃ x, x = Vf.alloc woZ := ⟨_, rfl⟩
            rw [← hVn]
            obtain ⟨b11, hb11⟩ : ∃ b, b = Vf.heap.size := ⟨_, rfl⟩
            rw [← hb11]
            have hbn : Below Vf.heap.size Vf Vz := by rw [hVn]; exact (Below.refl _ _).alloc (Nat.le_refl _) _
            have HBz := Sb.hide (HBf.out.trans (hbn.mono HBf.out.size))
            have HZz : Hid (Vz.heap[b11]? = some woZ) := by unfold Hid; rw [hVn, hb11]; exact heap_alloc_new _ _
            have hbl : wc.heap.size ≤ b11 := by rw [hb11]; exact HBf.out.size
            have HQz := Sb.hide (own_keep HQf.out (fun b hb => hbn.block b (HQf.out.lt b hb).2))
            clear hVn hb11 hbn
            refine hK.out _ _ (HS.out Vz HBz.out) (fun hHeld => ?_)
            clear hK K
            exact wpAnyH_at (TAIL1 b41 b50 b11 v3 v4 Vz ⟨HBz, HQz, HZz, hbl⟩) (by kernel_rfl) (by kernel_rfl)
      case tail =>
        rintro b41 b50 b11 v3 v4 Vf ⟨HBf, HQf, HZf, hbl⟩
        refine wpAnyH_ready (rs := [11]) (by kernel_rfl) (by simp) ?_
        refine AllReadyH.cons (o := _) rfl (fun K hK => ?_) AllReadyH.nil
        obtain ⟨pa, pc, rfl, hpk⟩ := own_picks HQf.out
        go_simp
        refine (Run_any m ab au cb cu Vf.heap.size pl2 pa pc Vf (Sb.hide (HMB.out _ HBf.out)) (Sb.hide hpk) (Nat.le_refl _) E (Sb.hide (HWE.out _ hle2))).mono ?_
        rintro e Vg ⟨hbn, hr⟩
        obtain ⟨ea, na, ec, ba, nb, bc, da, dn, dc, st, rfl, hX⟩ := ran_form hr
        have HXg := Sb.hide (by rw [HPL2.out, ← HRB.out] at hX; exact hX)
        have HBg := Sb.hide (HBf.out.trans (hbn.mono HBf.out.size))
        have HZg := Sb.hide ((hbn.block _ (lt_of_block HZf.out)).trans HZf.out)
        clear hr hX hpk hbn
        refine hK.out _ _ (HS.out Vg HBg.out) (fun hHeld => ?_)
        clear hK K
        refine wpAnyH_take (i := 12) (oi := _) (v := ?_) rfl (by kernel_rfl) (by kernel_rfl) (by kernel_rfl) (fun _ _ _ h => h) (Or.inl ⟨by rfl, ?_⟩) (by assumption) ?_
        rotate_left
        · intro w hSw
          (try dsimp only at hSw)
          go_simp
          (try with_reducible rfl)
        (try go_frame)
        refine wpAnyH_take (i := 13) (oi := _) (v := ?_) rfl (by kernel_rfl) (by kernel_rfl) (by kernel_rfl) (fun _ _ _ h => h) (Or.inl ⟨by rfl, ?_⟩) (by assumption) ?_
        rotate_left
        · intro w hSw
          (try dsimp only at hSw)
          go_simp
          (try with_reducible rfl)
        (try go_frame)
        refine wpAnyH_take (i := 14) (oi := _) (v := ?_) rfl (by kernel_rfl) (by kernel_rfl) (by kernel_rfl) (fun _ _ _ h => h) (Or.inl ⟨by rfl, ?_⟩) (by assumption) ?_
        rotate_left
        · intro w hSw
          (try dsimp only at hSw)
          go_simp
          (try with_reducible rfl)
        (try go_frame)
        refine wpAnyH_take (i := 15) (oi := _) (v := ?_) rfl (by kernel_rfl) (by kernel_rfl) (by kernel_rfl) (fun _ _ _ h => h) (Or.inl ⟨by rfl, ?_⟩) (by assumption) ?_
        rotate_left
        · intro w hSw
          (try dsimp only at hSw)
          go_simp
          (try with_reducible rfl)
        (try go_frame)
        have zz := (wo_cells HZg.out).1
        have zf := (wo_cells HZg.out).2
        refine wpAnyH_ready (rs := [17]) (by kernel_rfl) (by simp) ?_
        refine AllReadyH.cons (o := _) rfl (fun K hK => ?_) AllReadyH.nil
        go_simp
        have hfe : QAt wc m E R2 (.pointer (some ⟨b11, 0, none⟩)) (.int .i64 E) (fillW Vg b11 (.slice ea na ec) (.slice ba nb bc) (.int .i64 st)) := QAt.mk' HVF.out HBg.out hbl HZg.out HXg.out
        have hfb := fillW_below (v0 := .slice ea na ec) (v1 := .slice ba nb bc) (v2 := .int .i64 st) HBg.out hbl
        unfold fillW at hfe hfb
        refine hK.out _ _ (HS.out _ hfb) (fun hHeld => ?_)
        clear hK K zz zf
        have HFE := Sb.hide hfe
        clear hfe hfb
        generalize ((Vg.setCell ⟨b11, 0, none⟩ (.slice ea na ec)).setCell ⟨b11, 1, none⟩ (.slice ba nb bc)).setCell ⟨b11, 2, none⟩ (.int .i64 st) = V99 at *
        refine wpAnyH_ready (rs := [18]) (by kernel_rfl) (by simp) ?_
        refine AllReadyH.cons (o := _) rfl (fun K hK => ?_) AllReadyH.nil
        go_simp
        refine hK.out _ _ hHeld (fun hHeld => ?_)
        clear hK K
        refine wpAnyH_ready (rs := [19]) (by kernel_rfl) (by simp) ?_
        refine AllReadyH.cons (o := _) rfl (fun K hK => ?_) AllReadyH.nil
        go_simp
        refine hK.out _ _ hHeld (fun hHeld => ?_)
        clear hK K
        refine wpAnyH_done (by kernel_rfl) ?_ _
        go_wp2_with fail
        go_meet
        exact HFE.out
    case rest =>
      obtain ⟨b2, vE2, vB2, st2, ts2, x2, hp2, hv2, ho2, hb2, hB2c, hW2, hf2, ha2⟩ := hcut
      subst hp2
      subst hv2
      have hst : ts2 = ts1 ∧ x2 = x1 ∧ st2 = st1 := by
        obtain ⟨k1, k2, k3⟩ := HSW.out
        rcases HA1.out with ⟨h0, rfl, rfl, rfl⟩ | ⟨h0, rfl, rfl, rfl⟩
        · rcases ha2 with ⟨_, rfl, rfl, rfl⟩ | ⟨h, _⟩
          · exact ⟨k1.symm, k2.symm, k3.symm⟩
          · exact absurd h0 h
        · rcases ha2 with ⟨h, _⟩ | ⟨_, rfl, rfl, rfl⟩
          · exact absurd h h0
          · exact ⟨rfl, rfl, rfl⟩
      obtain ⟨rfl, rfl, rfl⟩ := hst
      have HO2 := Sb.hide ho2
      have HW2 := Sb.hide hW2
      have HB9 := Sb.hide ((HB1.out.trans (HBC.out.mono hwz)).trans (hB2c.mono (Nat.le_trans hwz hcz)))
      have HO3 := Sb.hide ((hB2c.block _ hbz).trans HO1.out)
      have HW3 := Sb.hide (HW1.out.below hB2c)
      obtain ⟨ea, ec, he1, _⟩ := HW3.out.ends
      obtain ⟨fa, fc, he2, _⟩ := HW2.out.ends
      obtain ⟨ga, gc, he3, _⟩ := HW3.out.boxes
      obtain ⟨ha, hc, he4, _⟩ := HW2.out.boxes
      have HE1 := Sb.hide he1
      have HE2 := Sb.hide he2
      have HE3 := Sb.hide he3
      have HE4 := Sb.hide he4
      obtain ⟨⟨y0, y1, y2⟩, _⟩ := wo_cells HO3.out
      obtain ⟨⟨z0, z1, z2⟩, _⟩ := wo_cells HO2.out
      have eqE : (E == E) = true := by simp
      obtain ⟨q1, q2, q3, q4⟩ := hf2
      have HQ3 := Sb.hide q3
      have HQ4 := Sb.hide q4
      clear ho2 hW2 hB2c ha2 he1 he2 he3 he4 q3 q4
      go_wp2_with fail
      refine (sameW_any m ts2 x2 st2 _ _ _ _ _ HW3 HW2 q1 q2 HQ3 HQ4).mono ?_
      rintro e w6 ⟨rfl, hb6⟩
      have HB6 := Sb.hide (HB9.out.trans (hb6.mono HB9.out.size))
      clear hb6
      go_wp2
      go_ret
      exact ⟨rfl, HB6.out⟩
end Go.Proofs.YtekjhefmhhcboaaGreat.Vw

/- Modules in memory, out of what an argument reads as. -/
namespace Go.Proofs.YtekjhefmhhcboaaGreat
open Go.RowKit

section
variable {H : Type} {enc : TypeId × Value → H} {w : World} {base : Nat} {spare : Nat → Bool} {held : Bool}

/-- Cells of an element, at an address of the form that the walks read. -/
theorem cells_at {a : Addr} {i n : Nat} {cs : List Value} (hn : 0 < n) (h : w.cells? base (a.add (i * n)) n = some cs) (h0 : a.spot = none) :
    a.block < w.heap.size ∧ ∀ j, j < n → w.cell? ⟨a.block, a.off + i * n + j, none⟩ = cs[j]? := by
  obtain ⟨hb, hl, hc⟩ := World.cells?_some h
  have hadd : ∀ k, a.add k = ⟨a.block, a.off + k, none⟩ := by
    intro k
    unfold Addr.add
    split
    · subst_vars; cases a; simp_all
    · rfl
  have hcell : ∀ j, j < n → w.cell? ⟨a.block, a.off + i * n + j, none⟩ = cs[j]? := by
    intro j hj
    have := hc j hj
    rw [hadd] at this
    rw [← this]
    congr 1
    unfold Addr.add
    split
    · subst_vars; rfl
    · rfl
  refine ⟨?_, hcell⟩
  have h1 := hcell 0 hn
  rw [List.getElem?_eq_getElem (by omega)] at h1
  cases hh : w.heap[a.block]? with
  | none => simp [World.cell?, hh] at h1
  | some o => exact lt_of_block hh

theorem spot_of {a : Addr} {n : Nat} {cs : List Value} (hn : 0 < n) (h : w.cells? base (a.add (0 * n)) n = some cs) : a.spot = none := by
  obtain ⟨hb, hl, hc⟩ := World.cells?_some h
  have h1 := hc 0 hn
  rw [List.getElem?_eq_getElem (by omega)] at h1
  simp only [Nat.zero_mul, Addr.add, if_true] at h1
  unfold World.cell? at h1
  split at h1
  · split at h1
    · simp at h1
    · rename_i hs; simpa using hs
  · simp at h1

theorem list_of {α : Type} {p : Nat → α → Prop} : ∀ (n : Nat), (∀ i, i < n → ∃ y, p i y) → ∃ l : List α, l.length = n ∧ ∀ i y, l[i]? = some y → p i y
  | 0, _ => ⟨[], rfl, fun i y hy => by simp at hy⟩
  | m + 1, hall => by
    obtain ⟨l, h1, h2⟩ := list_of m (fun i hi => hall i (by omega))
    obtain ⟨y, h3⟩ := hall m (by omega)
    refine ⟨l ++ [y], by simp [h1], fun i z hz => ?_⟩
    by_cases hi : i < l.length
    · rw [List.getElem?_append_left hi] at hz; exact h2 i z hz
    · rw [List.getElem?_append_right (by omega)] at hz
      have hi2 : i - l.length = 0 := by
        have := (List.getElem?_eq_some_iff.1 hz).1
        simp at this; omega
      rw [hi2] at hz
      simp at hz
      subst hz
      obtain rfl : i = m := by omega
      exact h3

/-- A slice of whatever lies in n cells each: as a list of what Q says of them. -/
theorem slice_list {α : Type} {t e : TypeId} {n fuel : Nat} {cs : List Value} {x : DataW H × List MemPlace} (Q : Nat → List Value → α → Prop)
    (ht : Tryz.prog.underlying t = some (.slice e)) (hce : Tryz.prog.cellsOf e = n) (hn : 0 < n)
    (hQ : ∀ f cs' x', f < fuel → DataW.trod enc Tryz.prog w base spare held f e cs' = some x' → ∃ y, Q f cs' y)
    (h : DataW.trod enc Tryz.prog w base spare held fuel t cs = some x) :
    ∃ (l : List α) (a : Option Addr) (c : Nat), cs = [.slice a l.length c] ∧ l.length ≤ maxLen ∧ l.length ≤ c ∧
      ∀ i y, l[i]? = some y → ∃ b off cs' f, a = some ⟨b, off, none⟩ ∧ b < w.heap.size ∧ f < fuel ∧ cs'.length = n ∧ Q f cs' y ∧ ∀ j, j < n → w.cell? ⟨b, off + i * n + j, none⟩ = cs'[j]? := by
  rcases DataW.trod_slice ht h with ⟨rfl, _⟩ | ⟨a, len, cap, elems, rest, k, rfl, rfl, _, hb, hl, hm, hlen, hel, _, _⟩
  · exact ⟨[], none, 0, rfl, Nat.zero_le _, Nat.zero_le _, fun i y hy => by simp at hy⟩
  · rw [hce] at hel
    have hall : ∀ i, i < len → ∃ cs' y, w.cells? base (a.add (i * n)) n = some cs' ∧ Q k cs' y := by
      intro i hi
      have := hel i hi
      rw [List.getElem?_eq_getElem (by omega)] at this
      obtain ⟨cs', h1, h2⟩ := Option.bind_eq_some_iff.1 this
      obtain ⟨y, hy⟩ := hQ k cs' _ (by omega) h2
      exact ⟨cs', y, h1, hy⟩
    obtain ⟨l, hll, hlq⟩ := list_of (p := fun i y => ∃ cs', w.cells? base (a.add (i * n)) n = some cs' ∧ Q k cs' y) len (fun i hi => by
      obtain ⟨cs', y, h1, h2⟩ := hall i hi
      exact ⟨y, cs', h1, h2⟩)
    refine ⟨l, some a, cap, by rw [hll], by omega, by omega, fun i y hy => ?_⟩
    have hi := (List.getElem?_eq_some_iff.1 hy).1
    have hsp : a.spot = none := by
      obtain ⟨cs0, y0, h1, _⟩ := hall 0 (by omega)
      exact spot_of hn h1
    obtain ⟨cs', h1, h2⟩ := hlq i y hy
    obtain ⟨h3, h4⟩ := cells_at hn h1 hsp
    exact ⟨a.block, a.off, cs', k, by cases a; simp_all, h3, by omega, (World.cells?_some h1).2.1, h2, h4⟩

theorem two {cs : List Value} (h : cs.length = 2) : ∃ a b, cs = [a, b] := by
  match cs, h with
  | [a, b], _ => exact ⟨a, b, rfl⟩

theorem three {cs : List Value} (h : cs.length = 3) : ∃ a b c, cs = [a, b, c] := by
  match cs, h with
  | [a, b, c], _ => exact ⟨a, b, c, rfl⟩

/-- A field's reading, if the struct reads. -/
theorem field_some {fs : Array Field} {n : Nat} {cs : List Value} {xs : List (DataW H × List MemPlace)} (hl : xs.length = fs.size)
    (h : ∀ (i : Nat) (f : Field), fs[i]? = some f → DataW.trod enc Tryz.prog w base spare held n f.type ((cs.drop f.offset).take (Tryz.prog.cellsOf f.type)) = xs[i]?)
    (i : Nat) (f : Field) (hf : fs[i]? = some f) : ∃ x, DataW.trod enc Tryz.prog w base spare held n f.type ((cs.drop f.offset).take (Tryz.prog.cellsOf f.type)) = some x := by
  have hi : i < fs.size := (Array.getElem?_eq_some_iff.1 hf).1
  exact ⟨xs[i]'(by omega), by rw [h i f hf, List.getElem?_eq_getElem]⟩

theorem six {cs : List Value} (h : cs.length = 6) : ∃ a b c d e f, cs = [a, b, c, d, e, f] := by
  match cs, h with
  | [a, b, c, d, e, f], _ => exact ⟨a, b, c, d, e, f, rfl⟩

theorem cells_box : Tryz.prog.cellsOf 50 = 2 := by kernel_rfl
theorem cells_ins : Tryz.prog.cellsOf 55 = 3 := by kernel_rfl
theorem cells_un : Tryz.prog.cellsOf 59 = 6 := by kernel_rfl
theorem cells_md : Tryz.prog.cellsOf 25 = 2 := by kernel_rfl
theorem cells_int : Tryz.prog.cellsOf 3 = 1 := by kernel_rfl
theorem cells_i64 : Tryz.prog.cellsOf 2 = 1 := by kernel_rfl
theorem cells_ints : Tryz.prog.cellsOf 57 = 1 := by kernel_rfl
theorem cells_code : Tryz.prog.cellsOf 56 = 1 := by kernel_rfl
theorem cells_boxes : Tryz.prog.cellsOf 22 = 1 := by kernel_rfl
theorem cells_units : Tryz.prog.cellsOf 23 = 1 := by kernel_rfl

theorem wf_i64 {n : Int} (h : (Lit.int .i64 n).wf = true) : I64 n := by
  simp only [Lit.wf, Bool.and_eq_true, decide_eq_true_eq] at h
  have e1 : IntKind.i64.min = -9223372036854775808 := by decide
  have e2 : IntKind.i64.max = 9223372036854775807 := by decide
  rw [e1, e2] at h
  exact h

theorem int_open {fuel : Nat} {cs : List Value} {x : DataW H × List MemPlace} (h : DataW.trod enc Tryz.prog w base spare held fuel 3 cs = some x) : ∃ n : Int, I64 n ∧ cs = [.int .i64 n] := by
  obtain ⟨n, hn, _, hw⟩ := DataW.trod_int Tryz.underlying3 h
  exact ⟨n, wf_i64 hw, hn⟩
theorem i64_open {fuel : Nat} {cs : List Value} {x : DataW H × List MemPlace} (h : DataW.trod enc Tryz.prog w base spare held fuel 2 cs = some x) : ∃ n : Int, I64 n ∧ cs = [.int .i64 n] := by
  obtain ⟨n, hn, _, hw⟩ := DataW.trod_int Tryz.underlying2 h
  exact ⟨n, wf_i64 hw, hn⟩

theorem ints_open {fuel : Nat} {cs : List Value} {x : DataW H × List MemPlace} (h : DataW.trod enc Tryz.prog w base spare held fuel 57 cs = some x) :
    ∃ (l : List Int) (a : Option Addr) (c : Nat), cs = [.slice a l.length c] ∧ IntsIn w.heap.size w l a ∧ l.length ≤ 9223372036854775807 ∧ l.length ≤ c := by
  obtain ⟨l, a, c, hcs, hm, hc, hall⟩ := slice_list (n := 1) (fun _ cs' (y : Int) => I64 y ∧ cs' = [.int .i64 y]) Tryz.underlying57 cells_int (by decide) (fun f cs' x' _ hx' => int_open hx') h
  refine ⟨l, a, c, hcs, fun i y hy => ?_, by unfold maxLen at hm; omega, hc⟩
  obtain ⟨b, off, cs', f, he, hb, _, _, ⟨h1, rfl⟩, hcell⟩ := hall i y hy
  exact ⟨h1, b, off, he, hb, by have := hcell 0 (by decide); rw [Nat.mul_one] at this; exact this⟩

theorem box_open {fuel : Nat} {cs : List Value} {x : DataW H × List MemPlace} (h : DataW.trod enc Tryz.prog w base spare held fuel 50 cs = some x) :
    ∃ o : Vf.Bx, (I64 o.ty ∧ I64 o.cap) ∧ cs = [.int .i64 o.ty, .int .i64 o.cap] := by
  obtain ⟨xs, n, rfl, _, hl, hxl, hf⟩ := DataW.trod_struct Tryz.underlying50 h
  rw [cells_box] at hl
  obtain ⟨a, b, rfl⟩ := two hl
  obtain ⟨x0, h0⟩ : ∃ x, DataW.trod enc Tryz.prog w base spare held n 3 (([a, b].drop 0).take (Tryz.prog.cellsOf 3)) = some x := field_some hxl hf 0 _ rfl
  obtain ⟨x1, h1⟩ : ∃ x, DataW.trod enc Tryz.prog w base spare held n 3 (([a, b].drop 1).take (Tryz.prog.cellsOf 3)) = some x := field_some hxl hf 1 _ rfl
  simp only [cells_int] at h0 h1
  obtain ⟨p, p1, p2⟩ := int_open h0
  obtain ⟨q, q1, q2⟩ := int_open h1
  simp at p2 q2
  exact ⟨⟨p, q⟩, ⟨p1, q1⟩, by rw [p2, q2]⟩
theorem ins_open {fuel : Nat} {cs : List Value} {x : DataW H × List MemPlace} (h : DataW.trod enc Tryz.prog w base spare held fuel 55 cs = some x) :
    ∃ o : Vf.Ins, (I64 o.op ∧ I64 o.a ∧ I64 o.n) ∧ cs = [.int .i64 o.op, .int .i64 o.a, .int .i64 o.n] := by
  obtain ⟨xs, n, rfl, _, hl, hxl, hf⟩ := DataW.trod_struct Tryz.underlying55 h
  rw [cells_ins] at hl
  obtain ⟨a, b, c, rfl⟩ := three hl
  obtain ⟨x0, h0⟩ : ∃ x, DataW.trod enc Tryz.prog w base spare held n 3 (([a, b, c].drop 0).take (Tryz.prog.cellsOf 3)) = some x := field_some hxl hf 0 _ rfl
  obtain ⟨x1, h1⟩ : ∃ x, DataW.trod enc Tryz.prog w base spare held n 3 (([a, b, c].drop 1).take (Tryz.prog.cellsOf 3)) = some x := field_some hxl hf 1 _ rfl
  obtain ⟨x2, h2⟩ : ∃ x, DataW.trod enc Tryz.prog w base spare held n 2 (([a, b, c].drop 2).take (Tryz.prog.cellsOf 2)) = some x := field_some hxl hf 2 _ rfl
  simp only [cells_int, cells_i64] at h0 h1 h2
  obtain ⟨p, p1, p2⟩ := int_open h0
  obtain ⟨q, q1, q2⟩ := int_open h1
  obtain ⟨r, r1, r2⟩ := i64_open h2
  simp at p2 q2 r2
  exact ⟨⟨p, q, r⟩, ⟨p1, q1, r1⟩, by rw [p2, q2, r2]⟩
theorem code_open {fuel : Nat} {cs : List Value} {x : DataW H × List MemPlace} (h : DataW.trod enc Tryz.prog w base spare held fuel 56 cs = some x) :
    ∃ (l : List Vf.Ins) (a : Option Addr) (c : Nat), cs = [.slice a l.length c] ∧ CodeIn w.heap.size w l a ∧ l.length ≤ 9223372036854775807 ∧ l.length ≤ c := by
  obtain ⟨l, a, c, hcs, hm, hc, hall⟩ := slice_list (n := 3) (fun _ cs' (y : Vf.Ins) => (I64 y.op ∧ I64 y.a ∧ I64 y.n) ∧ cs' = [.int .i64 y.op, .int .i64 y.a, .int .i64 y.n]) Tryz.underlying56 cells_ins (by decide) (fun f cs' x' _ hx' => ins_open hx') h
  refine ⟨l, a, c, hcs, fun i y hy => ?_, by unfold maxLen at hm; omega, hc⟩
  obtain ⟨b, off, cs', f, he, hb, _, _, ⟨⟨h1, h2, h3⟩, rfl⟩, hcell⟩ := hall i y hy
  exact ⟨h1, h2, h3, b, off, he, hb, hcell 0 (by decide), hcell 1 (by decide), hcell 2 (by decide)⟩
theorem unit_open {fuel : Nat} {cs : List Value} {x : DataW H × List MemPlace} (h : DataW.trod enc Tryz.prog w base spare held fuel 59 cs = some x) :
    ∃ u : Vf.Un, ∃ al cl ac cc, UnIn w.heap.size w u al ac cl cc ∧ cs = [.int .i64 u.kind, .int .i64 u.params, .slice al u.locals.length cl, .int .i64 u.result, .int .i64 u.takes, .slice ac u.code.length cc] := by
  obtain ⟨xs, n, rfl, _, hl, hxl, hf⟩ := DataW.trod_struct Tryz.underlying59 h
  rw [cells_un] at hl
  obtain ⟨a, b, c, d, e, f, rfl⟩ := six hl
  obtain ⟨x0, h0⟩ : ∃ x, DataW.trod enc Tryz.prog w base spare held n 3 (([a, b, c, d, e, f].drop 0).take (Tryz.prog.cellsOf 3)) = some x := field_some hxl hf 0 _ rfl
  obtain ⟨x1, h1⟩ : ∃ x, DataW.trod enc Tryz.prog w base spare held n 3 (([a, b, c, d, e, f].drop 1).take (Tryz.prog.cellsOf 3)) = some x := field_some hxl hf 1 _ rfl
  obtain ⟨x2, h2⟩ : ∃ x, DataW.trod enc Tryz.prog w base spare held n 57 (([a, b, c, d, e, f].drop 2).take (Tryz.prog.cellsOf 57)) = some x := field_some hxl hf 2 _ rfl
  obtain ⟨x3, h3⟩ : ∃ x, DataW.trod enc Tryz.prog w base spare held n 3 (([a, b, c, d, e, f].drop 3).take (Tryz.prog.cellsOf 3)) = some x := field_some hxl hf 3 _ rfl
  obtain ⟨x4, h4⟩ : ∃ x, DataW.trod enc Tryz.prog w base spare held n 3 (([a, b, c, d, e, f].drop 4).take (Tryz.prog.cellsOf 3)) = some x := field_some hxl hf 4 _ rfl
  obtain ⟨x5, h5⟩ : ∃ x, DataW.trod enc Tryz.prog w base spare held n 56 (([a, b, c, d, e, f].drop 5).take (Tryz.prog.cellsOf 56)) = some x := field_some hxl hf 5 _ rfl
  simp only [cells_int, cells_ints, cells_code] at h0 h1 h2 h3 h4 h5
  obtain ⟨p0, i0, e0⟩ := int_open h0
  obtain ⟨p1, i1, e1⟩ := int_open h1
  obtain ⟨p2, a2, c2, e2, i2, l2, k2⟩ := ints_open h2
  obtain ⟨p3, i3, e3⟩ := int_open h3
  obtain ⟨p4, i4, e4⟩ := int_open h4
  obtain ⟨p5, a5, c5, e5, i5, l5, k5⟩ := code_open h5
  simp at e0 e1 e2 e3 e4 e5
  exact ⟨⟨p0, p1, p2, p3, p4, p5⟩, a2, c2, a5, c5, ⟨⟨i0, i1, i3, i4⟩, ⟨l2, l5⟩, ⟨k2, k5⟩, i2, i5⟩, by rw [e0, e1, e2, e3, e4, e5]⟩

/-- WHAT AN ARGUMENT Module IS. -/
theorem mod_open {fuel : Nat} {cs : List Value} {x : DataW H × List MemPlace} (h : DataW.trod enc Tryz.prog w base spare held fuel 25 cs = some x) :
    ∃ m : Vf.Md, ∃ ab cb au cu, cs = [.slice ab m.boxes.length cb, .slice au m.units.length cu] ∧ ModIn w.heap.size w m ab au := by
  obtain ⟨xs, n, rfl, _, hl, hxl, hf⟩ := DataW.trod_struct Tryz.underlying25 h
  rw [cells_md] at hl
  obtain ⟨p, q, rfl⟩ := two hl
  obtain ⟨x0, h0⟩ : ∃ x, DataW.trod enc Tryz.prog w base spare held n 22 (([p, q].drop 0).take (Tryz.prog.cellsOf 22)) = some x := field_some hxl hf 0 _ rfl
  obtain ⟨x1, h1⟩ : ∃ x, DataW.trod enc Tryz.prog w base spare held n 23 (([p, q].drop 1).take (Tryz.prog.cellsOf 23)) = some x := field_some hxl hf 1 _ rfl
  simp only [cells_boxes, cells_units] at h0 h1
  obtain ⟨l, a, c, hcs, hm, _, hall⟩ := slice_list (n := 2) (fun _ cs' (y : Vf.Bx) => (I64 y.ty ∧ I64 y.cap) ∧ cs' = [.int .i64 y.ty, .int .i64 y.cap]) Tryz.underlying22 cells_box (by decide) (fun f cs' x' _ hx' => box_open hx') h0
  obtain ⟨l2, a2, c2, hcs2, hm2, _, hall2⟩ := slice_list (n := 6) (fun _ cs' (u : Vf.Un) => ∃ al cl ac cc, UnIn w.heap.size w u al ac cl cc ∧ cs' = [.int .i64 u.kind, .int .i64 u.params, .slice al u.locals.length cl, .int .i64 u.result, .int .i64 u.takes, .slice ac u.code.length cc]) Tryz.underlying23 cells_un (by decide) (fun f cs' x' _ hx' => unit_open hx') h1
  simp at hcs hcs2
  refine ⟨⟨l, l2⟩, a, c, a2, c2, by rw [hcs, hcs2], ⟨by unfold maxLen at hm; omega, by unfold maxLen at hm2; omega⟩, fun i y hy => ?_, fun i y hy => ?_⟩
  · obtain ⟨b, off, cs', f, he, hb, _, _, ⟨⟨h1, h2⟩, rfl⟩, hcell⟩ := hall i y hy
    exact ⟨h1, h2, b, off, he, hb, hcell 0 (by decide), hcell 1 (by decide)⟩
  · obtain ⟨b, off, cs', f, he, hb, _, _, ⟨al, cl, ac, cc, hu, rfl⟩, hcell⟩ := hall2 i y hy
    exact ⟨b, off, al, cl, ac, cc, he, hb, hu, hcell 0 (by decide), hcell 1 (by decide), hcell 2 (by decide), hcell 3 (by decide), hcell 4 (by decide), hcell 5 (by decide)⟩

end
end Go.Proofs.YtekjhefmhhcboaaGreat

/- Picks in memory, out of what an argument reads as. -/
namespace Go.Proofs.YtekjhefmhhcboaaGreat.Vw
open Go.RowKit Vf Vm

section
variable {H : Type} {enc : TypeId × Value → H} {w : World} {base : Nat} {spare : Nat → Bool} {held : Bool}
theorem cells_pk : Tryz.prog.cellsOf 41 = 2 := by kernel_rfl
theorem pick_open {fuel : Nat} {cs : List Value} {x : DataW H × List MemPlace} (h : DataW.trod enc Tryz.prog w base spare held fuel 41 cs = some x) :
    ∃ o : Pk, (I64 o.task ∧ I64 o.q) ∧ cs = [.int .i64 o.task, .int .i64 o.q] := by
  obtain ⟨xs, n, rfl, _, hl, hxl, hf⟩ := DataW.trod_struct Tryz.underlying41 h
  rw [cells_pk] at hl
  obtain ⟨a, b, rfl⟩ := two hl
  obtain ⟨x0, h0⟩ : ∃ x, DataW.trod enc Tryz.prog w base spare held n 3 (([a, b].drop 0).take (Tryz.prog.cellsOf 3)) = some x := field_some hxl hf 0 _ rfl
  obtain ⟨x1, h1⟩ : ∃ x, DataW.trod enc Tryz.prog w base spare held n 3 (([a, b].drop 1).take (Tryz.prog.cellsOf 3)) = some x := field_some hxl hf 1 _ rfl
  simp only [cells_int] at h0 h1
  obtain ⟨p, p1, p2⟩ := int_open h0
  obtain ⟨q, q1, q2⟩ := int_open h1
  simp at p2 q2
  exact ⟨⟨p, q⟩, ⟨p1, q1⟩, by rw [p2, q2]⟩
/-- WHAT AN ARGUMENT []api.Pick IS. -/
theorem picks_open {fuel : Nat} {cs : List Value} {x : DataW H × List MemPlace} (h : DataW.trod enc Tryz.prog w base spare held fuel 26 cs = some x) :
    ∃ (ps : List Pk) (a : Option Addr) (c : Nat), cs = [.slice a ps.length c] ∧ ps.length ≤ maxLen ∧ (∀ p ∈ ps, I64 p.task ∧ I64 p.q) ∧ PkIn w.heap.size w ps a := by
  obtain ⟨l, a, c, hcs, hm, _, hall⟩ := slice_list (n := 2) (fun _ cs' (y : Pk) => (I64 y.task ∧ I64 y.q) ∧ cs' = [.int .i64 y.task, .int .i64 y.q]) Tryz.underlying26 cells_pk (by decide) (fun f cs' x' _ hx' => pick_open hx') h
  refine ⟨l, a, c, hcs, hm, fun p hp => ?_, fun i y hy => ?_⟩
  · obtain ⟨i, hi⟩ := List.getElem?_of_mem hp
    obtain ⟨b, off, cs', f, he, hb, _, _, ⟨h1, rfl⟩, hcell⟩ := hall i p hi
    exact h1
  · obtain ⟨b, off, cs', f, he, hb, _, _, ⟨_, rfl⟩, hcell⟩ := hall i y hy
    exact ⟨b, off, he, hb, hcell 0 (by decide), hcell 1 (by decide)⟩
end
end Go.Proofs.YtekjhefmhhcboaaGreat.Vw

