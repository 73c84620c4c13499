/- WIDER BOXES SAY NO LESS, plainly. -/
import Derived.Test.YtekjhefmhhcboaaGreatM43
import Derived.Test.YtekjhefmhhcboaaGreatM39
namespace Go.Proofs.YtekjhefmhhcboaaGreat.Vw
open Go.RowKit Vf Vm

/-- Boxes with so many places more. -/
def wid (d : Nat) (x : List Bq) : List Bq := x.map fun q => ⟨q.cap + d, q.ws⟩
/-- A module with so many places more in each box. -/
def wider (d : Nat) (m : Md) : Md := ⟨m.boxes.map fun b => { b with cap := b.cap + d }, m.units⟩
theorem wid_at (d : Nat) (x : List Bq) (n : Nat) : (wid d x)[n]? = (x[n]?).map fun q => ⟨q.cap + d, q.ws⟩ := by simp [wid]
theorem wid_empty (d : Nat) (x : List Bq) (n : Nat) : mbX.empty (wid d x) n = mbX.empty x n := by
  simp only [mbX, wid_at]
  cases x[n]? <;> rfl
theorem wid_head (d : Nat) (x : List Bq) (n : Nat) : mbX.head (wid d x) n = mbX.head x n := by
  simp only [mbX, wid_at]
  cases x[n]? <;> rfl
theorem wid_full {d : Nat} {x : List Bq} {n : Nat} (hF : Fits x) (h : mbX.full x n = false) : mbX.full (wid d x) n = false := by
  simp only [mbX, wid_at] at h ⊢
  cases hx : x[n]? with
  | none => rfl
  | some q =>
    rw [hx] at h
    have h1 := hF n q hx
    simp at h ⊢
    omega
theorem wid_set (d : Nat) (x : List Bq) (n : Nat) (q : Bq) : wid d (x.set n q) = (wid d x).set n ⟨q.cap + d, q.ws⟩ := by simp [wid, List.map_set]
theorem wid_put (d : Nat) (x : List Bq) (n : Nat) (v : Int) : mbX.put (wid d x) n v = wid d (mbX.put x n v) := by
  simp only [mbX, wid_at]
  cases hx : x[n]? with
  | none => rfl
  | some q => simp only [Option.map_some]; rw [wid_set]
theorem wid_take (d : Nat) (x : List Bq) (n : Nat) : mbX.take (wid d x) n = wid d (mbX.take x n) := by
  simp only [mbX, wid_at]
  cases hx : x[n]? with
  | none => rfl
  | some q => simp only [Option.map_some]; rw [wid_set]
theorem wid_stX (d : Nat) (c : Ins) (v : Int) (x : List Bq) : stX mbX c v (wid d x) = wid d (stX mbX c v x) := by
  unfold stX
  split
  · exact wid_put _ _ _ _
  · split
    · exact wid_take _ _ _
    · rfl
theorem wider_ins (d : Nat) (m : Md) (t : Tk) : t.ins (wider d m) = t.ins m := rfl
theorem wider_act (d : Nat) (m : Md) (t : Tk) (c : Ins) (rv : Int) : t.act (wider d m) c rv = t.act m c rv := rfl
theorem wider_one (d : Nat) (m : Md) (t : Tk) (x : List Bq) : one mbX (wider d m) t (wid d x) = ((one mbX m t x).1, wid d (one mbX m t x).2) := by
  unfold one
  rw [wider_ins, wid_stX, wid_head]
  rfl
/-- A step with narrow boxes is one with wider ones. -/
theorem wider_step {d : Nat} {m : Md} {s s' : Wx} (hK : Kah m s) (h : Step1 m s s') : Step1 (wider d m) (s.1, wid d s.2) (s'.1, wid d s'.2) := by
  obtain ⟨o, t, ht, hst, rfl⟩ := h
  have t0 := ready_zero hst (hK.over o t ht)
  have hm := (stat_may t0).1 hst
  refine ⟨o, t, ht, (stat_may t0).2 ⟨fun e => ?_, fun e => ?_⟩, ?_⟩
  · rw [wider_ins] at e ⊢
    exact wid_full hK.fits (hm.1 e)
  · rw [wider_ins] at e ⊢
    show mbX.empty (wid d s.2) _ = false
    rw [wid_empty]
    exact hm.2 e
  · show (s.1.set o (one mbX m t s.2).1, wid d (one mbX m t s.2).2) = (s.1.set o (one mbX (wider d m) t (wid d s.2)).1, (one mbX (wider d m) t (wid d s.2)).2)
    rw [wider_one]
theorem wider_runs {d : Nat} {m : Md} {P : Wx → Prop} (hP : ∀ s t, P s → Step1 m s t → P t) (hK : ∀ s, P s → Kah m s) : ∀ {n : Nat} {s z : Wx}, P s → Runs (Step1 m) n s z → Runs (Step1 (wider d m)) n (s.1, wid d s.2) (z.1, wid d z.2)
  | 0, s, z, _, h => by cases h; rfl
  | n + 1, s, z, hs, ⟨s1, h1, h2⟩ => ⟨_, wider_step (hK s hs) h1, wider_runs hP hK (hP _ _ hs h1) h2⟩
theorem wider_first {d : Nat} {m : Md} (hv : verify m = (0, 0, 0)) : (firstW (wider d m)).wx = ((firstW m).wx.1, wid d (firstW m).wx.2) := by
  have hx : (firstW (wider d m)).x = wid d (firstW m).x := by
    unfold firstW wid wider
    simp only [List.map_map]
    refine List.map_congr_left (fun b hb => ?_)
    obtain ⟨i, hi⟩ := List.getElem?_of_mem hb
    have := (box_caps hv hi).1
    simp only [Function.comp_def, Bq.mk.injEq, and_true]
    omega
  exact Prod.ext rfl hx
/-- WIDER BOXES SAY NO LESS. -/
theorem wider_settle {d : Nat} {m : Md} (hv : verify m = (0, 0, 0)) (hw : verify (wider d m) = (0, 0, 0)) (q : Int) (hq : 1 ≤ q ∧ q ≤ 10000) (h0 : (setR m [] q).1 = 0) (k0 : (setR (wider d m) [] q).1 = 0) : Grows (setR m [] q).2.wx (setR (wider d m) [] q).2.wx := by
  obtain ⟨⟨K, hK⟩, _⟩ := known_of hv
  obtain ⟨⟨K', hK'⟩, _⟩ := known_of hw
  have key : ∀ (m : Md) (K : KM), Known m K → verify m = (0, 0, 0) → (setR m [] q).1 = 0 → ∃ n, Runs (Step1 m) n (firstW m).wx (setR m [] q).2.wx ∧ Rests (Step1 m) (setR m [] q).2.wx := fun m K hK hv h0 => by
    have hI := wi_first hK hv
    obtain ⟨b, e2, h2, h3⟩ := settle_runs m q hq 20001 (firstW m) hI.few.1 hI.steps (by omega)
    refine ⟨b, h2, ?_⟩
    rcases h3 with ⟨_, h⟩ | ⟨h, _⟩
    · exact h
    · have e : (setR m [] q).1 = 10 := h
      omega
  obtain ⟨n, h1, _⟩ := key m K hK hv h0
  obtain ⟨k, h2, r2⟩ := key (wider d m) K' hK' hw k0
  have h3 := wider_runs (d := d) (P := KI m K) (fun s t h hs => ki_step hK h hs) (fun s h => ki_kah hK hv h) (ki_first hK hv) h1
  rw [← wider_first hv] at h3
  obtain ⟨j, _, hj⟩ := Runs.rest (P := KI (wider d m) K') (fun s t h hs => ki_step hK' h hs) (fun s _ _ h ha hb => diamond (ki_kah hK' hw h) ha hb) (ki_first hK' hw) h2 r2 h3
  exact fun o t ht => runs_grows hj o t ht
end Go.Proofs.YtekjhefmhhcboaaGreat.Vw

/- For SchedWider: boxes of one's own, made wider one by one. -/
namespace Go.Proofs.YtekjhefmhhcboaaGreat.Vw
open Go.RowKit Vf Vm

theorem Tryz.info50 : (Tryz.prog.info? 50).map (fun i => (i.zero, i.size, i.bytes)) = some (some (.agg #[.int .i64 0, .int .i64 0]), 2, 16) := by kernel_rfl
def bxC (b : Vf.Bx) : List Value := [.int .i64 b.ty, .int .i64 b.cap]
def bxCs (l : List Vf.Bx) : List Value := l.flatMap bxC
theorem bxCs_len (l : List Vf.Bx) : (bxCs l).length = l.length * 2 := fm_len bxC 2 (fun _ => rfl) l
theorem bxCs_one (l : List Vf.Bx) : ∀ v ∈ bxCs l, v.oneCell' = true := by
  intro v hv
  obtain ⟨x, _, hx⟩ := List.mem_flatMap.1 hv
  simp [bxC] at hx
  rcases hx with rfl | rfl <;> rfl
theorem bxs_src {B : Nat} {w : World} {l : List Vf.Bx} {ab : Option Addr} (h : BoxesIn B w l ab) : ∀ ad, ab = some ad → ∀ j v, (bxCs l)[j]? = some v → w.cell? (ad.add j) = some v := by
  intro ad ha j v hv
  obtain ⟨i, j', x, rfl, hj, hx, hv'⟩ := fm_mem bxC 2 (by decide) (fun _ => rfl) hv
  obtain ⟨_, _, b, off, e, _, c0, c1⟩ := h i x hx
  rw [ha] at e
  cases e
  rw [add_none]
  rcases (by omega : j' = 0 ∨ j' = 1) with rfl | rfl
  · rw [show off + (i * 2 + 0) = off + i * 2 by omega, c0]; exact hv'
  · rw [show off + (i * 2 + 1) = off + i * 2 + 1 by omega, c1]; exact hv'
theorem bxs_none {B : Nat} {w : World} {l : List Vf.Bx} {ab : Option Addr} (h : BoxesIn B w l ab) : ab = none → l.length = 0 := fun e => by
  cases l with
  | nil => rfl
  | cons b l =>
    obtain ⟨_, _, b', off, e2, _⟩ := h 0 b rfl
    rw [e] at e2
    cases e2
/-- The first k boxes are wider. -/
def mixB (d : Nat) : List Vf.Bx → Nat → List Vf.Bx
  | [], _ => []
  | b :: l, 0 => b :: l
  | b :: l, k + 1 => { b with cap := b.cap + d } :: mixB d l k
theorem mixB_zero (d : Nat) (l : List Vf.Bx) : mixB d l 0 = l := by cases l <;> rfl
theorem mixB_all (d : Nat) : ∀ l : List Vf.Bx, mixB d l l.length = l.map fun b => { b with cap := b.cap + d }
  | [] => rfl
  | b :: l => by simp only [List.length_cons, mixB, List.map_cons, mixB_all d l]
theorem mixB_at (d : Nat) : ∀ (l : List Vf.Bx) (k : Nat) b, l[k]? = some b → (mixB d l k)[k]? = some b
  | x :: l, 0, b, h => by simpa [mixB] using h
  | x :: l, k + 1, b, h => by simpa [mixB] using mixB_at d l k b (by simpa using h)
theorem mixB_succ (d : Nat) : ∀ (l : List Vf.Bx) (k : Nat) b, l[k]? = some b → bxCs (mixB d l (k + 1)) = (bxCs (mixB d l k)).set (k * 2 + 1) (.int .i64 (b.cap + d))
  | x :: l, 0, b, h => by
    simp at h
    subst h
    simp [mixB, mixB_zero, bxCs, bxC]
  | x :: l, k + 1, b, h => by
    have ih := mixB_succ d l k b (by simpa using h)
    have e : ∀ (y : Vf.Bx) (l : List Vf.Bx), bxCs (y :: l) = .int .i64 y.ty :: .int .i64 y.cap :: bxCs l := fun y l => by simp [bxCs, bxC]
    simp only [mixB]
    rw [e, e, ih, show (k + 1) * 2 + 1 = k * 2 + 1 + 1 + 1 by omega]
    simp
/-- What holds at the head of SchedWider's first loop. -/
structure WiAt (m : Md) (ab au : Option Addr) (cb cu : Nat) (w : World) (d Nb C : Nat) (vN : Value) (k : Nat) (wr : World) : Prop where
  le : k ≤ m.boxes.length
  below : Below w.heap.size w wr
  mb : wr.heap[w.heap.size]? = some (mdB m ab au cb cu)
  nb : wr.heap[Nb]? = some (.cells #[vN, .slice au m.units.length cu] 25 (0, 0))
  row : wr.ownsRow C 50 2 vN m.boxes.length (bxCs (mixB d m.boxes k))
  few : ∀ (i : Nat) b, i < k → m.boxes[i]? = some b → b.cap ≤ 20 - (d : Int)
theorem I64_add {x : Int} {d : Nat} (h : I64 x) (h1 : x ≤ 20 - (d : Int)) : I64 (x + d) := by
  unfold I64 at h ⊢
  omega
theorem WiAt.drew {m : Md} {ab au : Option Addr} {cb cu : Nat} {w : World} {d Nb C : Nat} {vN : Value} {k : Nat} {wr : World} (h : WiAt m ab au cb cu w d Nb C vN k wr) : WiAt m ab au cb cu w d Nb C vN k wr.drew := ⟨h.le, h.below.drew, h.mb, h.nb, h.row.drew, h.few⟩
/-- The wider module, in memory. -/
theorem WiAt.mod {m : Md} {ab au : Option Addr} {cb cu : Nat} {w : World} {d Nb C : Nat} {a : Option Addr} {c : Nat} {wr : World} (h : WiAt m ab au cb cu w d Nb C (.slice a m.boxes.length c) m.boxes.length wr) (hm : ModIn w.heap.size w m ab au) : ModIn wr.heap.size wr (wider d m) a au := by
  have h1 := mod_up (hm.low h.below.block) h.below.size
  refine ⟨by simpa [wider] using hm.few, fun i x hx => ?_, h1.units⟩
  have hr := h.row
  rw [mixB_all] at hr
  change (m.boxes.map fun b => { b with cap := b.cap + d })[i]? = some x at hx
  have c0 := fm_at bxC 2 (fun _ => rfl) _ i x hx 0 (by decide)
  have c1 := fm_at bxC 2 (fun _ => rfl) _ i x hx 1 (by decide)
  obtain ⟨g, e, k0⟩ := own_cellN hr c0
  obtain ⟨g', e', k1⟩ := own_cellN hr c1
  rw [e] at e'
  cases e'
  rw [List.getElem?_map] at hx
  cases hb : m.boxes[i]? with
  | none => rw [hb] at hx; cases hx
  | some b =>
    rw [hb] at hx
    cases hx
    obtain ⟨i1, i2, _⟩ := hm.boxes i b hb
    refine ⟨i1, I64_add i2 (h.few i b (List.getElem?_eq_some_iff.1 hb).1 hb), g, 0, e, World.block_lt_of_cell? wr _ k0, ?_, ?_⟩
    · rw [Nat.zero_add]; exact k0
    · rw [Nat.zero_add]; exact k1
end Go.Proofs.YtekjhefmhhcboaaGreat.Vw

/- The walk of SchedWider: WIDER BOXES SAY NO LESS. -/
namespace Go.Proofs.YtekjhefmhhcboaaGreat.Vw
open Go.RowKit Vf Vm

set_option maxHeartbeats 400000 in
theorem begins_any (v1 v2 : Value) (l l' : List Int) (w : World) (h1 : Hid (RI w v1 l)) (h2 : Hid (RI w v2 l')) (hn : l'.length ≤ 9223372036854775806) (hp : Hid (l <+: l')) :
    Calls Tryz.prog 13 #[v1, v2] w fun e w' => e = .returned (.bool true) ∧ ∃ d, w' = w.drewN d := by
  have hle := hp.out.length_le
  obtain ⟨a1, c1, rfl, hc1, r1⟩ := h1.out
  obtain ⟨a2, c2, rfl, hc2, r2⟩ := h2.out
  have HI2 : Hid (RI w (.slice a2 l.length c2) l) := ⟨a2, c2, rfl, by omega, fun i x hx => r2 i x (by
    obtain ⟨r, hr⟩ := hp.out
    rw [← hr, List.getElem?_append_left (List.getElem?_eq_some_iff.1 hx).1]
    exact hx)⟩
  clear r1 r2
  obtain ⟨n, hn1⟩ : ∃ n, n = l.length := ⟨_, rfl⟩
  obtain ⟨n', hn2⟩ : ∃ n, n = l'.length := ⟨_, rfl⟩
  have HN1 := Sb.hide hn1
  rw [← hn1] at h1 HI2 hle ⊢
  rw [← hn2] at hn hle hc2 ⊢
  have HN : Hid (l.length ≤ 9223372036854775806) := by unfold Hid; omega
  clear hn1 hn2 hc1
  have i1 : (n : Int) ≤ (n' : Int) := by omega
  have i2 : (n : Int) ≤ (c2 : Int) := by omega
  have i3 : (0 : Int) ≤ (n : Int) := by omega
  go_enter Tryz.func13, Tryz.ntmps13
  go_wp2_with fail
  refine (same_any _ _ l _ h1 HI2 HN.out).mono ?_
  rintro e w' ⟨rfl, d, rfl⟩
  go_wp2
  go_ret
  exact ⟨rfl, d, rfl⟩

theorem settle_len (m : Md) (q : Int) : ∀ (f : Nat) (W : Wd), (settleW m q f W).2.ts.length = W.ts.length
  | 0, _ => rfl
  | f + 1, W => by
    unfold settleW
    split
    · rfl
    · split
      · rw [settle_len m q f]; exact (pick_steps m W _).2.1
      · rfl
set_option maxRecDepth 100000 in
set_option maxHeartbeats 4000000 in
theorem wider_any (m : Md) (ab au : Option Addr) (cb cu : Nat) (w : World) (hmd : ModIn w.heap.size w m ab au) (hbl : m.boxes.length * 16 ≤ 140737488355328) (more : Int) :
    Calls Tryz.prog 8 #[mdV m ab au cb cu, .int .i64 more] w fun e w' => e = .returned (.bool true) ∧ Below w.heap.size w w' := by
  obtain ⟨i0, hi, hz0, hz1, hz2⟩ := info_parts Tryz.info50
  have HMD := Sb.hide hmd
  have HB0 : Hid (Below w.heap.size w (w.alloc (mdB m ab au cb cu))) := (Below.refl _ w).alloc (Nat.le_refl _) _
  have HM0 : Hid ((w.alloc (mdB m ab au cb cu)).heap[w.heap.size]? = some (mdB m ab au cb cu)) := heap_alloc_new w _
  clear hmd
  go_enter Tryz.func8, Tryz.ntmps8
  go_wp2_with fail
  generalize w.alloc (mdB m ab au cb cu) = W0 at *
  refine (alive_any _).mono ?_
  rintro e w1 ⟨rfl, hb1⟩
  have HB1 := Sb.hide (HB0.out.trans (hb1.mono HB0.out.size))
  have HM1 := Sb.hide ((hb1.block _ (lt_of_block HM0.out)).trans HM0.out)
  have c1 := md_cells HM1.out
  clear hb1
  by_cases h1 : more < 0
  · go_wp2
    go_ret
    exact ⟨rfl, HB1.out⟩
  by_cases h2 : 20 < more
  · go_wp2
    go_ret
    exact ⟨rfl, HB1.out⟩
  obtain ⟨d, rfl⟩ : ∃ d : Nat, more = d := ⟨more.toNat, by omega⟩
  have hd : d ≤ 20 := by omega
  have hwz := HB1.out.size
  have hwm := lt_of_block HM1.out
  obtain ⟨N, hN⟩ : ∃ N, N = m.boxes.length := ⟨_, rfl⟩
  have HN := Sb.hide hN
  rw [← hN] at c1 hbl
  obtain ⟨W3, hW3⟩ : ∃ W3 : World, (w1.alloc (.cells #[.slice ab N cb, .slice au m.units.length cu] 25)).alloc (.cells #[] 50) = W3 := ⟨_, rfl⟩
  have HW3 := Sb.hide hW3
  have HB3 : Hid (Below w.heap.size w W3) := by rw [← hW3]; exact (HB1.out.alloc hwz _).alloc (by simp; omega) _
  have HM3 : Hid (W3.heap[w.heap.size]? = some (mdB m ab au cb cu)) := by rw [← hW3]; exact (Below.heap_alloc _ _ _ (by simp; omega)).trans ((Below.heap_alloc _ _ _ hwm).trans HM1.out)
  have HN3 : Hid (W3.heap[w1.heap.size]? = some (.cells #[.slice ab N cb, .slice au m.units.length cu] 25 (0, 0))) := by rw [← hW3]; exact (Below.heap_alloc _ _ _ (by simp)).trans (heap_alloc_new w1 _)
  have hz3 : W3.heap.size = w1.heap.size + 1 + 1 := by rw [← hW3]; simp
  have HO3 : Hid (W3.ownsRow (w1.heap.size + 1) 50 2 (.slice (some ⟨w1.heap.size + 1, 0, none⟩) 0 0) 0 []) := by
    have e : (w1.alloc (.cells #[.slice ab N cb, .slice au m.units.length cu] 25)).heap.size = w1.heap.size + 1 := by simp
    rw [← hW3]
    have := own_empty (w1.alloc (.cells #[.slice ab N cb, .slice au m.units.length cu] 25)) 50 (M := w1.heap.size + 1) (by simp) 2
    rw [e] at this
    exact this
  clear hN hW3
  have HX3 : Hid (BoxesIn w.heap.size W3 m.boxes ab) := (HMD.out.low HB3.out.block).boxes
  go_wp2_with (at_builtin; rw [HW3.out]; refine wpList_append_src rfl _ _ 22 rfl (w1.heap.size + 1) 50 i0 _ 2 16 Tryz.underlying22 hi hz0 hz1 hz2 rfl (by decide) _ 0 [] rfl HO3.out ab N cb (bxCs m.boxes) rfl (by rw [HN.out]; exact bxs_none HX3.out) (by rw [HN.out]; exact bxCs_len _) (bxs_src HX3.out) (bxCs_one _) (by unfold maxLen; omega) (by omega) (by omega) ?_)
  intro v1 w4 hown1 hgr1
  have hgr : W3.grownBy w4 (some (w1.heap.size + 1)) := hgr1
  have hz4 := hgr.size
  obtain ⟨na, nc, rfl⟩ := own_slice hown1
  have k4 : ∀ b, b < w1.heap.size + 1 → w4.heap[b]? = W3.heap[b]? := fun b hb => hgr.block b (by omega) (by simp; omega)
  have hNb := (k4 _ (Nat.lt_succ_self _)).trans HN3.out
  have HW5 : Hid (WiAt m ab au cb cu w d w1.heap.size (w1.heap.size + 1) (.slice na N nc) 0 (w4.setCell ⟨w1.heap.size, 0, none⟩ (.slice na N nc))) := by
    have hset : ∀ b, b ≠ w1.heap.size → (w4.setCell ⟨w1.heap.size, 0, none⟩ (.slice na N nc)).heap[b]? = w4.heap[b]? := fun b hb => Below.heap_setCell _ ⟨w1.heap.size, 0, none⟩ _ _ hb
    have hB4 : Below w.heap.size w w4 := ⟨hgr.os.trans HB3.out.os, hgr.tape.trans HB3.out.tape, hgr.output.trans HB3.out.output, Nat.le_trans HB3.out.size hgr.size, fun b hb => (k4 b (by omega)).trans (HB3.out.block b hb)⟩
    refine ⟨Nat.zero_le _, hB4.setCell (p := ⟨w1.heap.size, 0, none⟩) hwz _, (hset _ (by omega)).trans ((k4 _ (by omega)).trans HM3.out), ?_, ?_, fun i b hi => by omega⟩
    · simp only [World.setCell, Array.getElem?_modify, if_true, hNb, Option.map_some]
      rfl
    · rw [mixB_zero, ← HN.out]
      exact own_keep hown1 (fun b hb => hset b (by have := (hown1.lt b hb).1; omega))
  have x1 : w4.cell? ⟨w1.heap.size, 0, none⟩ = some (.slice ab N cb) := by simp [World.cell?, hNb]
  have x2 : w4.frozen? ⟨w1.heap.size, 0, none⟩ = false := by simp [World.frozen?, hNb]
  have x3 : (w4.setCell ⟨w1.heap.size, 0, none⟩ (.slice na N nc)).cell? ⟨w1.heap.size, 0, none⟩ = some (.slice na N nc) := by
    have := HW5.out.nb
    generalize w4.setCell ⟨w1.heap.size, 0, none⟩ (.slice na N nc) = W5 at this ⊢
    simp [World.cell?, this]
  obtain ⟨W5, hW5⟩ : ∃ W5, w4.setCell ⟨w1.heap.size, 0, none⟩ (.slice na N nc) = W5 := ⟨_, rfl⟩
  rw [hW5] at HW5 x3
  have HW5E := Sb.hide hW5
  clear hown1 hgr1 hgr k4 hNb hW5
  go_wp2_with fail
  rw [HW5E.out]
  clear x1 x2
  go_loopw [29] (fun v wr => ∃ k : Nat, v = .int .i64 k ∧ WiAt m ab au cb cu w d w1.heap.size (w1.heap.size + 1) (.slice na N nc) k wr) (fun v _ => N - (intOf v).toNat)
  case atStart => exact ⟨0, rfl, HW5.out⟩
  case round =>
    obtain ⟨k, rfl, hA⟩ := hrel
    have HA := Sb.hide hA
    have hk := hA.le
    have n0 : wr.cell? ⟨w1.heap.size, 0, none⟩ = some (.slice na N nc) := by have := hA.nb; simp [World.cell?, this]
    rw [← HN.out] at hk
    clear hA HW5
    by_cases hlt : k < N
    · obtain ⟨b, hb⟩ : ∃ b, m.boxes[k]? = some b := ⟨_, List.getElem?_eq_getElem (by rw [← HN.out]; exact hlt)⟩
      have hrow := HA.out.row
      have hc1 := fm_at bxC 2 (fun _ => rfl) _ k b (mixB_at d m.boxes k b hb) 1 (by decide)
      rw [← HN.out] at hrow
      obtain ⟨g, hg, y1⟩ := own_cellN hrow hc1
      subst hg
      have yf := hrow.frozenAt (k * 2 + 1)
      have hgz := (hrow.lt g rfl)
      have hic := (HMD.out.boxes k b hb).2.1
      unfold I64 at hic
      have HBK := Sb.hide hb
      have b0 : (0 : Int) ≤ (k : Int) := by omega
      have b1 : (k : Int) < (N : Int) := by omega
      obtain ⟨cp, hcp⟩ : ∃ cp, cp = b.cap := ⟨_, rfl⟩
      have HCP := Sb.hide hcp
      rw [← hcp] at hic
      replace y1 : wr.cell? ⟨g, k * 2 + 1, none⟩ = some (.int .i64 cp) := by rw [hcp]; exact y1
      have HST := Sb.hide (hrow.stored (k * 2 + 1) (.int .i64 (cp + d)))
      clear hb hc1 hrow hcp
      by_cases hc : 20 - (d : Int) < cp
      · go_wp2
        go_ret
        exact ⟨rfl, HA.out.below⟩
      · have HREL : Hid (WiAt m ab au cb cu w d w1.heap.size (w1.heap.size + 1) (.slice (some ⟨g, 0, none⟩) N nc) (k + 1) (wr.setCell ⟨g, k * 2 + 1, none⟩ (.int .i64 (cp + d)))) := by
          have hset : ∀ b, b ≠ g → (wr.setCell ⟨g, k * 2 + 1, none⟩ (.int .i64 (cp + d))).heap[b]? = wr.heap[b]? := fun b hb => Below.heap_setCell _ ⟨g, k * 2 + 1, none⟩ _ _ hb
          refine ⟨by rw [← HN.out]; omega, HA.out.below.setCell (p := ⟨g, k * 2 + 1, none⟩) (by show w.heap.size ≤ g; omega) _, (hset _ (by omega)).trans HA.out.mb, (hset _ (by omega)).trans HA.out.nb, ?_, fun i x hi hx => ?_⟩
          · rw [mixB_succ d m.boxes k b HBK.out, ← HN.out, ← HCP.out]
            exact HST.out.1
          · rcases (by omega : i < k ∨ i = k) with h | h
            · exact HA.out.few i x h hx
            · subst h
              rw [HBK.out] at hx
              cases hx
              have := HCP.out
              omega
        go_wp2
        go_region
        all_goals
          go_wp2
          go_roundw
          case rel => exact ⟨k + 1, by go_num, by first | exact HREL.out | exact HREL.out.drew⟩
          case measure => simp [intOf]; omega
    · have ek : k = N := by omega
      have n1 : ¬ (k : Int) < (N : Int) := by omega
      have HF : Hid (WiAt m ab au cb cu w d w1.heap.size (w1.heap.size + 1) (.slice na m.boxes.length nc) m.boxes.length wr) := by
        have := HA.out
        rw [ek, HN.out] at this
        exact this
      have HMW := Sb.hide (HF.out.mod HMD.out)
      have HMM := Sb.hide (mod_up (HMD.out.low HF.out.below.block) HF.out.below.size)
      obtain ⟨E, hE⟩ : ∃ E, E = setE m [] 100 := ⟨_, rfl⟩
      obtain ⟨R, hR⟩ : ∃ R, R = (setR m [] 100).2 := ⟨_, rfl⟩
      obtain ⟨F, hF⟩ : ∃ E, E = setE (wider d m) [] 100 := ⟨_, rfl⟩
      obtain ⟨S, hS⟩ : ∃ R, R = (setR (wider d m) [] 100).2 := ⟨_, rfl⟩
      have HK : Hid (E = 0 → F = 0 → Grows R.wx S.wx ∧ R.ts.length = S.ts.length ∧ verify m = (0, 0, 0) ∧ verify (wider d m) = (0, 0, 0)) := fun h1 h2 => by
        obtain ⟨v1, q1, z1⟩ := setE_zero (by rw [← hE]; exact h1)
        obtain ⟨v2, q2, z2⟩ := setE_zero (by rw [← hF]; exact h2)
        rw [hR, hS]
        exact ⟨wider_settle v1 v2 100 q1 z1 z2, by rw [settle_len, settle_len]; rfl, v1, v2⟩
      have HE := Sb.hide hE
      have HRR := Sb.hide hR
      have HFF := Sb.hide hF
      have HSS := Sb.hide hS
      have c2 := md_cells HF.out.mb
      have x2 : wr.cell? ⟨w1.heap.size, 1, none⟩ = some (.slice au m.units.length cu) := by have := HF.out.nb; simp [World.cell?, this]
      have HNB : Hid (wr.heap[w1.heap.size]? = some (.cells #[.slice na N nc, .slice au m.units.length cu] 25 (0, 0))) := by have := HF.out.nb; rw [← HN.out] at this; exact this
      have hwr := HF.out.below.size
      clear hE hR hF hS hk HA
      go_wp2_with fail
      refine (Settle_any m ab au cb cu wr.heap.size [] none 0 _ HMM (Sb.hide (fun i p hp => by cases hp)) (Nat.le_refl _) 100 E HE R HRR).mono ?_
      rintro e w5 ⟨hb5, hr1⟩
      have HB5 := Sb.hide (HF.out.below.trans (hb5.mono hwr))
      have HN5 := Sb.hide ((hb5.block _ (lt_of_block HNB.out)).trans HNB.out)
      have HMW5 := Sb.hide (HMW.out.low hb5.block)
      have hz5 := hb5.size
      clear hb5 c2 x2 n0
      obtain ⟨ea, nna, ec, ba, nb, bc, st, rfl, hA1⟩ := settled hr1
      have HA1 := Sb.hide hA1
      have HBW : Hid (Below w5.heap.size w5 (w5.alloc (woO (.slice ea nna ec) (.slice ba nb bc) st))) := (Below.refl _ w5).alloc (Nat.le_refl _) _
      have HOW : Hid ((w5.alloc (woO (.slice ea nna ec) (.slice ba nb bc) st)).heap[w5.heap.size]? = some (woO (.slice ea nna ec) (.slice ba nb bc) st)) := heap_alloc_new w5 _
      have HN6 := Sb.hide ((HBW.out.block _ (lt_of_block HN5.out)).trans HN5.out)
      have y0 : (w5.alloc (woO (.slice ea nna ec) (.slice ba nb bc) st)).cell? ⟨w1.heap.size, 0, none⟩ = some (.slice na N nc) := by have := HN6.out; simp [World.cell?, this]
      have y1 : (w5.alloc (woO (.slice ea nna ec) (.slice ba nb bc) st)).cell? ⟨w1.heap.size, 1, none⟩ = some (.slice au m.units.length cu) := by have := HN6.out; simp [World.cell?, this]
      clear hr1 hA1
      go_wp2_with fail
      generalize w5.alloc (woO (.slice ea nna ec) (.slice ba nb bc) st) = W6 at *
      have hz6 := HBW.out.size
      have hset := Settle_any (wider d m) na au nc cu wr.heap.size [] none 0 W6 (Sb.hide (HMW5.out.low (HBW.out.mono hz5).block)) (Sb.hide (fun i p hp => by cases hp)) (by omega) 100 F HFF S HSS
      have e1 : mdV (wider d m) na au nc cu = .agg #[.slice na N nc, .slice au m.units.length cu] := by rw [HN.out]; simp [wider]
      rw [e1] at hset
      refine hset.mono ?_
      clear hset
      rintro e w7 ⟨hb7, hr2⟩
      have hz7 := hb7.size
      have HB7 : Hid (Below w.heap.size w w7) := (HB5.out.trans (HBW.out.mono (by omega))).trans (hb7.mono (by omega))
      obtain ⟨fa, fna, fc, ga, fnb, gc, st', rfl, hA2⟩ := settled (m := wider d m) hr2
      have HA2 := Sb.hide hA2
      have HO7 := Sb.hide ((hb7.block _ (lt_of_block HOW.out)).trans HOW.out)
      have hO7 := lt_of_block HO7.out
      have HRD : Hid (E = 0 → WRd w7 m R.ts R.x (.slice ea nna ec) (.slice ba nb bc)) := fun h => (((HA1.out h).2.1.below HBW.out).below hb7)
      have HB8 : Hid (Below w7.heap.size w7 (w7.alloc (woO (.slice fa fna fc) (.slice ga fnb gc) st'))) := (Below.refl _ w7).alloc (Nat.le_refl _) _
      have HO8 : Hid ((w7.alloc (woO (.slice fa fna fc) (.slice ga fnb gc) st')).heap[w7.heap.size]? = some (woO (.slice fa fna fc) (.slice ga fnb gc) st')) := heap_alloc_new w7 _
      clear hr2 hA2 hb7 y0 y1
      by_cases h1 : E = 0
      · by_cases h2 : F = 0
        · obtain ⟨hG, hlen, v1, v2⟩ := HK.out h1 h2
          obtain ⟨is1, i2, K1, _, i3⟩ := HA1.out h1
          obtain ⟨js1, j2, K2, _, j3⟩ := HA2.out h2
          obtain ⟨q1, _, _, q4, _⟩ := wi_few i3 v1
          obtain ⟨_, _, _, p4, _⟩ := wi_few j3 v2
          have hrd := HRD.out h1
          obtain ⟨a1, c1, e1, r1⟩ := (hrd.below HB8.out).ends
          obtain ⟨a2, c2, e2, r2⟩ := (j2.below HB8.out).ends
          simp only [Value.slice.injEq] at e1 e2
          obtain ⟨rfl, rfl, rfl⟩ := e1
          obtain ⟨rfl, rfl, rfl⟩ := e2
          obtain ⟨M, hM⟩ : ∃ M, R.ts.length = M := ⟨_, rfl⟩
          have hSM : S.ts.length = M := hlen.symm.trans hM
          have HM := Sb.hide hM
          have HSM := Sb.hide hSM
          rw [hM] at q1 HO7
          rw [hSM] at HO8 HB8 r1 r2 ⊢
          have HR1 := Sb.hide r1
          have HR2 := Sb.hide r2
          have HG := Sb.hide hG
          have HQ4 := Sb.hide p4
          have hz8 := HB8.out.size
          have hz8' := lt_of_block HO8.out
          have z1 := (wo_cells ((HB8.out.block _ hO7).trans HO7.out)).1.1
          have z2 := (wo_cells HO8.out).1.1
          have HZ1 := Sb.hide z1
          have HZ2 := Sb.hide z2
          have z3 := (wo_cells HO7.out).1.1
          have hne1 : ¬ w5.heap.size = w7.heap.size := by omega
          have hne2 : ¬ w7.heap.size = w5.heap.size := by omega
          clear z1 z2
          have f1 : (E != 0) = false := by simpa using h1
          have f2 : (F != 0) = false := by simpa using h2
          have eqM : ((M : Int) != (M : Int)) = false := by simp
          clear is1 js1 hM hSM hG hlen i2 i3 j2 j3 q4 p4 hrd r1 r2 h1 h2 v1 v2
          go_wp2
          generalize w7.alloc (woO (.slice fa M fc) (.slice ga fnb gc) st') = W8 at *
          have z1 := HZ1.out
          have z2 := HZ2.out
          have HB9 : Hid (Below w.heap.size w W8) := HB7.out.trans (HB8.out.mono HB7.out.size)
          go_loopw [81] (fun v wr => ∃ k : Nat, v = .int .i64 k ∧ k ≤ M ∧ Below W8.heap.size W8 wr) (fun v _ => M - (intOf v).toNat)
          case atStart => exact ⟨0, rfl, Nat.zero_le _, .refl _ _⟩
          case round =>
            obtain ⟨k, rfl, hkM, hbr⟩ := hrel
            have HBR := Sb.hide hbr
            clear hbr z1 z2
            by_cases hlt2 : k < M
            · obtain ⟨t, ht⟩ : ∃ t, R.ts[k]? = some t := ⟨_, List.getElem?_eq_getElem (by have := HM.out; omega)⟩
              obtain ⟨u, hu, _, hou⟩ := HG.out k t ht
              obtain ⟨b1, o1, u1, rfl, _, _, _, x3, g1⟩ := HR1.out k t ht
              obtain ⟨b2, o2, u2, rfl, _, _, _, y3, g2⟩ := HR2.out k u hu
              have HQ : Hid (∀ W, Below W8.heap.size W8 W → RI W u1 t.out ∧ RI W u2 u.out) := fun W hW => ⟨g1.below hW, g2.below hW⟩
              have hz1 := World.block_lt_of_cell? W8 _ x3
              have hz2 := World.block_lt_of_cell? W8 _ y3
              have hz3 := World.block_lt_of_cell? W8 _ HZ1.out
              have hz4 := World.block_lt_of_cell? W8 _ HZ2.out
              have HX : Hid (∀ W, Below W8.heap.size W8 W → (W.cell? ⟨w5.heap.size, 0, none⟩ = some (.slice (some ⟨b1, o1, none⟩) M ec) ∧ W.cell? ⟨w7.heap.size, 0, none⟩ = some (.slice (some ⟨b2, o2, none⟩) M fc)) ∧ W.cell? ⟨b1, o1 + k * 4 + 3, none⟩ = some u1 ∧ W.cell? ⟨b2, o2 + k * 4 + 3, none⟩ = some u2) := fun W hW => ⟨⟨(cell_eq (hW.block _ hz3) _).trans HZ1.out, (cell_eq (hW.block _ hz4) _).trans HZ2.out⟩, (cell_eq (hW.block b1 hz1) _).trans x3, (cell_eq (hW.block b2 hz2) _).trans y3⟩
              obtain ⟨⟨k1, k2⟩, k3, k4⟩ := HX.out _ HBR.out
              have hll : u.out.length ≤ 9223372036854775806 := by have := HQ4.out u (List.mem_of_getElem? hu); omega
              have HP := Sb.hide hou
              have i0 : (0 : Int) ≤ (k : Int) := by omega
              have i1 : (k : Int) < (M : Int) := by omega
              obtain ⟨lt, hlt'⟩ : ∃ l, l = t.out := ⟨_, rfl⟩
              obtain ⟨lu, hlu'⟩ : ∃ l, l = u.out := ⟨_, rfl⟩
              rw [← hlt', ← hlu'] at HQ HP
              rw [← hlu'] at hll
              clear ht hu hou x3 y3 g1 g2 hlt' hlu'
              go_wp2
              go_region_held3 (fun w' => (w'.cell? ⟨w5.heap.size, 0, none⟩ = some (.slice (some ⟨b1, o1, none⟩) M ec) ∧ w'.cell? ⟨w7.heap.size, 0, none⟩ = some (.slice (some ⟨b2, o2, none⟩) M fc)) ∧ w'.cell? ⟨b1, o1 + k * 4 + 3, none⟩ = some u1 ∧ w'.cell? ⟨b2, o2 + k * 4 + 3, none⟩ = some u2) (go_keep) ((go_at_call 13; refine (begins_any u1 u2 lt lu _ (Sb.hide (HQ.out _ HBR.out.drew).1) (Sb.hide (HQ.out _ HBR.out.drew).2) hll HP).mono ?_; rintro e w' ⟨rfl, d2, rfl⟩; have HB2 : Hid (Below W8.heap.size W8 ((wr.drew).drewN d2)) := (by exact below_drewN HBR.out.drew d2); have k1 := (HX.out _ HB2.out).1.1; have k2 := (HX.out _ HB2.out).1.2; have k3 := (HX.out _ HB2.out).2.1; have k4 := (HX.out _ HB2.out).2.2))
              go_wp2
              go_roundw
              case rel => exact ⟨k + 1, by go_num, by omega, below_drewN HBR.out _⟩
              case measure => simp [intOf]; omega
            · go_wp2
              go_ret
              exact ⟨rfl, HB9.out.trans (HBR.out.mono HB9.out.size)⟩
        · have f1 : (E != 0) = false := by simpa using h1
          have f2 : (F != 0) = true := by simpa using h2
          clear h1 h2
          go_wp2
          go_ret
          exact ⟨rfl, HB7.out.alloc HB7.out.size _⟩
      · have f1 : (E != 0) = true := by simpa using h1
        clear h1
        go_wp2
        go_ret
        exact ⟨rfl, HB7.out.alloc HB7.out.size _⟩
end Go.Proofs.YtekjhefmhhcboaaGreat.Vw

