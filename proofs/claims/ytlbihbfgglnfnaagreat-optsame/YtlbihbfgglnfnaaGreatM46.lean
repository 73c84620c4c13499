/- The walks of SameAll, SameReport. -/
import Derived.Test.YtlbihbfgglnfnaaGreatM45
import Derived.Test.YtlbihbfgglnfnaaGreatM21
set_option maxRecDepth 100000
set_option maxHeartbeats 2000000
namespace Go.Proofs.YtlbihbfgglnfnaaGreat.Vw
open Go.RowKit Vf Vm
theorem sameAll_any (v1 v2 : Value) (ls : List (List Int)) (w : World) (h1 : Hid (RS w v1 ls)) (h2 : Hid (RS w v2 ls)) (hn : ls.length ≤ 9223372036854775806) (hm : Hid (∀ l ∈ ls, l.length ≤ 9223372036854775806)) :
  Calls Tryz.prog 19 #[v1, v2] w fun e w' => e = .returned (.bool true) ∧ Below w.heap.size w w' := by
 obtain ⟨a1, c1, rfl, r1⟩ := h1.out
 obtain ⟨a2, c2, rfl, r2⟩ := h2.out
 have HR1 := Sb.hide r1
 have HR2 := Sb.hide r2
 clear r1 r2 h1 h2
 have eq0 : ((ls.length : Int) != (ls.length : Int)) = false := by simp
 go_enter Tryz.func19, Tryz.ntmps19
 go_wp2
 go_loopw [13] (fun i wr => ∃ k : Nat, k ≤ ls.length ∧ i = .int .i64 k ∧ Below w.heap.size w wr) (fun i _ => ls.length - (intOf i).toNat)
 case atStart => exact ⟨0, Nat.zero_le _, rfl, .refl _ _⟩
 case round =>
  obtain ⟨k, hk, rfl, hb⟩ := hrel
  have HB := Sb.hide hb
  clear hb
  by_cases hlt : k < ls.length
  ·obtain ⟨l, hl⟩ : ∃ x, ls[k]? = some x := ⟨_, List.getElem?_eq_getElem hlt⟩
   obtain ⟨b1, o1, u1, rfl, x1, q1⟩ := HR1.out k l hl
   obtain ⟨b2, o2, u2, rfl, x2, q2⟩ := HR2.out k l hl
   have HQ : Hid (∀ W, Below w.heap.size w W → RI W u1 l ∧ RI W u2 l) := fun W hW => ⟨q1.below hW, q2.below hW⟩
   have hz1 := World.block_lt_of_cell? w _ x1
   have hz2 := World.block_lt_of_cell? w _ x2
   have HX : Hid (∀ W, Below w.heap.size w W → W.cell? ⟨b1, o1 + k, none⟩ = some u1 ∧ W.cell? ⟨b2, o2 + k, none⟩ = some u2) := fun W hW => ⟨(cell_eq (hW.block b1 hz1) _).trans x1, (cell_eq (hW.block b2 hz2) _).trans x2⟩
   obtain ⟨y1, y2⟩ := HX.out _ HB.out
   have hll := hm.out l (List.mem_of_getElem? hl)
   have i0 : (0 : Int) ≤ (k : Int) := by omega
   have i1 : (k : Int) < (ls.length : Int) := by omega
   clear hl q1 q2 x1 x2
   go_wp2
   go_region_held3 (fun w' => w'.cell? ⟨b1, o1 + k, none⟩ = some u1 ∧ w'.cell? ⟨b2, o2 + k, none⟩ = some u2) (go_keep) ((go_at_call 18; refine (same_any u1 u2 l _ (Sb.hide (HQ.out _ HB.out.drew).1) (Sb.hide (HQ.out _ HB.out.drew).2) hll).mono ?_; rintro e w' ⟨rfl, d2, rfl⟩; have HB2 : Hid (Below w.heap.size w ((wr.drew).drewN d2)) := (by exact below_drewN HB.out.drew d2); have y1 := (HX.out _ HB2.out).1; have y2 := (HX.out _ HB2.out).2))
   go_wp2
   go_roundw
   case rel => exact ⟨k + 1, by omega, by go_num, below_drewN HB.out _⟩
   case measure => simp [intOf]; omega
  ·go_wp2
   go_ret
   exact ⟨rfl, HB.out⟩
theorem sameReport_any (s q tr st : Nat) (t : Tk) (x : List Lst) (vO vS vT vO' vS' vT' : Value) (w : World) (h1 : Hid (RpRd w t x vO vS vT)) (h2 : Hid (RpRd w t x vO' vS' vT')) (hn : x.length ≤ 1000000) (ho : t.out.length ≤ 1000000) (hm : Hid (∀ q ∈ x, q.sent.length ≤ 1000000)) :
  Calls Tryz.prog 7 #[repV s q tr vO vS vT st, repV s q tr vO' vS' vT' st] w fun e w' => e = .returned (.bool true) ∧ Below w.heap.size w w' := by
 obtain ⟨ta1, tc1, e1, _, r1⟩ := h1.out.took
 obtain ⟨ta2, tc2, e2, _, r2⟩ := h2.out.took
 subst e1 e2
 obtain ⟨sa1, sc1, e1, _⟩ := h1.out.sent
 obtain ⟨sa2, sc2, e2, _⟩ := h2.out.sent
 subst e1 e2
 obtain ⟨oa1, oc1, e1, _⟩ := h1.out.out
 obtain ⟨oa2, oc2, e2, _⟩ := h2.out.out
 subst e1 e2
 simp only [List.length_map] at r1 r2 h1 h2 ⊢
 have HR1 := Sb.hide r1
 have HR2 := Sb.hide r2
 have f1 : ((s : Int) != (s : Int)) = false := by simp
 have f2 : ((q : Int) != (q : Int)) = false := by simp
 have f3 : ((tr : Int) != (tr : Int)) = false := by simp
 have f4 : ((st : Int) != (st : Int)) = false := by simp
 obtain ⟨n, hn1⟩ : ∃ n, n = x.length := ⟨_, rfl⟩
 have HN := Sb.hide hn1
 rw [← hn1] at hn h1 h2 ⊢
 have f5 : ((n : Int) != (n : Int)) = false := by simp
 clear r1 r2 hn1
 go_enter Tryz.func7, Tryz.ntmps7
 go_wp2_with fail
 have HB0 : Hid (Below w.heap.size w ((w.alloc (repO s q tr (.slice oa1 t.out.length oc1) (.slice sa1 n sc1) (.slice ta1 n tc1) st)).alloc (repO s q tr (.slice oa2 t.out.length oc2) (.slice sa2 n sc2) (.slice ta2 n tc2) st))) := ((Below.refl _ w).alloc (Nat.le_refl _) _).alloc (by simp) _
 have HA0 : Hid (((w.alloc (repO s q tr (.slice oa1 t.out.length oc1) (.slice sa1 n sc1) (.slice ta1 n tc1) st)).alloc (repO s q tr (.slice oa2 t.out.length oc2) (.slice sa2 n sc2) (.slice ta2 n tc2) st)).heap[w.heap.size]? = some (repO s q tr (.slice oa1 t.out.length oc1) (.slice sa1 n sc1) (.slice ta1 n tc1) st)) := (Below.heap_alloc _ _ _ (by simp)).trans (heap_alloc_new w _)
 have HC0 : Hid (((w.alloc (repO s q tr (.slice oa1 t.out.length oc1) (.slice sa1 n sc1) (.slice ta1 n tc1) st)).alloc (repO s q tr (.slice oa2 t.out.length oc2) (.slice sa2 n sc2) (.slice ta2 n tc2) st)).heap[w.heap.size + 1]? = some (repO s q tr (.slice oa2 t.out.length oc2) (.slice sa2 n sc2) (.slice ta2 n tc2) st)) := by
  have e : (w.alloc (repO s q tr (.slice oa1 t.out.length oc1) (.slice sa1 n sc1) (.slice ta1 n tc1) st)).heap.size = w.heap.size + 1 := by simp
  unfold Hid
  rw [← e]
  exact heap_alloc_new _ _
 generalize (w.alloc (repO s q tr (.slice oa1 t.out.length oc1) (.slice sa1 n sc1) (.slice ta1 n tc1) st)).alloc (repO s q tr (.slice oa2 t.out.length oc2) (.slice sa2 n sc2) (.slice ta2 n tc2) st) = W0 at *
 refine (same_any _ _ t.out _ (Sb.hide (h1.out.out.below HB0.out)) (Sb.hide (h2.out.out.below HB0.out)) (by omega)).mono ?_
 rintro e w' ⟨rfl, d, rfl⟩
 have HB1 : Hid (Below w.heap.size w (W0.drewN d)) := below_drewN HB0.out d
 have HA1 : Hid ((W0.drewN d).heap[w.heap.size]? = some (repO s q tr (.slice oa1 t.out.length oc1) (.slice sa1 n sc1) (.slice ta1 n tc1) st)) := HA0.out
 have HC1 : Hid ((W0.drewN d).heap[w.heap.size + 1]? = some (repO s q tr (.slice oa2 t.out.length oc2) (.slice sa2 n sc2) (.slice ta2 n tc2) st)) := HC0.out
 generalize W0.drewN d = W1 at *
 have ra := (rep_cells HA1.out).1
 have rc := (rep_cells HC1.out).1
 go_wp2_with fail
 refine (sameAll_any _ _ (x.map (·.sent)) _ (Sb.hide (by have := h1.out.sent.below HB1.out; exact this)) (Sb.hide (by have := h2.out.sent.below HB1.out; exact this)) (by have := HN.out; simp; omega) (Sb.hide (fun l hl => by
  obtain ⟨q, hq, rfl⟩ := List.mem_map.1 hl
  have := hm.out q hq
  omega))).mono ?_
 rintro e w2 ⟨rfl, hb2⟩
 have HB2 : Hid (Below w.heap.size w w2) := HB1.out.trans (hb2.mono HB1.out.size)
 have HA2 := Sb.hide ((hb2.block _ (lt_of_block HA1.out)).trans HA1.out)
 have HC2 := Sb.hide ((hb2.block _ (lt_of_block HC1.out)).trans HC1.out)
 clear ra rc hb2
 have ra := (rep_cells HA2.out).1
 have rc := (rep_cells HC2.out).1
 go_wp2
 clear ra rc
 go_loopw [60] (fun i wr => ∃ k d : Nat, k ≤ n ∧ i = .int .i64 k ∧ wr = w2.drewN d) (fun i _ => n - (intOf i).toNat)
 case atStart => exact ⟨0, 0, Nat.zero_le _, rfl, rfl⟩
 case round =>
  obtain ⟨k, d, hk, rfl, rfl⟩ := hrel
  by_cases hlt : k < n
  ·obtain ⟨y, hy⟩ : ∃ y, x[k]? = some y := ⟨_, List.getElem?_eq_getElem (by have := HN.out; omega)⟩
   obtain ⟨b1, o1, rfl, x1⟩ := HR1.out k (y.took : Int) (by rw [List.getElem?_map, hy]; rfl)
   obtain ⟨b2, o2, rfl, x2⟩ := HR2.out k (y.took : Int) (by rw [List.getElem?_map, hy]; rfl)
   have z1 : w2.cell? ⟨b1, o1 + k, none⟩ = some (.int .i64 (y.took : Int)) := (cell_eq (HB2.out.block b1 (World.block_lt_of_cell? w _ x1)) _).trans x1
   have z2 : w2.cell? ⟨b2, o2 + k, none⟩ = some (.int .i64 (y.took : Int)) := (cell_eq (HB2.out.block b2 (World.block_lt_of_cell? w _ x2)) _).trans x2
   have eqx : ((y.took : Int) != (y.took : Int)) = false := by simp
   have i0 : (0 : Int) ≤ (k : Int) := by omega
   have i1 : (k : Int) < (n : Int) := by omega
   have ra := (rep_cells HA2.out).1.2.2.2.2.2.1
   have rc := (rep_cells HC2.out).1.2.2.2.2.2.1
   clear hy x1 x2
   go_wp2
   go_quiet (fail)
   go_wp2
   go_roundw
   case rel => exact ⟨k + 1, _, by omega, by go_num, rfl⟩
   case measure => simp [intOf]; omega
  ·go_wp2
   go_ret
   exact ⟨rfl, below_drewN HB2.out d⟩
structure SoOk (w : World) (m : Md) (task most : Int) (fs : List (List Int)) (s q tr st : Nat) (vO vS vT : Value) : Prop where
 stat : (s, q) = stat lsX m (soloR m task most fs).2.1 (soloR m task most fs).2.2
 trap : tr = (soloR m task most fs).2.1.trap
 steps : st = (soloR m task most fs).1
 rd : RpRd w (soloR m task most fs).2.1 (soloR m task most fs).2.2 vO vS vT
 li : ∃ K, Known m K ∧ LI m K fs (soloR m task most fs).1 (soloR m task most fs).2.1 (soloR m task most fs).2.2
theorem SoOk.below {w w' : World} {m : Md} {task most : Int} {fs : List (List Int)} {s q tr st : Nat} {vO vS vT : Value} (h : SoOk w m task most fs s q tr st vO vS vT) (hb : Below w.heap.size w w') : SoOk w' m task most fs s q tr st vO vS vT := ⟨h.stat, h.trap, h.steps, h.rd.below hb, h.li⟩
theorem solo_some (m : Md) (ab au : Option Addr) (cb cu B : Nat) (fs : List (List Int)) (a : Option Addr) (cap : Nat) (fa : Nat → Option Addr) (fc : Nat → Nat) (w : World) (hmd : Hid (ModIn B w m ab au)) (hfd : Hid (FdIn B w fs a fa fc)) (hB : B ≤ w.heap.size) (task most : Int) (E : Int) (hE : Hid (E = soloE m task most fs)) :
  Calls Tryz.prog 6 #[mdV m ab au cb cu, .int .i64 task, .slice a fs.length cap, .int .i64 most] w fun e w' => ∃ s q tr st oa on oc sa sn sc ta tn tc, e = .returned (.tuple #[repV s q tr (.slice oa on oc) (.slice sa sn sc) (.slice ta tn tc) st, .int .i64 E]) ∧ Below w.heap.size w w' ∧ (E = 0 → SoOk w' m task most fs s q tr st (.slice oa on oc) (.slice sa sn sc) (.slice ta tn tc)) := by
 refine (solo_any m ab au cb cu B fs a cap fa fc w hmd hfd hB task most E hE).mono ?_
 rintro e w' ⟨hb, hr⟩
 rcases hr with ⟨h0, rfl⟩ | ⟨h0, vO, vS, vT, rfl, hR, hK⟩
 ·exact ⟨0, 0, 0, 0, none, 0, 0, none, 0, 0, none, 0, 0, rfl, hb, fun e => absurd e h0⟩
 ·have hrd := hR.reads
  obtain ⟨oa, oc, e1, _⟩ := hrd.out
  obtain ⟨sa, sc, e2, _⟩ := hrd.sent
  obtain ⟨ta, tc, e3, _⟩ := hrd.took
  subst e1 e2 e3 h0
  exact ⟨_, _, _, _, oa, _, oc, sa, _, sc, ta, _, tc, rfl, hb, fun _ => ⟨rfl, rfl, rfl, hrd, hK⟩⟩
theorem SoOk.few {w : World} {m : Md} {task most : Int} {fs : List (List Int)} {s q tr st : Nat} {vO vS vT : Value} (h : SoOk w m task most fs s q tr st vO vS vT) (hE : soloE m task most fs = 0) : (soloR m task most fs).2.1.out.length ≤ 5000 ∧ (soloR m task most fs).2.2.length ≤ 30 ∧ (∀ q ∈ (soloR m task most fs).2.2, q.sent.length ≤ 5000) ∧ st ≤ 5000 := by
 obtain ⟨hv, t0, t1, m0, m1, hl, hw⟩ := soloE_zero hE
 obtain ⟨⟨_, _⟩, hb⟩ := known_of hv
 obtain ⟨K, _, hI⟩ := h.li
 have hst : (soloR m task most fs).1 ≤ most.toNat := go_le _ _ _
 have h1 := hI.out
 have h2 := hI.len
 refine ⟨by omega, by omega, fun q hq => ?_, by rw [h.steps]; omega⟩
 obtain ⟨i, hi⟩ := List.getElem?_of_mem hq
 have := (hI.lists i q hi).2.2.1
 omega
theorem RS.at {w : World} {v : Value} {x : List Lst} (h : RS w v (x.map (·.sent))) : ∃ a c, v = .slice a x.length c ∧ ∀ (i : Nat) q, x[i]? = some q → ∃ b off u, a = some ⟨b, off, none⟩ ∧ b < w.heap.size ∧ w.cell? ⟨b, off + i, none⟩ = some u ∧ RI w u q.sent := by
 obtain ⟨a, c, e, hr⟩ := h
 refine ⟨a, c, by simpa using e, fun i q hq => ?_⟩
 obtain ⟨b, off, u, e2, hc, hi⟩ := hr i q.sent (by rw [List.getElem?_map, hq]; rfl)
 exact ⟨b, off, u, e2, World.block_lt_of_cell? w _ hc, hc, hi⟩
end Go.Proofs.YtlbihbfgglnfnaaGreat.Vw
namespace Go.Proofs.YtlbihbfgglnfnaaGreat
namespace Ot
open Vf Vm
def mvF (m : Md) (f : Wk) : Wk := { f with pc := now (all (unit m f.u).code) f.pc }
def mvH (m : Md) (h : Th) : Th := { h with fs := h.fs.map (mvF m) }
def mv (m : Md) (t : Tk) : Tk := { t with ths := t.ths.map (mvH m) }
theorem mv_th (m : Md) (t : Tk) (i : Nat) : (mv m t).th i = mvH m (t.th i) := by
 unfold Tk.th mv
 simp only [List.getElem?_map]
 cases t.ths[i]? <;> rfl
theorem mv_top (m : Md) (t : Tk) : (mv m t).top = mvH m t.top := mv_th m t _
theorem mv_set (m : Md) (t : Tk) (i : Nat) (h : Th) : (mv m t).set i (mvH m h) = mv m (t.set i h) := by
 simp [mv, Tk.set, List.map_set]
theorem mv_hand (m : Md) (t : Tk) : (mv m t).hand = t.hand := rfl
theorem mv_note (m : Md) (t : Tk) (e : Ev) : (mv m t).note e = mv m (t.note e) := rfl
theorem mv_fall (m : Md) (t : Tk) (n : Nat) : (mv m t).fall n = mv m (t.fall n) := rfl
theorem mv_ws (m : Md) (t : Tk) : (mv m t).top.ws = t.top.ws := by rw [mv_top]; rfl
theorem mv_words (m : Md) (t : Tk) (ws : List Int) : (mv m t).words ws = mv m (t.words ws) := by
 unfold Tk.words
 rw [mv_hand, mv_top, ← mv_set]
 rfl
theorem mv_put (m : Md) (t : Tk) (v : Int) : (mv m t).put v = mv m (t.put v) := by
 unfold Tk.put
 rw [mv_ws, mv_words, mv_fall]
 split <;> rfl
theorem mv_last (m : Md) (t : Tk) : (mv m t).last = t.last := by unfold Tk.last; rw [mv_ws]
theorem mv_cut (m : Md) (t : Tk) : (mv m t).cut = mv m t.cut := by unfold Tk.cut; rw [mv_ws, mv_words]
theorem mv_frame (m : Md) (t : Tk) : (mv m t).frame = mvF m t.frame := by
 unfold Tk.frame
 rw [mv_top]
 unfold mvH
 cases t.top.fs with
 | nil => simp [mvF, now_zero]
 | cons f r => rfl
theorem mv_goto (m : Md) (t : Tk) (n : Nat) : (mv m t).goto (now (all (unit m t.frame.u).code) n) = mv m (t.goto n) := by
 unfold Tk.goto
 rw [mv_hand, mv_top, mv_frame, ← mv_set]
 simp [mvH, mvF, List.map_tail]
theorem pass_locals (m : Md) (n : Int) : (unit (pass m) n).locals = (unit m n).locals ∧ (unit (pass m) n).params = (unit m n).params := by rw [pass_unit]; exact ⟨rfl, rfl⟩
theorem mv_call (m : Md) (t : Tk) (n : Nat) : (mv m t).call (pass m) n = mv m (t.call m n) := by
 obtain ⟨e1, e2⟩ := pass_locals m n
 have el : (mvH m t.top).fs.length = t.top.fs.length := by simp [mvH]
 unfold Tk.call
 rw [e1, e2, mv_ws, mv_words, mv_fall, mv_fall, mv_hand, mv_top, el]
 split
 ·rfl
 ·split
  ·rw [← mv_set]
   simp [mvH, mvF, now_zero]
  ·rfl
theorem mv_leave (m : Md) (t : Tk) : (mv m t).leave = mv m t.leave := by
 unfold Tk.leave
 rw [mv_hand, mv_top, mv_frame, ← mv_set]
 simp [mvH, mvF, List.map_tail]
theorem mv_ret (m : Md) (t : Tk) : (mv m t).ret = mv m t.ret := by unfold Tk.ret; rw [mv_cut, mv_leave, mv_last, mv_put]
theorem mv_less (m : Md) (t : Tk) (n : Nat) : (mv m t).less n = mv m (t.less n) := by unfold Tk.less; rw [mv_ws, mv_words]
theorem mv_new (m : Md) (u : Un) (n : Nat) (ps : List Int) : mvH m (newTh u n ps) = newTh u n ps := by simp [mvH, newTh, mvF, now_zero]
theorem new_pass (u v : Un) (h : v.locals = u.locals ∧ v.params = u.params) (n : Nat) (ps : List Int) : newTh v n ps = newTh u n ps := by unfold newTh; rw [h.1, h.2]
theorem mv_add (m : Md) (t : Tk) (h : Th) : ({ mv m t with ths := (mv m t).ths ++ [mvH m h] } : Tk) = mv m { t with ths := t.ths ++ [h] } := by simp [mv]
theorem mv_start (m : Md) (t : Tk) (n : Nat) : (mv m t).start (pass m) n = mv m (t.start m n) := by
 have e2 := (pass_locals m n).2
 have el : (mv m t).ths.length = t.ths.length := by simp [mv]
 unfold Tk.start
 simp only []
 rw [new_pass _ _ (pass_locals m n), e2, mv_less, mv_fall, el, mv_ws]
 rw [← mv_new m (unit m n) n (t.top.ws.drop (t.top.ws.length - (unit m n).params.toNat)), mv_add, mv_note, mv_put, mv_new]
 split <;> rfl
theorem mv_give (m : Md) (t : Tk) (s : Nat) (v : Int) : (mv m t).give s v = mv m (t.give s v) := by
 unfold Tk.give
 simp only []
 rw [← mv_put]
 congr 1
 rw [mv_hand, mv_top]
 have : (mv m t).set t.hand { mvH m t.top with stands := s } = mv m (t.set t.hand { t.top with stands := s }) := by rw [← mv_set]; rfl
 rw [this]
 rfl
theorem mv_fin (m : Md) (t : Tk) : (mv m t).fin = mv m t.fin := by
 unfold Tk.fin
 rw [mv_hand, mv_give]
 split <;> rfl
theorem mv_resume (m : Md) (t : Tk) : (mv m t).resume = mv m t.resume := by
 unfold Tk.resume
 simp only []
 rw [mv_last, mv_cut, mv_last, mv_cut, mv_th, mv_fall, mv_fall, mv_hand]
 have e : ∀ j, (mvH m (t.cut.cut.th j)).stands = (t.cut.cut.th j).stands := fun _ => rfl
 rw [e]
 have e2 : ∀ j k, ({ (mv m t.cut.cut).set j { mvH m (t.cut.cut.th j) with stands := 2, up := some k } with hand := j } : Tk) = mv m { t.cut.cut.set j { t.cut.cut.th j with stands := 2, up := some k } with hand := j } := fun j k => by
  have : (mv m t.cut.cut).set j { mvH m (t.cut.cut.th j) with stands := 2, up := some k } = mv m (t.cut.cut.set j { t.cut.cut.th j with stands := 2, up := some k }) := by rw [← mv_set]; rfl
  rw [this]
  rfl
 rw [e2, mv_put]
 split
 ·rfl
 ·split
  ·rfl
  ·split <;> rfl
theorem mv_alive (m : Md) (t : Tk) : (mv m t).alive = mv m t.alive := by unfold Tk.alive; rw [mv_cut, mv_last, mv_th, ← mv_put]; rfl
theorem mv_reckon (m : Md) (t : Tk) (op : Int) : (mv m t).reckon op = mv m (t.reckon op) := by
 unfold Tk.reckon
 rw [mv_last, mv_cut, mv_last, mv_cut, mv_fall, mv_put]
 split <;> rfl
theorem mv_act (m : Md) (c : Ins) (t : Tk) (rv : Int) (hj : jmp c = false) : (mv m t).act (pass m) c rv = mv m (t.act m c rv) := by
 have h21 : c.op ≠ 21 := fun h => by simp [jmp, h] at hj
 have h22 : c.op ≠ 22 := fun h => by simp [jmp, h] at hj
 have eb : (mvF m t.frame).base = t.frame.base := rfl
 unfold Tk.act
 rw [if_neg h21, if_neg h21, if_neg h22, if_neg h22, mv_ws, mv_frame, eb, mv_last]
 simp only [mv_put, mv_words, mv_cut, mv_note, mv_call, mv_ret, mv_start, mv_resume, mv_give, mv_fin, mv_alive, mv_reckon]
 have eo : ({ mv m t.cut with out := (mv m t).out ++ [t.last] } : Tk).note ⟨1, 0, t.last⟩ = mv m (({ t.cut with out := t.out ++ [t.last] } : Tk).note ⟨1, 0, t.last⟩) := rfl
 rw [eo]
 simp only [apply_ite (mv m)]
end Ot
end Go.Proofs.YtlbihbfgglnfnaaGreat
