/- For TraceWorld: a task's events, gone through. -/
import Derived.Test.YtomneemdbechgaaGreatM43
import Derived.ArgAppend
import Derived.Deep.RegionHeld3
namespace Go.Proofs.YtomneemdbechgaaGreat.Vw
open Go.RowKit Vf Vm

abbrev enO (s b t : Int) (vo : Value) : Obj := .cells #[.int .i64 s, .int .i64 b, .int .i64 t, vo] 50 (0, 0)
/-- What a task has put out with its first j events. -/
def outs (log : List Ev) (j : Nat) : List Int := ((log.take j).filter fun e => decide (e.kind = 1)).map (·.v)
theorem outs_succ {log : List Ev} {j : Nat} {e : Ev} (h : log[j]? = some e) : outs log (j + 1) = outs log j ++ if e.kind = 1 then [e.v] else [] := by
  unfold outs
  rw [List.take_add_one, h, List.filter_append, List.map_append]
  congr 1
  by_cases k : e.kind = 1
  · simp [k]
  · simp [k]
theorem outs_len (log : List Ev) (j : Nat) : (outs log j).length ≤ j := by
  unfold outs
  rw [List.length_map]
  refine Nat.le_trans (List.length_filter_le _ _) ?_
  simp
  omega
def ev0 : Ev := ⟨0, 0, 0⟩
/-- The last one of the first j events. -/
def lastE (log : List Ev) : Nat → Ev
  | 0 => ev0
  | j + 1 => (log[j]?).getD ev0
def lastN (o : Nat) : Nat → Int
  | 0 => 0
  | _ + 1 => o
/-- What holds at the head of the inner loop. -/
structure TwAt (Wb : World) (o : Nat) (log : List Ev) (vy : Value) (en : Obj) (Lb C : Nat) (j : Nat) (vo : Value) (wr : World) : Prop where
  le : j ≤ log.length
  below : Below Wb.heap.size Wb wr
  row : wr.ownsRow Wb.heap.size 2 1 vo (outs log j).length (ints (outs log j))
  last : wr.heap[Lb]? = some (evO (lastN o j) (lastE log j))
  ends : wr.heap[Wb.heap.size]? = some en
  evs : wr.ownsRow C 43 4 vy log.length (evCells (log.map fun e => (o, e)))
/-- How a task stands, by its last event. -/
theorem jn_last {t : Tk} (h : Jn t) (m : Md) (x : List Bq) : ((stat mbX m t x).1 = 4 ↔ (lastE t.log t.log.length).kind = 4) ∧ ((stat mbX m t x).1 = 5 ↔ (lastE t.log t.log.length).kind = 5) ∧ ((stat mbX m t x).1 = 5 → (lastE t.log t.log.length).v = t.trap) := by
  have last : ∀ (l : List Ev) (e : Ev), lastE (l ++ [e]) (l ++ [e]).length = e := fun l e => by
    rw [List.length_append]
    simp [lastE]
  rcases h.st with ⟨h0, hp⟩ | ⟨h0, l, e, hp⟩ | ⟨h0, l, e, hp⟩
  · have hs : (stat mbX m t x).1 = 1 ∨ (stat mbX m t x).1 = 2 ∨ (stat mbX m t x).1 = 3 := by
      unfold stat
      rw [if_neg (by omega)]
      split
      · exact .inr (.inl rfl)
      · split
        · exact .inr (.inr rfl)
        · exact .inl rfl
    have hk : (lastE t.log t.log.length).kind ≠ 4 ∧ (lastE t.log t.log.length).kind ≠ 5 := by
      cases hl : t.log.length with
      | zero => simp [lastE, ev0]
      | succ j =>
        obtain ⟨e, he⟩ : ∃ e, t.log[j]? = some e := ⟨_, List.getElem?_eq_getElem (by omega)⟩
        simp only [lastE, he, Option.getD_some]
        exact hp e (List.mem_of_getElem? he)
    omega
  · have hs : (stat mbX m t x).1 = 4 := by unfold stat; rw [if_pos (by omega)]; exact h0
    rw [e, last, hs]
    simp
  · have hs : (stat mbX m t x).1 = 5 := by unfold stat; rw [if_pos (by omega)]; exact h0
    rw [e, last, hs]
    simp
/-- Ahead of its last event a task is not at its end. -/
theorem jn_mid {t : Tk} (h : Jn t) {j : Nat} (hj : j < t.log.length) : (lastE t.log j).kind ≠ 4 ∧ (lastE t.log j).kind ≠ 5 := by
  cases j with
  | zero => simp [lastE, ev0]
  | succ j =>
    obtain ⟨e, he⟩ : ∃ e, t.log[j]? = some e := ⟨_, List.getElem?_eq_getElem (by omega)⟩
    simp only [lastE, he, Option.getD_some]
    rcases h.st with ⟨h0, hp⟩ | ⟨h0, l, el, hp⟩ | ⟨h0, l, el, hp⟩
    · exact hp e (List.mem_of_getElem? he)
    · rw [el] at he hj
      simp at hj
      rw [List.getElem?_append_left (by omega)] at he
      exact hp e (List.mem_of_getElem? he)
    · rw [el] at he hj
      simp at hj
      rw [List.getElem?_append_left (by omega)] at he
      exact hp e (List.mem_of_getElem? he)
theorem jn_outs {t : Tk} (h : Jn t) : outs t.log t.log.length = t.out := by
  unfold outs
  rw [List.take_length]
  exact h.out.symm
theorem ev_four {w : World} {b : Nat} {o : Int} {e : Ev} (h : w.heap[b]? = some (evO o e)) : w.cell? ⟨b, 0, none⟩ = some (.int .i64 o) ∧ w.cell? ⟨b, 1, none⟩ = some (.int .i64 e.kind) ∧ w.cell? ⟨b, 2, none⟩ = some (.int .i64 e.box) ∧ w.cell? ⟨b, 3, none⟩ = some (.int .i64 e.v) ∧ ∀ j, w.frozen? ⟨b, j, none⟩ = false := by simp [World.cell?, World.frozen?, h]
theorem en_four {w : World} {b : Nat} {s q t : Int} {vo : Value} (h : w.heap[b]? = some (enO s q t vo)) : w.cell? ⟨b, 0, none⟩ = some (.int .i64 s) ∧ w.cell? ⟨b, 1, none⟩ = some (.int .i64 q) ∧ w.cell? ⟨b, 2, none⟩ = some (.int .i64 t) ∧ w.cell? ⟨b, 3, none⟩ = some vo := by simp [World.cell?, h]
abbrev fillE (w : World) (b : Nat) (o : Int) (e : Ev) : World := (((w.setCell ⟨b, 0, none⟩ (.int .i64 o)).setCell ⟨b, 1, none⟩ (.int .i64 e.kind)).setCell ⟨b, 2, none⟩ (.int .i64 e.box)).setCell ⟨b, 3, none⟩ (.int .i64 e.v)
theorem fillE_at {w : World} {b : Nat} {o o' : Int} {e e' : Ev} (h : w.heap[b]? = some (evO o' e')) : (fillE w b o e).heap[b]? = some (evO o e) := by
  simp only [World.setCell, Array.getElem?_modify, if_true, h, Option.map_some]
  rfl
theorem fillE_ne {w : World} {b b' : Nat} {o : Int} {e : Ev} (hn : b' ≠ b) : (fillE w b o e).heap[b']? = w.heap[b']? := by
  rw [Below.heap_setCell _ ⟨b, 3, none⟩ _ _ hn, Below.heap_setCell _ ⟨b, 2, none⟩ _ _ hn, Below.heap_setCell _ ⟨b, 1, none⟩ _ _ hn, Below.heap_setCell _ ⟨b, 0, none⟩ _ _ hn]
theorem fillE_below {w0 w : World} {B b : Nat} {o : Int} {e : Ev} (h : Below B w0 w) (hB : B ≤ b) : Below B w0 (fillE w b o e) :=
  (((h.setCell (p := ⟨b, 0, none⟩) hB _).setCell (p := ⟨b, 1, none⟩) hB _).setCell (p := ⟨b, 2, none⟩) hB _).setCell (p := ⟨b, 3, none⟩) hB _
/-- An event more. -/
theorem TwAt.more {Wb : World} {o : Nat} {log : List Ev} {vy : Value} {en : Obj} {Lb C j : Nat} {vo : Value} {wr : World} (h : TwAt Wb o log vy en Lb C j vo wr) (hC : Wb.heap.size < Lb ∧ Lb < C) (e : Ev) (ob : Obj) :
    (fillE (wr.alloc ob) Lb o e).heap[Lb]? = some (evO o e) ∧ (fillE (wr.alloc ob) Lb o e).heap[Wb.heap.size]? = some en ∧ Below Wb.heap.size Wb (fillE (wr.alloc ob) Lb o e) ∧ (fillE (wr.alloc ob) Lb o e).ownsRow Wb.heap.size 2 1 vo (outs log j).length (ints (outs log j)) ∧ (fillE (wr.alloc ob) Lb o e).ownsRow C 43 4 vy log.length (evCells (log.map fun e => (o, e))) ∧ (fillE (wr.alloc ob) Lb o e).heap[wr.heap.size]? = some ob ∧ wr.heap.size < (fillE (wr.alloc ob) Lb o e).heap.size := by
  have hz := lt_of_block h.last
  have hz0 := lt_of_block h.ends
  have al : ∀ b, b < wr.heap.size → (wr.alloc ob).heap[b]? = wr.heap[b]? := fun b hb => Below.heap_alloc _ _ _ hb
  refine ⟨fillE_at ((al _ hz).trans h.last), (fillE_ne (by omega)).trans ((al _ hz0).trans h.ends), fillE_below (h.below.alloc h.below.size _) (by omega), own_keep h.row (fun b hb => ?_), own_keep h.evs (fun b hb => ?_), (fillE_ne (by omega)).trans (heap_alloc_new _ _), by simp [World.setCell]⟩
  · refine (fillE_ne (fun e2 => ?_)).trans (al b (h.row.lt b hb).2)
    exact ty_ne h.row h.last (by decide) (by rw [hb, e2])
  · exact (fillE_ne (by have := (h.evs.lt b hb).1; omega)).trans (al b (h.evs.lt b hb).2)
/-- What is put out grows. -/
theorem TwAt.put {Wb : World} {o : Nat} {log : List Ev} {vy : Value} {en : Obj} {Lb C j : Nat} {vo : Value} {W8 w9 : World} {e : Ev} {g cap : Nat} {ob : Obj} (he : log[j]? = some e) (hk : e.kind = 1) (h0 : W8.heap[Lb]? = some (evO o e)) (h1 : W8.heap[Wb.heap.size]? = some en) (hen : ∀ cur, en ≠ .cells cur 2 (0, 0)) (h2 : Below Wb.heap.size Wb W8) (h3 : W8.ownsRow Wb.heap.size 2 1 vo (outs log j).length (ints (outs log j))) (h4 : W8.ownsRow C 43 4 vy log.length (evCells (log.map fun e => (o, e))))
    (hown : w9.ownsRow Wb.heap.size 2 1 (.slice (some ⟨g, 0, none⟩) ((outs log j).length + 1) cap) ((outs log j).length + 1) (ints (outs log j) ++ [.int .i64 e.v])) (hg : (W8.alloc ob).grownBy w9 vo.ownBlock) : TwAt Wb o log vy en Lb C (j + 1) (.slice (some ⟨g, 0, none⟩) ((outs log j).length + 1) cap) w9 := by
  have hj := (List.getElem?_eq_some_iff.1 he).1
  have st : ∀ (b : Nat) (ob' : Obj), W8.heap[b]? = some ob' → (∀ cur, ob' ≠ .cells cur 2 (0, 0)) → w9.heap[b]? = some ob' := fun b ob' hb hne => by
    have hz := lt_of_block hb
    refine ((hg.block b (by simp; omega) (fun e2 => ?_)).trans (Below.heap_alloc _ _ _ hz)).trans hb
    obtain ⟨cur, hc⟩ := own_ty h3 e2.symm
    rw [hb] at hc
    exact hne cur (Option.some.inj hc)
  have hos : outs log (j + 1) = outs log j ++ [e.v] := by rw [outs_succ he, if_pos hk]
  refine ⟨hj, (h2.alloc h2.size _).grown hg (by have := h2.size; simp; omega) (fun b hb => (h3.lt b hb).1), ?_, ?_, st _ _ h1 hen, own_keep h4 (fun b hb => ?_)⟩
  · rw [hos, List.length_append, show ints (outs log j ++ [e.v]) = ints (outs log j) ++ [.int .i64 e.v] by simp [ints]]
    exact hown
  · simp only [lastN, lastE, he, Option.getD_some]
    exact st _ _ h0 (fun cur => by simp)
  · obtain ⟨cur, hc⟩ := own_ty h4 hb
    rw [hc]
    exact st _ _ hc (fun cur => by simp)
theorem TwAt.skip {Wb : World} {o : Nat} {log : List Ev} {vy : Value} {en : Obj} {Lb C j : Nat} {vo : Value} {W8 : World} {e : Ev} (he : log[j]? = some e) (hk : e.kind ≠ 1) (h0 : W8.heap[Lb]? = some (evO o e)) (h1 : W8.heap[Wb.heap.size]? = some en) (h2 : Below Wb.heap.size Wb W8) (h3 : W8.ownsRow Wb.heap.size 2 1 vo (outs log j).length (ints (outs log j))) (h4 : W8.ownsRow C 43 4 vy log.length (evCells (log.map fun e => (o, e)))) : TwAt Wb o log vy en Lb C (j + 1) vo W8 := by
  have hos : outs log (j + 1) = outs log j := by rw [outs_succ he, if_neg hk, List.append_nil]
  refine ⟨(List.getElem?_eq_some_iff.1 he).1, h2, by rw [hos]; exact h3, ?_, h1, h4⟩
  simp only [lastN, lastE, he, Option.getD_some]
  exact h0
end Go.Proofs.YtomneemdbechgaaGreat.Vw

/- The walk of TraceWorld: ALL THAT IS SEEN WAS DONE. -/
namespace Go.Proofs.YtomneemdbechgaaGreat.Vw
open Go.RowKit Vf Vm

/-- What Run answers, in one form. -/
theorem ran_read {m : Md} {E : Int} {R : Wd} {n : Nat} {D : List Dd} {w2 : World} {e : Ending} (hr : (E ≠ 0 ∧ e = .returned (.tuple #[.agg #[.slice none 0 0, .slice none 0 0, .int .i64 0], .slice none 0 0, .int .i64 E])) ∨ (E = 0 ∧ ∃ vE vB vd ov bv, e = .returned (.tuple #[.agg #[vE, vB, .int .i64 R.steps], vd, .int .i64 0]) ∧ EnIn m R 0 w2 vE vB R.ts.length m.boxes.length ov bv ∧ w2.ownsRow 0 61 2 vd n (ddCells D) ∧ ∃ K, Known m K ∧ WI m K R)) :
    ∃ ea na ec ba nb bc da dn dc, ∃ st : Nat, e = .returned (.tuple #[.agg #[.slice ea na ec, .slice ba nb bc, .int .i64 st], .slice da dn dc, .int .i64 E]) ∧ (E = 0 → WRd w2 m R.ts R.x (.slice ea na ec) (.slice ba nb bc) ∧ ∃ K, Known m K ∧ WI m K R) := by
  rcases hr with ⟨h0, rfl⟩ | ⟨rfl, vE, vB, vd, ov, bv, rfl, hEN, hD, K, hK, hWI⟩
  · exact ⟨none, 0, 0, none, 0, 0, none, 0, 0, 0, rfl, fun e => absurd e h0⟩
  · obtain ⟨ea, ec, rfl⟩ := own_slice hEN.ends
    obtain ⟨ba, bc, rfl⟩ := own_slice hEN.bxs
    obtain ⟨da, dc, rfl⟩ := own_slice hD
    have hxl : R.x.length = m.boxes.length := by
      obtain ⟨t0, ht0⟩ : ∃ t, R.ts[0]? = some t := ⟨_, List.getElem?_eq_getElem hWI.few.1⟩
      exact (hWI.tasks 0 t0 ht0).len
    exact ⟨_, _, _, _, _, _, _, _, _, _, rfl, fun _ => ⟨hEN.reads hxl, K, hK, hWI⟩⟩


set_option maxRecDepth 100000 in
set_option maxHeartbeats 4000000 in
theorem tworld_any (m : Md) (ab au : Option Addr) (cb cu : Nat) (ps : List Pk) (a : Option Addr) (cap : Nat) (w : World) (hmd : ModIn w.heap.size w m ab au) (hps : PkIn w.heap.size w ps a) :
    Calls Tryz.prog 5 #[mdV m ab au cb cu, .slice a ps.length cap] w fun e w' => e = .returned (.bool true) ∧ Below w.heap.size w w' := by
  obtain ⟨i0, hi, hz0, hz1, hz2⟩ := info_parts Sb.Tryz.info2
  have HMD := Sb.hide hmd
  have HPS := Sb.hide hps
  obtain ⟨E, hE⟩ : ∃ E, E = wrongE m ps.length := ⟨_, rfl⟩
  have HE := Sb.hide hE
  have HB0 : Hid (Below w.heap.size w (w.alloc (mdB m ab au cb cu))) := (Below.refl _ w).alloc (Nat.le_refl _) _
  have HM0 : Hid ((w.alloc (mdB m ab au cb cu)).heap[w.heap.size]? = some (mdB m ab au cb cu)) := heap_alloc_new w _
  clear hmd hps hE
  go_enter Tryz.func5, Tryz.ntmps5
  go_wp2_with fail
  generalize w.alloc (mdB m ab au cb cu) = W0 at *
  refine (alive_any _).mono ?_
  rintro e w1 ⟨rfl, hb1⟩
  have HB1 := Sb.hide (HB0.out.trans (hb1.mono HB0.out.size))
  have HM1 := Sb.hide ((hb1.block _ (lt_of_block HM0.out)).trans HM0.out)
  have c1 := md_cells HM1.out
  clear hb1
  go_wp2_with fail
  refine (Trace_any m ab au cb cu w.heap.size ps a cap _ (Sb.hide (HMD.out.low HB1.out.block)) (Sb.hide (HPS.out.low HB1.out.block)) HB1.out.size E HE).mono ?_
  rintro e w2 ⟨hb2, hr1⟩
  have HB2 := Sb.hide (HB1.out.trans (hb2.mono HB1.out.size))
  have HM2 := Sb.hide ((hb2.block _ (lt_of_block HM1.out)).trans HM1.out)
  have c2 := md_cells HM2.out
  obtain ⟨ea, en, ec, rfl, hA⟩ := traced hr1
  have HA := Sb.hide hA
  clear hb2 c1 hr1 hA
  go_wp2_with fail
  refine (Run_any m ab au cb cu w.heap.size ps a cap _ (Sb.hide (HMD.out.low HB2.out.block)) (Sb.hide (HPS.out.low HB2.out.block)) HB2.out.size E HE).mono ?_
  rintro e w3 ⟨hb3, hr2⟩
  have HB3 := Sb.hide (HB2.out.trans (hb3.mono HB2.out.size))
  have HA3 : Hid (E = 0 → RE w3 (.slice ea en ec) (runW m ps).evs) := fun h => (HA.out h).1.below hb3
  obtain ⟨fa, fn, fc, ga, gn, gc, da, dn, dc, st, rfl, hA2⟩ := ran_read hr2
  have HA2 := Sb.hide hA2
  have HB4 : Hid (Below w3.heap.size w3 (w3.alloc (woO (.slice fa fn fc) (.slice ga gn gc) st))) := (Below.refl _ w3).alloc (Nat.le_refl _) _
  have HO4 : Hid ((w3.alloc (woO (.slice fa fn fc) (.slice ga gn gc) st)).heap[w3.heap.size]? = some (woO (.slice fa fn fc) (.slice ga gn gc) st)) := heap_alloc_new w3 _
  clear hb3 c2 hr2 hA2
  by_cases h1 : E = 0
  · have e1 : (E != 0) = false := by simpa using h1
    obtain ⟨hW, K, _, hWI⟩ := HA2.out h1
    have hx := (HA3.out h1).below HB4.out
    have lx := (HA.out h1).2
    obtain ⟨a1, c1, ee, r1⟩ := (hW.below HB4.out).ends
    simp only [Value.slice.injEq] at ee
    obtain ⟨rfl, rfl, rfl⟩ := ee
    obtain ⟨R, hR⟩ : ∃ R, R = runW m ps := ⟨_, rfl⟩
    have hJ := jn_run m ps
    have hEI := (ei_run m ps).log
    rw [← hR] at hx lx r1 hJ hEI hWI HO4 HB4 ⊢
    have hst := hWI.steps
    have hfew := hWI.few.2
    have hout : ∀ (o : Nat) t, R.ts[o]? = some t → t.out.length ≤ 20000 ∧ t.log.length ≤ 40000 := fun o t ht => by
      have h1 := (hWI.tasks o t ht).out
      have h2 := (hWI.tasks o t ht).log
      omega
    obtain ⟨M, hM⟩ : ∃ M, M = R.ts.length := ⟨_, rfl⟩
    rw [← hM] at hfew HO4 HB4 hx r1 ⊢
    have HMM := Sb.hide hM
    have HX := Sb.hide hx
    have HR1 := Sb.hide r1
    have HJ := Sb.hide hJ
    have HEI := Sb.hide hEI
    have HOUT := Sb.hide hout
    have z1 := (wo_cells HO4.out).1.1
    have hz4 := lt_of_block HO4.out
    have HB5 := Sb.hide (HB3.out.trans (HB4.out.mono HB3.out.size))
    clear hW hWI hx r1 hJ hEI hout hM hR h1 hst
    go_wp2_with fail
    generalize w3.alloc (woO (.slice fa M fc) (.slice ga gn gc) st) = W4 at *
    have Z1 := Sb.hide z1
    go_loopw [43] (fun v wr => ∃ k : Nat, v = .int .i64 k ∧ k ≤ M ∧ Below W4.heap.size W4 wr) (fun v _ => M - (intOf v).toNat)
    case atStart => exact ⟨0, rfl, Nat.zero_le _, .refl _ _⟩
    case round =>
      obtain ⟨k, rfl, hkM, hbr⟩ := hrel
      have HBR := Sb.hide hbr
      obtain ⟨Wb, rfl⟩ : ∃ x, x = wr := ⟨_, rfl⟩
      clear hbr z1
      by_cases hlt : k < M
      · obtain ⟨t, ht⟩ : ∃ t, R.ts[k]? = some t := ⟨_, List.getElem?_eq_getElem (by have := HMM.out; omega)⟩
        obtain ⟨b1, o1, u1, rfl, x0, x1, x2, x3, g1⟩ := HR1.out k t ht
        have hzb := World.block_lt_of_cell? W4 _ x0
        have kk := cell_eq (HBR.out.block b1 hzb)
        obtain ⟨ua, uc, hua, _⟩ := id g1
        subst hua
        obtain ⟨no, hno⟩ : ∃ n, n = t.out.length := ⟨_, rfl⟩
        rw [← hno] at x3 g1
        obtain ⟨u1, hu1⟩ : ∃ u, u = Value.slice ua no uc := ⟨_, rfl⟩
        have y0 := (kk (o1 + k * 4)).trans x0
        have y1 := (kk (o1 + k * 4 + 1)).trans x1
        have y2 := (kk (o1 + k * 4 + 2)).trans x2
        have y3 := (kk (o1 + k * 4 + 3)).trans x3
        rw [← hu1] at y3 g1
        have j := HJ.out k t ht
        have hlog := HEI.out k t ht
        obtain ⟨ho1, ho2⟩ := HOUT.out k t ht
        obtain ⟨s4, s5, s6⟩ := jn_last j m R.x
        obtain ⟨sv, hsv⟩ : ∃ s : Int, s = ((stat mbX m t R.x).1 : Int) := ⟨_, rfl⟩
        obtain ⟨sb, hsb⟩ : ∃ s : Int, s = ((stat mbX m t R.x).2 : Int) := ⟨_, rfl⟩
        obtain ⟨tr, htr⟩ : ∃ s : Int, s = (t.trap : Int) := ⟨_, rfl⟩
        rw [← hsv] at y0
        rw [← hsb] at y1
        rw [← htr] at y2
        have HS : Hid ((sv = 4 ↔ (lastE t.log t.log.length).kind = 4) ∧ (sv = 5 ↔ (lastE t.log t.log.length).kind = 5) ∧ (sv = 5 → (lastE t.log t.log.length).v = tr)) := by
          unfold Hid
          rw [hsv, htr]
          exact ⟨by rw [← s4]; omega, by rw [← s5]; omega, fun h => s6 (by omega)⟩
        have J := Sb.hide j
        have HLOG := Sb.hide hlog
        have HRI := Sb.hide (g1.below HBR.out)
        have i0' : (0 : Int) ≤ (k : Int) := by omega
        have i1 : (k : Int) < (M : Int) := by omega
        have HEN : Hid (((Wb.alloc (enO sv sb tr u1)).alloc (.cells #[.int .i64 0, .int .i64 0, .int .i64 0, .int .i64 0] 43)).heap[Wb.heap.size]? = some (enO sv sb tr u1)) := (Below.heap_alloc _ _ _ (by simp)).trans (heap_alloc_new Wb _)
        have HLB : Hid (((Wb.alloc (enO sv sb tr u1)).alloc (.cells #[.int .i64 0, .int .i64 0, .int .i64 0, .int .i64 0] 43)).heap[Wb.heap.size + 1]? = some (evO 0 ev0)) := by
          have e : (Wb.alloc (enO sv sb tr u1)).heap.size = Wb.heap.size + 1 := by simp
          rw [← e]
          exact heap_alloc_new _ _
        have HBA : Hid (Below Wb.heap.size Wb ((Wb.alloc (enO sv sb tr u1)).alloc (.cells #[.int .i64 0, .int .i64 0, .int .i64 0, .int .i64 0] 43))) := ((Below.refl _ Wb).alloc (Nat.le_refl _) _).alloc (by simp) _
        subst hu1
        clear ht x0 x1 x2 x3 g1 kk j hlog hno s4 s5 s6 hsv hsb htr
        go_wp2_with fail
        generalize (Wb.alloc (enO sv sb tr (.slice ua no uc))).alloc (.cells #[.int .i64 0, .int .i64 0, .int .i64 0, .int .i64 0] 43) = W5 at *
        have HB5' : Hid (Below W4.heap.size W4 W5) := HBR.out.trans (HBA.out.mono HBR.out.size)
        have hL5 := lt_of_block HLB.out
        refine (of_any _ R.evs k _ (Sb.hide (HX.out.below HB5'.out)) (by omega)).mono ?_
        rintro e w6 ⟨vy, rfl, hoy, hb6⟩
        rw [HLOG.out, List.length_map] at hoy
        obtain ⟨ya, yc, rfl⟩ := own_slice hoy
        obtain ⟨lg, hlg⟩ : ∃ l, l = t.log := ⟨_, rfl⟩
        have HLG := Sb.hide hlg
        have hbz := HBA.out.size
        have HST : Hid (TwAt Wb k lg (.slice ya lg.length yc) (enO sv sb tr (.slice ua no uc)) (Wb.heap.size + 1) W5.heap.size 0 (.slice none 0 0) w6) := by
          rw [hlg]
          exact ⟨Nat.zero_le _, HBA.out.trans (hb6.mono hbz), ⟨rfl, .inl ⟨rfl, rfl⟩⟩, (hb6.block _ hL5).trans HLB.out, (hb6.block _ (by omega)).trans HEN.out, hoy⟩
        have HC : Hid (Wb.heap.size < Wb.heap.size + 1 ∧ Wb.heap.size + 1 < W5.heap.size) := ⟨by omega, hL5⟩
        rw [← hlg] at ho2 ⊢
        obtain ⟨n, hn⟩ : ∃ n, n = lg.length := ⟨_, rfl⟩
        have HN := Sb.hide hn
        rw [← hn] at ho2 HST ⊢
        clear hoy hb6 hlg hn
        go_wp2_with fail
        go_loopw [12, 53] (fun vo v wr => ∃ j : Nat, v = .int .i64 j ∧ TwAt Wb k lg (.slice ya n yc) (enO sv sb tr (.slice ua no uc)) (Wb.heap.size + 1) W5.heap.size j vo wr) (fun _ v _ => n - (intOf v).toNat)
        case atStart => exact ⟨0, rfl, HST.out⟩
        case round =>
          obtain ⟨j, rfl, hT⟩ := hrel
          have HT := Sb.hide hT
          have hj := hT.le
          have hzr := hT.below.size
          rw [← HN.out] at hj
          clear hT HST
          by_cases hjn : j < n
          · obtain ⟨e, he⟩ : ∃ e, lg[j]? = some e := ⟨_, List.getElem?_eq_getElem (by rw [← HN.out]; exact hjn)⟩
            have hm : (lg.map fun e => (k, e))[j]? = some (k, e) := by rw [List.getElem?_map, he]; rfl
            have hrow := HT.out.evs
            rw [← HN.out] at hrow
            have cc : ∀ i u, i < 4 → (evc (k, e))[i]? = some u → ∃ g, ya = some ⟨g, 0, none⟩ ∧ wr.cell? ⟨g, j * 4 + i, none⟩ = some u := fun i u hi hu => own_cellN hrow (by rw [evCells_at _ j _ hm i hi]; exact hu)
            obtain ⟨g, rfl, q0⟩ := cc 0 _ (by omega) rfl
            obtain ⟨g1, eg1, q1⟩ := cc 1 _ (by omega) rfl
            cases eg1
            obtain ⟨g2, eg2, q2⟩ := cc 2 _ (by omega) rfl
            cases eg2
            obtain ⟨g3, eg3, q3⟩ := cc 3 _ (by omega) rfl
            cases eg3
            replace q0 : wr.cell? ⟨g, j * 4, none⟩ = some (.int .i64 (k : Int)) := q0
            replace q1 : wr.cell? ⟨g, j * 4 + 1, none⟩ = some (.int .i64 e.kind) := q1
            replace q2 : wr.cell? ⟨g, j * 4 + 2, none⟩ = some (.int .i64 e.box) := q2
            replace q3 : wr.cell? ⟨g, j * 4 + 3, none⟩ = some (.int .i64 e.v) := q3
            obtain ⟨k4, k5⟩ := jn_mid J.out (j := j) (by rw [← HLG.out, ← HN.out]; exact hjn)
            rw [← HLG.out] at k4 k5
            obtain ⟨lk, hlk⟩ : ∃ x, x = (lastE lg j).kind := ⟨_, rfl⟩
            have hlast := HT.out.last
            have hLz := lt_of_block hlast
            have HB7 : Hid (Below wr.heap.size wr (wr.alloc (evO (k : Int) e))) := (Below.refl _ wr).alloc (Nat.le_refl _) _
            obtain ⟨p0, p1, p2, p3, pf⟩ := ev_four ((HB7.out.block _ hLz).trans hlast)
            obtain ⟨r0, r1, r2, r3, _⟩ := ev_four (heap_alloc_new wr (evO (k : Int) e))
            rw [← hlk] at p1 k4 k5
            have f4 : (lk == 4) = false := by simpa using k4
            have f5 : (lk == 5) = false := by simpa using k5
            obtain ⟨w0, w1', w2', w3', w4', w5', w6'⟩ := HT.out.more HC.out e (evO (k : Int) e)
            have HW0 := Sb.hide w0
            have HW1 := Sb.hide w1'
            have HW2 := Sb.hide w2'
            have HW3 := Sb.hide w3'
            have HW4 := Sb.hide w4'
            have HW5 := Sb.hide w5'
            have HOS := Sb.hide (outs_succ he)
            have HEE := Sb.hide he
            have i2 : (0 : Int) ≤ (j : Int) := by omega
            have i3 : (j : Int) < (n : Int) := by omega
            have hol := outs_len lg j
            clear he hm hrow cc k4 k5 hlast w0 w1' w2' w3' w4' w5' hlk
            go_upto_region 15 with fail
            generalize wr.alloc (evO (k : Int) e) = W7 at *
            unfold fillE at HW0 HW1 HW2 HW3 HW4 HW5
            go_upto_region 18 with fail
            generalize (((W7.setCell ⟨Wb.heap.size + 1, 0, none⟩ (.int .i64 (k : Int))).setCell ⟨Wb.heap.size + 1, 1, none⟩ (.int .i64 e.kind)).setCell ⟨Wb.heap.size + 1, 2, none⟩ (.int .i64 e.box)).setCell ⟨Wb.heap.size + 1, 3, none⟩ (.int .i64 e.v) = W8 at *
            obtain ⟨s0, s1, s2, s3, _⟩ := ev_four HW5.out
            have hz8 := HW2.out.size
            clear p0 p1 p2 p3 pf r0 r1 r2 r3
            by_cases hk1 : e.kind = 1
            · have f1 : (e.kind == 1) = true := by simpa using hk1
              have HK1 := Sb.hide hk1
              have HRW : Hid ((W8.alloc (.cells #[.int .i64 e.v] 2)).ownsRow Wb.heap.size 2 1 u12 (outs lg j).length (ints (outs lg j))) := World.ownsRow.alloc HW3.out _
              clear hk1
              go_wp2_with (at_builtin; refine wpList_append_where rfl (.tmp 69) (.tmp 72) 44 rfl Wb.heap.size 2 i0 _ 1 8 Tryz.underlying44 hi hz0 hz1 hz2 rfl (by decide) u12 (outs lg j).length (ints (outs lg j)) rfl HRW.out ⟨W8.heap.size, 0, none⟩ 1 1 [.int .i64 e.v] rfl rfl (news1 W8 _ _) (ones1 rfl) (by decide) (by unfold maxLen; omega) (by omega) (by simp; omega) ?_)
              intro g9 cap9 w9 hown9 hg9 _
              have HREL := Sb.hide (TwAt.put HEE.out HK1.out HW0.out HW1.out (fun cur => by simp) HW2.out HW3.out HW4.out hown9 hg9)
              clear hown9 hg9
              go_wp2
              go_roundw
              case rel => exact ⟨j + 1, by go_num, HREL.out⟩
              case measure => simp [intOf]; omega
            · have f1 : (e.kind == 1) = false := by simpa using hk1
              have HREL := Sb.hide (TwAt.skip HEE.out hk1 HW0.out HW1.out HW2.out HW3.out HW4.out)
              clear hk1
              go_wp2
              go_roundw
              case rel => exact ⟨j + 1, by go_num, HREL.out⟩
              case measure => simp [intOf]; omega
          · have ej : j = lg.length := by have := HN.out; omega
            have hrow := HT.out.row
            have hlast := HT.out.last
            rw [ej] at hrow hlast
            rw [HLG.out, jn_outs J.out] at hrow
            obtain ⟨p0, p1, p2, p3, _⟩ := ev_four hlast
            obtain ⟨q0, q1, q2, q3⟩ := en_four HT.out.ends
            rw [HLG.out] at p1 p3
            obtain ⟨sv4, sv5, sv6⟩ := HS.out
            obtain ⟨lk, hlk⟩ : ∃ x, x = (lastE t.log t.log.length).kind := ⟨_, rfl⟩
            obtain ⟨lv, hlv⟩ : ∃ x, x = (lastE t.log t.log.length).v := ⟨_, rfl⟩
            rw [← hlk] at p1 sv4 sv5
            rw [← hlv] at p3 sv6
            have HRO := Sb.hide (own_reads hrow)
            have HRT := Sb.hide (HRI.out.below HT.out.below)
            have HB8 := Sb.hide ((HB5.out.trans (HBR.out.mono HB5.out.size)).trans (HT.out.below.mono (Nat.le_trans HB5.out.size HBR.out.size)))
            have n1 : ¬ (j : Int) < (n : Int) := by omega
            obtain ⟨xa, xc, hu12⟩ := own_slice hrow
            subst hu12
            have HB9 : Hid (Below W4.heap.size W4 wr) := HBR.out.trans (HT.out.below.mono HBR.out.size)
            clear hrow hlast ej
            by_cases h4 : sv = 4
            · have b4 : (sv == 4) = true := by simpa using h4
              have d4 : (lk == 4) = true := by simpa using sv4.1 h4
              have b5 : (sv == 5) = false := by simp; omega
              have d5 : (lk == 5) = false := by have := sv4.1 h4; simp; omega
              clear sv4 sv5 sv6 h4 hlk hlv
              go_wp2_with fail
              refine (same_any _ _ t.out _ HRO HRT (by omega)).mono ?_
              rintro e w9 ⟨rfl, d9, rfl⟩
              replace p1 : (wr.drewN d9).cell? ⟨Wb.heap.size + 1, 1, none⟩ = some (.int .i64 lk) := p1
              replace p3 : (wr.drewN d9).cell? ⟨Wb.heap.size + 1, 3, none⟩ = some (.int .i64 lv) := p3
              replace q0 : (wr.drewN d9).cell? ⟨Wb.heap.size, 0, none⟩ = some (.int .i64 sv) := q0
              replace q2 : (wr.drewN d9).cell? ⟨Wb.heap.size, 2, none⟩ = some (.int .i64 tr) := q2
              go_wp2
              go_roundw
              case rel => exact ⟨k + 1, by go_num, by omega, below_drewN HB9.out _⟩
              case measure => simp [intOf]; omega
            · by_cases h5 : sv = 5
              · have b4 : (sv == 4) = false := by simpa using h4
                have d4 : (lk == 4) = false := by have := sv5.1 h5; simp; omega
                have b5 : (sv == 5) = true := by simpa using h5
                have d5 : (lk == 5) = true := by simpa using sv5.1 h5
                have d6 : (lv != tr) = false := by simpa using sv6 h5
                clear sv4 sv5 sv6 h4 h5 hlk hlv
                go_wp2_with fail
                refine (same_any _ _ t.out _ HRO HRT (by omega)).mono ?_
                rintro e w9 ⟨rfl, d9, rfl⟩
                replace p1 : (wr.drewN d9).cell? ⟨Wb.heap.size + 1, 1, none⟩ = some (.int .i64 lk) := p1
                replace p3 : (wr.drewN d9).cell? ⟨Wb.heap.size + 1, 3, none⟩ = some (.int .i64 lv) := p3
                replace q0 : (wr.drewN d9).cell? ⟨Wb.heap.size, 0, none⟩ = some (.int .i64 sv) := q0
                replace q2 : (wr.drewN d9).cell? ⟨Wb.heap.size, 2, none⟩ = some (.int .i64 tr) := q2
                go_wp2
                go_roundw
                case rel => exact ⟨k + 1, by go_num, by omega, below_drewN HB9.out _⟩
                case measure => simp [intOf]; omega
              · have b4 : (sv == 4) = false := by simpa using h4
                have d4 : (lk == 4) = false := by have : lk ≠ 4 := fun e => h4 (sv4.2 e); simpa using this
                have b5 : (sv == 5) = false := by simpa using h5
                have d5 : (lk == 5) = false := by have : lk ≠ 5 := fun e => h5 (sv5.2 e); simpa using this
                clear sv4 sv5 sv6 h4 h5 hlk hlv
                go_wp2_with fail
                refine (same_any _ _ t.out _ HRO HRT (by omega)).mono ?_
                rintro e w9 ⟨rfl, d9, rfl⟩
                replace p1 : (wr.drewN d9).cell? ⟨Wb.heap.size + 1, 1, none⟩ = some (.int .i64 lk) := p1
                replace p3 : (wr.drewN d9).cell? ⟨Wb.heap.size + 1, 3, none⟩ = some (.int .i64 lv) := p3
                replace q0 : (wr.drewN d9).cell? ⟨Wb.heap.size, 0, none⟩ = some (.int .i64 sv) := q0
                replace q2 : (wr.drewN d9).cell? ⟨Wb.heap.size, 2, none⟩ = some (.int .i64 tr) := q2
                go_wp2
                go_roundw
                case rel => exact ⟨k + 1, by go_num, by omega, below_drewN HB9.out _⟩
                case measure => simp [intOf]; omega
      · go_wp2
        go_ret
        exact ⟨rfl, HB5.out.trans (HBR.out.mono HB5.out.size)⟩
  · have e1 : (E != 0) = true := by simpa using h1
    have e2 : (E == E) = true := by simp
    clear h1
    go_wp2
    go_ret
    exact ⟨rfl, HB3.out.alloc HB3.out.size _⟩
end Go.Proofs.YtomneemdbechgaaGreat.Vw

/- Rows of words from which words are taken at their front. -/
namespace Go.Proofs.YtomneemdbechgaaGreat.Vw
open Go.RowKit Vf Vm

/-- Words of the call's own, anywhere in a block. -/
def QW (w : World) (B : Nat) (v : Value) (ws : List Int) : Prop :=
  (v = .slice none 0 0 ∧ ws = []) ∨ ∃ g off cap cs, v = .slice (some ⟨g, off, none⟩) ws.length cap ∧ B ≤ g ∧ w.heap[g]? = some (.cells (List.toArray cs) 2 (0, 0)) ∧ off + cap ≤ cs.length ∧ ws.length ≤ cap ∧ ∀ i x, ws[i]? = some x → cs[off + i]? = some (.int .i64 x)

theorem QW.nil (w : World) (B : Nat) : QW w B (.slice none 0 0) [] := .inl ⟨rfl, rfl⟩

theorem qw_own {w : World} {B n : Nat} {v : Value} {ws : List Int} (h : w.ownsRow B 2 1 v n (ints ws)) : QW w B v ws := by
  have hl : ws.length = n := by have := h.1; simpa using this
  subst hl
  rcases h.2 with ⟨rfl, h0⟩ | ⟨g, cap, cur, rfl, hg, hh, h1, h2, h3, h4⟩
  · exact .inl ⟨rfl, List.eq_nil_of_length_eq_zero h0⟩
  · refine .inr ⟨g, 0, cap, cur.toList, rfl, hg, hh, by simp; omega, h1, fun i x hx => ?_⟩
    have : (ints ws)[i]? = some (.int .i64 x) := by simp [hx]
    rw [← h4, List.getElem?_take] at this
    split at this
    · simpa using this
    · simp at this

theorem QW.keep {w w' : World} {B : Nat} {v : Value} {ws : List Int} (h : QW w B v ws) (hk : ∀ k, v.ownBlock = some k → w'.heap[k]? = w.heap[k]?) : QW w' B v ws := by
  rcases h with h | ⟨g, off, cap, cs, rfl, hB, hh, r⟩
  · exact .inl h
  · exact .inr ⟨g, off, cap, cs, rfl, hB, (hk g rfl).trans hh, r⟩
theorem QW.lt {w : World} {B : Nat} {v : Value} {ws : List Int} (h : QW w B v ws) (k : Nat) (hk : v.ownBlock = some k) : B ≤ k ∧ k < w.heap.size := by
  rcases h with ⟨rfl, _⟩ | ⟨g, off, cap, cs, rfl, hB, hh, r⟩
  · simp [Value.ownBlock] at hk
  · simp only [Value.ownBlock, Option.some.injEq] at hk
    subst hk
    exact ⟨hB, lt_of_block hh⟩
theorem QW.alloc {w : World} {B : Nat} {v : Value} {ws : List Int} (h : QW w B v ws) (o : Obj) : QW (w.alloc o) B v ws := h.keep (fun k hk => Below.heap_alloc _ _ _ (h.lt k hk).2)
theorem QW.ty {w : World} {B k : Nat} {v : Value} {ws : List Int} {cs : Array Value} {t : TypeId} {fr : Nat × Nat} (h : QW w B v ws) (hk : w.heap[k]? = some (.cells cs t fr)) (ht : t ≠ 2) : v.ownBlock ≠ some k := by
  rcases h with ⟨rfl, _⟩ | ⟨g, off, cap, cs', rfl, hB, hh, r⟩
  · simp [Value.ownBlock]
  · intro e1
    simp only [Value.ownBlock, Option.some.injEq] at e1
    subst e1
    rw [hh] at hk
    simp at hk
    exact ht hk.2.1.symm
theorem QW.form {w : World} {B : Nat} {v : Value} {ws : List Int} (h : QW w B v ws) : ∃ a c, v = .slice a ws.length c := by
  rcases h with ⟨rfl, rfl⟩ | ⟨g, off, cap, cs, rfl, _⟩
  · exact ⟨_, _, rfl⟩
  · exact ⟨_, _, rfl⟩

/-- The first word, and the others. -/
theorem QW.pop {w : World} {B : Nat} {v : Value} {x : Int} {ws : List Int} (h : QW w B v (x :: ws)) :
    ∃ g off cap, v = .slice (some ⟨g, off, none⟩) (ws.length + 1) cap ∧ ws.length + 1 ≤ cap ∧ w.cell? ⟨g, off, none⟩ = some (.int .i64 x) ∧
      (cap = 1 → QW w B (.slice (some ⟨g, off, none⟩) 0 0) ws) ∧ (cap ≠ 1 → QW w B (.slice (some ⟨g, off + 1, none⟩) ws.length (cap - 1)) ws) := by
  rcases h with ⟨_, h⟩ | ⟨g, off, cap, cs, rfl, hB, hh, h1, h2, h3⟩
  · simp at h
  · simp only [List.length_cons] at h2
    refine ⟨g, off, cap, rfl, h2, ?_, fun hc => ?_, fun hc => ?_⟩
    · have := h3 0 x rfl
      simp [World.cell?, hh]
      simpa using this
    · have hw : ws = [] := List.eq_nil_of_length_eq_zero (by omega)
      subst hw
      exact .inr ⟨g, off, 0, cs, rfl, hB, hh, by omega, Nat.le_refl _, fun i x hx => by simp at hx⟩
    · refine .inr ⟨g, off + 1, cap - 1, cs, rfl, hB, hh, by omega, by omega, fun i y hy => ?_⟩
      have := h3 (i + 1) y (by simpa using hy)
      rw [show off + 1 + i = off + (i + 1) by omega]
      exact this

theorem grown_anyW {w w' : World} {r : Option Nat} (h : w.grownBy w' none) : w.grownBy w' r := ⟨h.os, h.tape, h.output, h.size, fun k hk _ => h.block k hk (by simp)⟩

/-- ONE MORE BEHIND. -/
theorem append_qw (w : World) (B : Nat) (ty : TypeId) (v : Value) (ws : List Int) (x : Int) (h : QW w B v ws) (a : Addr) (hnews : ∀ j u, [Value.int .i64 x][j]? = some u → w.cell? (a.add j) = some u) (hn : ws.length ≤ 20) (hB : B ≤ w.heap.size) :
    ∃ v' w', (Builtin.append_ #[44, 44] ty #[v, .slice (some a) 1 1]).run Tryz.prog w = .ok v' w' ∧ QW w' B v' (ws ++ [x]) ∧ w.grownBy w' v.ownBlock ∧ ∀ k, v'.ownBlock = some k → v.ownBlock = some k ∨ w.heap.size ≤ k := by
  obtain ⟨i0, hi, hz0, hz1, hz2⟩ := info_parts Sb.Tryz.info2
  rcases h with ⟨rfl, rfl⟩ | ⟨g, off, cap, cs, rfl, hBg, hh, h1, h2, h3⟩
  · obtain ⟨v', w', hr, ho, hg, _⟩ := run_append_own (P := Tryz.prog) w w.heap.size 44 ty 2 i0 _ 1 8 Tryz.underlying44 hi hz0 hz1 hz2 rfl (by decide) (.slice none 0 0) 0 [] (World.ownsRow_nil _ _ _ _) a 1 1 [.int .i64 x] rfl hnews (ones1 rfl) (by unfold maxLen; omega) (by omega) (Nat.le_refl _)
    exact ⟨v', w', hr, qw_own (ws := [x]) (own_base ho hB), hg, fun k hk => .inr (ho.lt k hk).1⟩
  · by_cases hroom : ws.length + 1 ≤ cap
    · have hlt : off + ws.length < cs.length := by omega
      have hr := run_append_room_cells (P := Tryz.prog) w 44 ty 2 i0 Tryz.underlying44 hi g off ws.length cap a 1 1 [.int .i64 x] (by rw [hz1]; rfl) hnews (ones1 rfl) hroom
        (fun j hj => by
          have hj0 : j = 0 := by simpa using hj
          subst hj0
          rw [hz1]
          simp [World.cell?, hh, hlt])
        (fun j hj => by simp [World.frozen?, hh])
      rw [hz1, Nat.mul_one] at hr
      refine ⟨_, _, hr, .inr ⟨g, off, cap, cs.set (off + ws.length) (.int .i64 x), by simp, hBg, Mb.set_row hh _ _, by simpa using h1, by simpa using hroom, fun i y hy => ?_⟩, ⟨rfl, rfl, rfl, by simp [World.setCells, World.setCell], fun k hk hne => ?_⟩, fun k hk => .inl hk⟩
      · by_cases hi' : i < ws.length
        · rw [List.getElem?_append_left hi'] at hy
          rw [List.getElem?_set_ne (by omega)]
          exact h3 i y hy
        · have hi2 : i = ws.length := by
            have := (List.getElem?_eq_some_iff.1 hy).1
            simp at this
            omega
          subst hi2
          simp at hy
          subst hy
          rw [List.getElem?_set_self hlt]
      · exact Below.heap_setCell w ⟨g, off + ws.length, none⟩ _ k (fun e => hne (by rw [e]; rfl))
    · obtain ⟨v', w', hr, ho, hg⟩ := run_append_arg_grows (P := Tryz.prog) w 44 ty 2 i0 _ 1 8 Tryz.underlying44 hi hz0 hz1 hz2 rfl (by decide) ⟨g, off, none⟩ ws.length cap (ints ws) (by simp) (fun j u hu => by
          rw [add_none]
          rw [List.getElem?_map] at hu
          obtain ⟨y, hy, rfl⟩ := Option.map_eq_some_iff.1 hu
          simp [World.cell?, hh, h3 j y hy]) a 1 1 [.int .i64 x] rfl hnews (by omega) (by unfold maxLen; omega) (by omega)
      exact ⟨v', w', hr, qw_own (ws := ws ++ [x]) (own_base (by simpa using ho) hB), grown_anyW hg, fun k hk => .inr (ho.lt k hk).1⟩

end Go.Proofs.YtomneemdbechgaaGreat.Vw

