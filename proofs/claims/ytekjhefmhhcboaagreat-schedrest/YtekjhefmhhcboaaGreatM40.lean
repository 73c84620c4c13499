/- WHAT Settle ANSWERS. -/
import Derived.Test.YtekjhefmhhcboaaGreatM37
import Derived.Test.YtekjhefmhhcboaaGreatM39
namespace Go.Proofs.YtekjhefmhhcboaaGreat.Vw
open Go.RowKit Vf Vm

abbrev setR (m : Md) (ps : List Pk) (q : Int) : Int × Wd := settleW m q 20001 (followW m (firstW m) ps)
def setE (m : Md) (ps : List Pk) (q : Int) : Int := if wrongE m ps.length ≠ 0 then wrongE m ps.length else if 1 ≤ q ∧ q ≤ 10000 then (setR m ps q).1 else 3


set_option maxRecDepth 100000 in
set_option maxHeartbeats 2000000 in
theorem Settle_any (m : Md) (ab au : Option Addr) (cb cu B : Nat) (ps : List Pk) (a : Option Addr) (cap : Nat) (w : World) (hmd : Hid (ModIn B w m ab au)) (hps : Hid (PkIn B w ps a)) (hB : B ≤ w.heap.size) (q : Int) (E : Int) (hE : Hid (E = setE m ps q)) (R : Wd) (hR : Hid (R = (setR m ps q).2)) :
    Calls Tryz.prog 10 #[mdV m ab au cb cu, .slice a ps.length cap, .int .i64 q] w fun e w' => Below w.heap.size w w' ∧ ((E ≠ 0 ∧ e = .returned (.tuple #[.agg #[.slice none 0 0, .slice none 0 0, .int .i64 0], .int .i64 E])) ∨
      (E = 0 ∧ ∃ vE vB ov bv, e = .returned (.tuple #[.agg #[vE, vB, .int .i64 R.steps], .int .i64 0]) ∧ EnIn m R 0 w' vE vB R.ts.length m.boxes.length ov bv ∧ ∃ K, Known m K ∧ WI m K R)) := by
  obtain ⟨E1, hE1⟩ : ∃ E1, E1 = wrongE m ps.length := ⟨_, rfl⟩
  have HE1 := Sb.hide hE1
  clear hE1
  have HF0 := Sb.hide (Sr.first w m ab au cb cu)
  have HM0 : Hid (ModIn B ((w.alloc (mdB m ab au cb cu)).alloc woZ) m ab au) := hmd.out.low (HF0.out.below.mono hB).block
  go_enter Tryz.func10, Tryz.ntmps10
  go_wp2_with fail
  generalize (w.alloc (mdB m ab au cb cu)).alloc woZ = W0 at *
  refine (wrong_any m ab au cb cu B a ps.length cap _ HM0 (by have := HF0.out.below.size; omega) E1 HE1).mono ?_
  rintro e w1 ⟨rfl, hb1⟩
  have HF1 := Sb.hide (HF0.out.on hb1)
  clear hb1
  by_cases h0 : E1 = 0
  · have e0 : (E1 != 0) = false := by simpa using h0
    obtain ⟨hright, hn⟩ := wrongE_zero (m := m) (n := ps.length) (by rw [← HE1.out]; exact h0)
    have HE2 : Hid (E = if 1 ≤ q ∧ q ≤ 10000 then (setR m ps q).1 else 3) := by
      unfold Hid
      rw [hE.out, setE, if_neg (by rw [← HE1.out]; simpa using h0)]
    obtain ⟨bq, hbq⟩ : ∃ b, b = decide (1 ≤ q ∧ q ≤ 10000) := ⟨_, rfl⟩
    have HBQ := Sb.hide hbq
    clear hbq
    obtain ⟨⟨K, hK⟩, hbl⟩ := known_of hright
    have HK := Sb.hide hK
    have HRG := Sb.hide hright
    obtain ⟨cv, cc, hcx⟩ := cx_of cu hmd.out hK.rt.units
    have HCX := Sb.hide hcx
    have hB1 : B ≤ w1.heap.size := by have := HF1.out.below.size; omega
    have hz1 := lt_of_block HF1.out.zero
    have HWF := Sb.hide (wi_first hK hright)
    have c1 := md_cells HF1.out.md
    clear h0 hK hright hcx
    go_wp2_with fail
    refine (isQ_any q _ bq HBQ).mono ?_
    rintro e w1 ⟨rfl, rfl⟩
    cases bq with
    | false =>
      have HE3 : Hid (E = 3) := by unfold Hid; rw [HE2.out, if_neg (by have := HBQ.out; simpa using this.symm)]
      clear c1
      have z := (wo_cells HF1.out.zero).1
      have zf := (wo_cells HF1.out.zero).2
      go_wp2
      have hX := fillW_at (v0 := .slice none 0 0) (v1 := .slice none 0 0) (v2 := .int .i64 0) HF1.out.zero
      have hBD := fillW_below (v0 := .slice none 0 0) (v1 := .slice none 0 0) (v2 := .int .i64 0) HF1.out.below (Nat.le_succ _)
      unfold fillW at hX hBD
      obtain ⟨g0, g1, g2⟩ := hX
      generalize ((w1.setCell ⟨w.heap.size + 1, 0, none⟩ (.slice none 0 0)).setCell ⟨w.heap.size + 1, 1, none⟩ (.slice none 0 0)).setCell ⟨w.heap.size + 1, 2, none⟩ (.int .i64 0) = W4 at *
      exact bodyPost_ret (v := .tuple #[.agg #[.slice none 0 0, .slice none 0 0, .int .i64 0], .int .i64 3]) (by simp [results, Tryz.results10, go_sem, g0, g1, g2]) rfl ⟨hBD, .inl ⟨by rw [HE3.out]; decide, by rw [HE3.out]⟩⟩
    | true =>
      have hq : 1 ≤ q ∧ q ≤ 10000 := by have := HBQ.out; simpa using this.symm
      have HE3 : Hid (E = (setR m ps q).1) := by unfold Hid; rw [HE2.out, if_pos hq]
      go_wp2_with fail
      refine (newWorld_any ⟨m, B, au, cu, cv, cc⟩ K HK HRG hbl _ (Sb.hide (HCX.out.low (HF1.out.below.mono hB).block)) hB1 ab cb (Sb.hide (hmd.out.low (HF1.out.below.mono hB).block).boxes)).mono ?_
      rintro e w2 ⟨s, L, vt, vx, rfl, hsc, hS, hW, hb2, hL⟩
      have HSC := Sb.hide hsc
      have hsm : s.c.m = m := by rw [hsc]
      have hsB : s.c.B = B := by rw [hsc]
      have HSM := Sb.hide hsm
      have HSB := Sb.hide hsB
      have HS := Sb.hide hS
      have HW := Sb.hide hW
      have HF2 := Sb.hide (HF1.out.on hb2)
      have HL := Sb.hide (fun b (hb : b < w.heap.size + 2) => hL b (by omega))
      have hz2 := lt_of_block HF2.out.zero
      have HRR : Hid ((E, R) = settleW s.c.m q 20001 (followW s.c.m (firstW m) ps)) := by
        unfold Hid
        rw [HSM.out, HE3.out, hR.out]
      clear hsc hS hW hb2 hL hsm hsB c1
      go_wp2_with fail
      refine (settle_any s deafW HS K (by rw [HSM.out]; exact HK) L _ (firstW m) vt vx HW (by rw [HSM.out]; exact HWF) ps a cap (by rw [HSB.out]; exact Sb.hide (hps.out.low (HF2.out.below.mono hB).block)) hn q hq (E, R) HRR).mono ?_
      rintro e w3 ⟨rfl, L3, hWD, hWI, _, hkp⟩
      have HF3 := Sb.hide (HF2.out.kp hkp HL.out)
      have HWI := Sb.hide hWI
      have HWD := Sb.hide hWD
      clear hWD hWI hkp
      by_cases h5 : E = 0
      · have e5 : (E != 0) = false := by simpa using h5
        have HE0 := Sb.hide h5
        clear h5
        go_wp2_with fail
        refine (wend_any s deafW HS K (by rw [HSM.out]; exact HK) L3 _ R vt vx HWD HWI (by rw [HSM.out]; exact hbl)).mono ?_
        rintro e w4 ⟨vE, vB, ov, bv, rfl, hb4, hEN⟩
        rw [HSM.out] at hEN
        have HF4 := Sb.hide (HF3.out.on hb4)
        have HEN := Sb.hide (hEN.base (Nat.zero_le _))
        obtain ⟨ea, ec, rfl⟩ := own_slice hEN.ends
        obtain ⟨ba, bc, rfl⟩ := own_slice hEN.bxs
        have z := (wo_cells HF4.out.zero).1
        have zf := (wo_cells HF4.out.zero).2
        clear hb4 hEN
        go_wp2
        have hX := fillW_at (v0 := .slice ea R.ts.length ec) (v1 := .slice ba m.boxes.length bc) (v2 := .int .i64 R.steps) HF4.out.zero
        have hBD := fillW_below (v0 := .slice ea R.ts.length ec) (v1 := .slice ba m.boxes.length bc) (v2 := .int .i64 R.steps) HF4.out.below (Nat.le_succ _)
        have hEE := fillW_en (v0 := .slice ea R.ts.length ec) (v1 := .slice ba m.boxes.length bc) (v2 := .int .i64 R.steps) HF4.out.zero HEN.out
        unfold fillW at hX hBD hEE
        obtain ⟨g0, g1, g2⟩ := hX
        generalize ((w4.setCell ⟨w.heap.size + 1, 0, none⟩ (.slice ea R.ts.length ec)).setCell ⟨w.heap.size + 1, 1, none⟩ (.slice ba m.boxes.length bc)).setCell ⟨w.heap.size + 1, 2, none⟩ (.int .i64 R.steps) = W4 at *
        exact bodyPost_ret (v := .tuple #[.agg #[.slice ea R.ts.length ec, .slice ba m.boxes.length bc, .int .i64 R.steps], .int .i64 0]) (by simp [results, Tryz.results10, go_sem, g0, g1, g2]) rfl ⟨hBD, .inr ⟨HE0.out, _, _, ov, bv, rfl, hEE, K, HK.out, by have := HWI.out; rw [HSM.out] at this; exact this⟩⟩
      · have e5 : (E != 0) = true := by simpa using h5
        have HNZ := Sb.hide h5
        clear h5
        have z := (wo_cells HF3.out.zero).1
        have zf := (wo_cells HF3.out.zero).2
        go_wp2
        have hX := fillW_at (v0 := .slice none 0 0) (v1 := .slice none 0 0) (v2 := .int .i64 0) HF3.out.zero
        have hBD := fillW_below (v0 := .slice none 0 0) (v1 := .slice none 0 0) (v2 := .int .i64 0) HF3.out.below (Nat.le_succ _)
        unfold fillW at hX hBD
        obtain ⟨g0, g1, g2⟩ := hX
        generalize ((w3.setCell ⟨w.heap.size + 1, 0, none⟩ (.slice none 0 0)).setCell ⟨w.heap.size + 1, 1, none⟩ (.slice none 0 0)).setCell ⟨w.heap.size + 1, 2, none⟩ (.int .i64 0) = W4 at *
        exact bodyPost_ret (v := .tuple #[.agg #[.slice none 0 0, .slice none 0 0, .int .i64 0], .int .i64 E]) (by simp [results, Tryz.results10, go_sem, g0, g1, g2]) rfl ⟨hBD, .inl ⟨HNZ.out, rfl⟩⟩
  · have e0 : (E1 != 0) = true := by simpa using h0
    have HEE : Hid (E = E1) := by unfold Hid; rw [hE.out, setE, if_pos (by rw [← HE1.out]; exact h0), ← HE1.out]
    have HNZ := Sb.hide h0
    clear h0
    have z := (wo_cells HF1.out.zero).1
    have zf := (wo_cells HF1.out.zero).2
    go_wp2
    have hX := fillW_at (v0 := .slice none 0 0) (v1 := .slice none 0 0) (v2 := .int .i64 0) HF1.out.zero
    have hBD := fillW_below (v0 := .slice none 0 0) (v1 := .slice none 0 0) (v2 := .int .i64 0) HF1.out.below (Nat.le_succ _)
    unfold fillW at hX hBD
    obtain ⟨g0, g1, g2⟩ := hX
    generalize ((w1.setCell ⟨w.heap.size + 1, 0, none⟩ (.slice none 0 0)).setCell ⟨w.heap.size + 1, 1, none⟩ (.slice none 0 0)).setCell ⟨w.heap.size + 1, 2, none⟩ (.int .i64 0) = W4 at *
    exact bodyPost_ret (v := .tuple #[.agg #[.slice none 0 0, .slice none 0 0, .int .i64 0], .int .i64 E1]) (by simp [results, Tryz.results10, go_sem, g0, g1, g2]) rfl ⟨hBD, .inl ⟨by rw [HEE.out]; exact HNZ.out, by rw [HEE.out]⟩⟩
end Go.Proofs.YtekjhefmhhcboaaGreat.Vw

/- The walk of SchedRest: AT REST NOBODY CAN GO ON. -/
namespace Go.Proofs.YtekjhefmhhcboaaGreat.Vw
open Go.RowKit Vf Vm

/-- Where settle ends well nobody is next. -/
theorem settle_rest {m : Md} {q : Int} : ∀ (f : Nat) (W W' : Wd), settleW m q f W = (0, W') → following m W' = none
  | 0, _, _, h => by simp [settleW] at h
  | f + 1, W, W', h => by
    unfold settleW at h
    split at h
    · rename_i hn; cases h; exact hn
    · split at h
      · exact settle_rest f _ _ h
      · rename_i hne; exact absurd (congrArg Prod.fst h) hne
/-- A trap has a number, and what is no trap has none. -/
def Tr (t : Tk) : Prop := (t.over = 5 ∧ t.trap ≠ 0) ∨ (t.over ≠ 5 ∧ t.trap = 0)
def Zr (t : Tk) : Prop := t.over = 0 ∧ t.trap = 0
theorem Zr.tr {t : Tk} (h : Zr t) : Tr t := .inr ⟨by rw [h.1]; decide, h.2⟩
theorem tr_fall (t : Tk) (n : Nat) (h : n ≠ 0) : Tr (t.fall n) := .inl ⟨rfl, h⟩
theorem z_put {t : Tk} (h : Zr t) (v : Int) : Tr (t.put v) := by
  unfold Tk.put
  split
  · exact tr_fall _ _ (by decide)
  · exact Zr.tr (t := t.words _) h
theorem z_act {t : Tk} (h : Zr t) (m : Md) (c : Ins) (rv : Int) : Tr (t.act m c rv) := by
  have zc : Zr t.cut := h
  have zg : ∀ {a : Tk}, Zr a → ∀ (s : Nat) (v : Int), Tr (a.give s v) := fun {a} ha s v => by
    unfold Tk.give
    exact z_put (t := { a.set a.hand { a.top with stands := s } with hand := a.top.up.getD 0 }) ha v
  unfold Tk.act
  by_cases h1 : c.op = 1
  · rw [if_pos h1]
    exact z_put h _
  rw [if_neg h1]
  by_cases h2 : c.op = 2
  · rw [if_pos h2]
    exact z_put h _
  rw [if_neg h2]
  by_cases h3 : c.op = 3
  · rw [if_pos h3]
    exact z_put h _
  rw [if_neg h3]
  by_cases h4 : c.op = 4
  · rw [if_pos h4]
    exact Zr.tr (t := t.words _) h
  rw [if_neg h4]
  by_cases h5 : c.op = 5
  · rw [if_pos h5]
    exact zc.tr
  rw [if_neg h5]
  by_cases h6 : c.op = 6
  · rw [if_pos h6]
    exact z_put zc _
  rw [if_neg h6]
  by_cases h7 : c.op = 7
  · rw [if_pos h7]
    exact z_put zc _
  rw [if_neg h7]
  by_cases h21 : c.op = 21
  · rw [if_pos h21]
    exact Zr.tr (t := t.goto _) h
  rw [if_neg h21]
  by_cases h22 : c.op = 22
  · rw [if_pos h22]
    split
    · exact Zr.tr (t := t.cut.goto _) h
    · exact zc.tr
  rw [if_neg h22]
  by_cases h26 : c.op = 26
  · rw [if_pos h26]
    exact Zr.tr (t := t.cut.note _) h
  rw [if_neg h26]
  by_cases h27 : c.op = 27
  · rw [if_pos h27]
    exact z_put (t := t.note _) h _
  rw [if_neg h27]
  by_cases h28 : c.op = 28
  · rw [if_pos h28]
    exact Zr.tr (t := ({ t.cut with out := t.out ++ [t.last] } : Tk).note _) h
  rw [if_neg h28]
  by_cases h23 : c.op = 23
  · rw [if_pos h23]
    unfold Tk.call
    split
    · exact tr_fall _ _ (by decide)
    · split
      · exact Zr.tr (t := t.set _ _) h
      · exact tr_fall _ _ (by decide)
  rw [if_neg h23]
  by_cases h24 : c.op = 24
  · rw [if_pos h24]
    exact z_put (t := t.cut.leave) h _
  rw [if_neg h24]
  by_cases h29 : c.op = 29
  · rw [if_pos h29]
    unfold Tk.start
    dsimp only
    split
    · exact tr_fall _ _ (by decide)
    · refine z_put ?_ _
      exact h
  rw [if_neg h29]
  by_cases h30 : c.op = 30
  · rw [if_pos h30]
    unfold Tk.resume
    dsimp only
    split
    · exact tr_fall _ _ (by decide)
    · split
      · exact tr_fall _ _ (by decide)
      · split
        · refine z_put ?_ _
          exact h
        · refine Zr.tr ?_
          exact h
  rw [if_neg h30]
  by_cases h31 : c.op = 31
  · rw [if_pos h31]
    exact zg zc _ _
  rw [if_neg h31]
  by_cases h25 : c.op = 25
  · rw [if_pos h25]
    unfold Tk.fin
    split
    · exact .inr ⟨by show (4 : Nat) ≠ 5; decide, h.2⟩
    · exact zg h _ _
  rw [if_neg h25]
  by_cases h32 : c.op = 32
  · rw [if_pos h32]
    exact z_put zc _
  rw [if_neg h32]
  unfold Tk.reckon
  split
  · exact tr_fall _ _ (by decide)
  · exact z_put (t := t.cut.cut) h _
theorem stat_over {m : Md} {t : Tk} {x : List Bq} (h : (stat mbX m t x).1 = 1) (h1 : t.over ≠ 1) : t.over = 0 := by
  unfold stat at h
  by_cases e : t.over ≠ 0
  · rw [if_pos e] at h; exact absurd h h1
  · simpa using e
/-- Of what is known of a task. -/
def To (t : Tk) : Prop := Tr t ∧ (t.over = 0 ∨ t.over = 4 ∨ t.over = 5)
theorem go_tr (m : Md) : ∀ (n : Nat) (t : Tk) (x : List Bq), To t → To (go mbX m n t x).2.1
  | 0, t, x, h => h
  | n + 1, t, x, h => by
    by_cases hs : (stat mbX m t x).1 = 1
    · rw [go_yes hs]
      have h0 : t.over = 0 := stat_over hs (by rcases h.2 with e | e | e <;> omega)
      have hz : Zr t := ⟨h0, by cases h.1 with | inl e => omega | inr e => exact e.2⟩
      refine go_tr m n _ _ ⟨z_act (t := t.goto _) hz m _ _, ?_⟩
      have := (act_out m (t.ins m) (t.goto (t.frame.pc + 1)) (mbX.head x (t.ins m).a.toNat)).2
      have e : (t.goto (t.frame.pc + 1)).over = t.over := rfl
      rw [e, h0] at this
      exact this
    · rw [go_no hs]; exact h
def TrW (W : Wd) : Prop := ∀ (o : Nat) t, W.ts[o]? = some t → To t
theorem pick_tr {m : Md} {W : Wd} (h : TrW W) (p : Pk) : TrW (pickW m W p) := by
  unfold pickW
  split
  · rename_i h0
    obtain ⟨h1, h2, _⟩ := refE_zero h0
    intro o t ht
    simp only [List.getElem?_set] at ht
    split at ht
    · split at ht
      · cases ht
        refine go_tr m _ _ _ ?_
        obtain ⟨t', ht'⟩ : ∃ t', W.ts[p.task.toNat]? = some t' := ⟨_, List.getElem?_eq_getElem (by omega)⟩
        have : W.tk p.task = t' := by simp [Wd.tk, ht']
        rw [this]
        exact h _ _ ht'
      · cases ht
    · exact h o t ht
  · exact h
theorem follow_tr (m : Md) : ∀ (ps : List Pk) (W : Wd), TrW W → TrW (followW m W ps)
  | [], _, h => h
  | p :: ps, _, h => follow_tr m ps _ (pick_tr h p)
theorem settle_tr (m : Md) (q : Int) : ∀ (f : Nat) (W : Wd), TrW W → TrW (settleW m q f W).2
  | 0, _, h => h
  | f + 1, W, h => by
    unfold settleW
    split
    · exact h
    · split
      · exact settle_tr m q f _ (pick_tr h _)
      · exact h
theorem first_tr (m : Md) : TrW (firstW m) := fun o t ht => by
  obtain ⟨n, _, rfl⟩ := firstW_at ht
  exact ⟨.inr ⟨by show (0 : Nat) ≠ 5; decide, rfl⟩, .inl rfl⟩

/-- How a task stands that can't go on. -/
theorem rest_stat {m : Md} {K : KM} (hK : Known m K) {n : Nat} {t : Tk} {x : List Bq} (hI : MI m K n t x) (hT : To t) (hr : ¬ (stat mbX m t x).1 = 1) :
    (stat mbX m t x = (4, 0) ∧ t.trap = 0) ∨ (stat mbX m t x = (5, 0) ∧ t.trap ≠ 0) ∨
    (∃ (b : Nat) (q : Bq) (bx : Bx), (stat mbX m t x) = (2, b) ∧ x[b]? = some q ∧ m.boxes[b]? = some bx ∧ (q.ws.length : Int) = bx.cap) ∨
    (∃ (b : Nat) (q : Bq) (bx : Bx), (stat mbX m t x) = (3, b) ∧ x[b]? = some q ∧ m.boxes[b]? = some bx ∧ q.ws.length = 0) := by
  rcases hT.2 with h0 | h4 | h5
  · have hat : (t.ins m).op = 26 ∨ (t.ins m).op = 27 → ∃ (b : Nat) (q : Bq) (bx : Bx), (t.ins m).a.toNat = b ∧ x[b]? = some q ∧ m.boxes[b]? = some bx ∧ (q.cap : Int) = bx.cap := fun ho => by
      obtain ⟨f, rs, u, i, hA⟩ := (keeps_mb (c := ⟨m, 0, none, 0, fun _ => none, fun _ => 0⟩) hK).at' n t x hI h0
      have hi : t.ins m = i := hA.ins
      rw [hi] at ho ⊢
      obtain ⟨b, e, hb⟩ := hA.box ho
      obtain ⟨q, hq⟩ : ∃ q, x[b]? = some q := ⟨_, List.getElem?_eq_getElem (by rw [hI.len]; exact hb)⟩
      obtain ⟨bx, hbx⟩ : ∃ q, m.boxes[b]? = some q := ⟨_, List.getElem?_eq_getElem hb⟩
      exact ⟨b, q, bx, by rw [e]; simp, hq, hbx, (hI.boxes b q bx hq hbx).1⟩
    unfold stat at hr ⊢
    rw [if_neg (by omega)] at hr ⊢
    by_cases h1 : (t.ins m).op = 26 ∧ mbX.full x (t.ins m).a.toNat = true
    · rw [if_pos h1]
      obtain ⟨b, q, bx, e, hq, hbx, hc⟩ := hat (.inl h1.1)
      refine .inr (.inr (.inl ⟨b, q, bx, by rw [e], hq, hbx, ?_⟩))
      have := h1.2
      rw [e] at this
      simp [mbX, hq] at this
      omega
    · rw [if_neg h1] at hr ⊢
      by_cases h2 : (t.ins m).op = 27 ∧ mbX.empty x (t.ins m).a.toNat = true
      · rw [if_pos h2]
        obtain ⟨b, q, bx, e, hq, hbx, hc⟩ := hat (.inr h2.1)
        refine .inr (.inr (.inr ⟨b, q, bx, by rw [e], hq, hbx, ?_⟩))
        have := h2.2
        rw [e] at this
        simp [mbX, hq] at this
        simp [this]
      · rw [if_neg h2] at hr
        exact absurd rfl hr
  · refine .inl ⟨by unfold stat; rw [if_pos (by omega), h4], ?_⟩
    rcases hT.1 with e | e
    · omega
    · exact e.2
  · refine .inr (.inl ⟨by unfold stat; rw [if_pos (by omega), h5], ?_⟩)
    rcases hT.1 with e | e
    · exact e.2
    · omega
end Go.Proofs.YtekjhefmhhcboaaGreat.Vw

/- The walk of SchedRest. -/
namespace Go.Proofs.YtekjhefmhhcboaaGreat.Vw
open Go.RowKit Vf Vm

/-- At rest: what is known of the world. -/
structure Rst (m : Md) (R : Wd) : Prop where
  stat' : ∀ (o : Nat) t, R.ts[o]? = some t → (stat mbX m t R.x = (4, 0) ∧ t.trap = 0) ∨ (stat mbX m t R.x = (5, 0) ∧ t.trap ≠ 0) ∨
    (∃ (b : Nat) (q : Bq) (bx : Bx), (stat mbX m t R.x) = (2, b) ∧ R.x[b]? = some q ∧ m.boxes[b]? = some bx ∧ (q.ws.length : Int) = bx.cap) ∨
    (∃ (b : Nat) (q : Bq) (bx : Bx), (stat mbX m t R.x) = (3, b) ∧ R.x[b]? = some q ∧ m.boxes[b]? = some bx ∧ q.ws.length = 0)
  caps : ∀ (i : Nat) q bx, R.x[i]? = some q → m.boxes[i]? = some bx → (q.ws.length : Int) ≤ bx.cap
theorem rst_of {m : Md} {ps : List Pk} {q : Int} (h : (setR m ps q).1 = 0) {K : KM} (hK : Known m K) (hI : WI m K (setR m ps q).2) : Rst m (setR m ps q).2 := by
  have hn : following m (setR m ps q).2 = none := settle_rest 20001 _ _ (Prod.ext h rfl)
  have hT : TrW (setR m ps q).2 := settle_tr m q _ _ (follow_tr m _ _ (first_tr m))
  refine ⟨fun o t ht => ?_, fun i p bx hp hb => ?_⟩
  · have ho := (List.getElem?_eq_some_iff.1 ht).1
    have := following_none hn ho
    have e : (setR m ps q).2.tk (o : Int) = t := by simp [Wd.tk, ht]
    rw [e] at this
    exact rest_stat hK (hI.tasks o t ht) (hT o t ht) this
  · obtain ⟨t0, ht0⟩ : ∃ t, (setR m ps q).2.ts[0]? = some t := ⟨_, List.getElem?_eq_getElem hI.few.1⟩
    have := (hI.tasks 0 t0 ht0).boxes i p bx hp hb
    omega

set_option maxRecDepth 100000 in
set_option maxHeartbeats 4000000 in
theorem rest_any (m : Md) (ab au : Option Addr) (cb cu : Nat) (ps : List Pk) (a : Option Addr) (cap : Nat) (w : World) (hmd : ModIn w.heap.size w m ab au) (hps : PkIn w.heap.size w ps a) (q : Int) :
    Calls Tryz.prog 7 #[mdV m ab au cb cu, .slice a ps.length cap, .int .i64 q] w fun e w' => e = .returned (.bool true) ∧ Below w.heap.size w w' := by
  have HMD := Sb.hide hmd
  have HPS := Sb.hide hps
  obtain ⟨E, hE⟩ : ∃ E, E = setE m ps q := ⟨_, rfl⟩
  obtain ⟨R, hR⟩ : ∃ R, R = (setR m ps q).2 := ⟨_, rfl⟩
  have HE := Sb.hide hE
  have HRR := Sb.hide hR
  have HB0 : Hid (Below w.heap.size w (w.alloc (mdB m ab au cb cu))) := (Below.refl _ w).alloc (Nat.le_refl _) _
  have HM0 : Hid ((w.alloc (mdB m ab au cb cu)).heap[w.heap.size]? = some (mdB m ab au cb cu)) := heap_alloc_new w _
  clear hmd hps hE hR
  go_enter Tryz.func7, Tryz.ntmps7
  go_wp2_with fail
  generalize w.alloc (mdB m ab au cb cu) = W0 at *
  refine (alive_any _).mono ?_
  rintro e w1 ⟨rfl, hb1⟩
  have HB1 := Sb.hide (HB0.out.trans (hb1.mono HB0.out.size))
  have HM1 := Sb.hide ((hb1.block _ (lt_of_block HM0.out)).trans HM0.out)
  have c1 := md_cells HM1.out
  clear hb1
  go_wp2_with fail
  refine (Settle_any m ab au cb cu w.heap.size ps a cap _ (Sb.hide (HMD.out.low HB1.out.block)) (Sb.hide (HPS.out.low HB1.out.block)) HB1.out.size q E HE R HRR).mono ?_
  rintro e w2 ⟨hb2, hr⟩
  have HB2 := Sb.hide (HB1.out.trans (hb2.mono HB1.out.size))
  have HM2 := Sb.hide ((hb2.block _ (lt_of_block HM1.out)).trans HM1.out)
  clear hb2 c1
  rcases hr with ⟨h0, rfl⟩ | ⟨h0, vE, vB, ov, bv, rfl, hEN, K, hK, hWI⟩
  · have e0 : (E != 0) = true := by simpa using h0
    clear h0
    go_wp2
    go_ret
    exact ⟨rfl, HB2.out.alloc HB2.out.size _⟩
  · have hez : (setR m ps q).1 = 0 := by
      have := HE.out
      rw [h0, setE] at this
      split at this
      · rename_i h1; exact absurd this.symm h1
      · split at this
        · exact this.symm
        · cases this
    have HRS : Hid (Rst m R) := by unfold Hid; rw [HRR.out] at hWI ⊢; exact rst_of hez hK hWI
    obtain ⟨ea, ec, rfl⟩ := own_slice hEN.ends
    obtain ⟨ba, bc, rfl⟩ := own_slice hEN.bxs
    have hxl : R.x.length = m.boxes.length := by
      obtain ⟨t0, ht0⟩ : ∃ t, R.ts[0]? = some t := ⟨_, List.getElem?_eq_getElem hWI.few.1⟩
      exact (hWI.tasks 0 t0 ht0).len
    have hfew := hWI.few.2
    have hbl : m.boxes.length ≤ 30 := by
      have hwz : wrongE m ps.length = 0 := by
        have := HE.out
        rw [h0, setE] at this
        split at this
        · rename_i h1; exact absurd this.symm h1
        · rename_i h1; simpa using h1
      exact (known_of (wrongE_zero hwz).1).2
    have HRD := Sb.hide (hEN.reads hxl)
    have HXL := Sb.hide hxl
    obtain ⟨NT, hNT⟩ : ∃ N, N = R.ts.length := ⟨_, rfl⟩
    obtain ⟨NB, hNB⟩ : ∃ N, N = m.boxes.length := ⟨_, rfl⟩
    have HNT := Sb.hide hNT
    have HNB := Sb.hide hNB
    have HO2 : Hid ((w2.alloc (woO (.slice ea NT ec) (.slice ba NB bc) R.steps)).heap[w2.heap.size]? = some (woO (.slice ea NT ec) (.slice ba NB bc) R.steps)) := heap_alloc_new w2 _
    have HB3 : Hid (Below w2.heap.size w2 (w2.alloc (woO (.slice ea NT ec) (.slice ba NB bc) R.steps))) := (Below.refl _ w2).alloc (Nat.le_refl _) _
    rw [← hNT, ← hNB]
    rw [← hNT] at hfew
    rw [← hNB] at hbl
    subst h0
    clear hEN hWI hK hez hxl hNT hNB
    go_wp2
    generalize w2.alloc (woO (.slice ea NT ec) (.slice ba NB bc) R.steps) = W3 at *
    have HBW := Sb.hide (HB2.out.trans (HB3.out.mono HB2.out.size))
    have hy2 := HB2.out.size
    have hy3 := HB3.out.size
    go_loopw [31] (fun v wr => ∃ k : Nat, v = .int .i64 k ∧ k ≤ NT ∧ Below W3.heap.size W3 wr) (fun v _ => NT - (intOf v).toNat)
    case atStart => exact ⟨0, rfl, Nat.zero_le _, .refl _ _⟩
    case round =>
      obtain ⟨k, rfl, hk, hb⟩ := hrel
      have HB := Sb.hide hb
      have hzb := hb.size
      have HOW := Sb.hide ((hb.block _ (lt_of_block HO2.out)).trans HO2.out)
      have hm2z := lt_of_block HM2.out
      have HMW : Hid (wr.heap[w.heap.size]? = some (mdB m ab au cb cu)) := (hb.block _ (by omega)).trans ((HB3.out.block _ hm2z).trans HM2.out)
      have HBE := Sb.hide (HBW.out.trans (hb.mono HBW.out.size))
      have HRW := Sb.hide ((HRD.out.below HB3.out).below hb)
      clear hb
      by_cases hlt : k < NT
      · obtain ⟨t, ht⟩ : ∃ t, R.ts[k]? = some t := ⟨_, List.getElem?_eq_getElem (by have := HNT.out; omega)⟩
        obtain ⟨ea', ec', e1, hends⟩ := HRW.out.ends
        cases e1
        obtain ⟨eb, eo, vo, rfl, x0, x1, x2, x3, xo⟩ := hends k t ht
        obtain ⟨oa, oc, rfl, _⟩ := xo
        have hst := HRS.out.stat' k t ht
        obtain ⟨sx1, hs1⟩ : ∃ s, s = (stat mbX m t R.x).1 := ⟨_, rfl⟩
        obtain ⟨sx2, hs2⟩ : ∃ s, s = (stat mbX m t R.x).2 := ⟨_, rfl⟩
        rw [← hs1] at x0
        rw [← hs2] at x1
        obtain ⟨tr, htr⟩ : ∃ tr, tr = t.trap := ⟨_, rfl⟩
        rw [← htr] at x2 hst
        obtain ⟨ol, hol⟩ : ∃ l, l = t.out.length := ⟨_, rfl⟩
        rw [← hol] at x3
        have n0 : (0 : Int) ≤ (k : Int) := by omega
        have n1 : (k : Int) < (NT : Int) := by omega
        have HBN : Hid (Below W3.heap.size W3 (wr.alloc (.cells #[.int .i64 sx1, .int .i64 sx2, .int .i64 tr, .slice oa ol oc] 48))) := HB.out.alloc hzb _
        have HBR : Hid (Below wr.heap.size wr (wr.alloc (.cells #[.int .i64 sx1, .int .i64 sx2, .int .i64 tr, .slice oa ol oc] 48))) := (Below.refl _ wr).alloc (Nat.le_refl _) _
        have HEN : Hid ((wr.alloc (.cells #[.int .i64 sx1, .int .i64 sx2, .int .i64 tr, .slice oa ol oc] 48)).heap[wr.heap.size]? = some (.cells #[.int .i64 sx1, .int .i64 sx2, .int .i64 tr, .slice oa ol oc] 48 (0, 0))) := heap_alloc_new wr _
        have hen := HEN.out
        have f0 : (wr.alloc (.cells #[.int .i64 sx1, .int .i64 sx2, .int .i64 tr, .slice oa ol oc] 48)).cell? ⟨wr.heap.size, 0, none⟩ = some (.int .i64 sx1) := by simp [World.cell?_alloc_mark]
        have f1 : (wr.alloc (.cells #[.int .i64 sx1, .int .i64 sx2, .int .i64 tr, .slice oa ol oc] 48)).cell? ⟨wr.heap.size, 1, none⟩ = some (.int .i64 sx2) := by simp [World.cell?_alloc_mark]
        have f2 : (wr.alloc (.cells #[.int .i64 sx1, .int .i64 sx2, .int .i64 tr, .slice oa ol oc] 48)).cell? ⟨wr.heap.size, 2, none⟩ = some (.int .i64 tr) := by simp [World.cell?_alloc_mark]
        have g := (wo_cells ((HBR.out.block _ (lt_of_block HOW.out)).trans HOW.out)).1
        have j := md_cells ((HBR.out.block _ (lt_of_block HMW.out)).trans HMW.out)
        rw [← HNB.out] at j
        have HRB := Sb.hide (HRW.out.boxes.below HBR.out)
        have HMB : Hid (BoxesIn w.heap.size (wr.alloc (.cells #[.int .i64 sx1, .int .i64 sx2, .int .i64 tr, .slice oa ol oc] 48)) m.boxes ab) := ((HMD.out.low HBE.out.block).boxes).low (fun b hb => HBR.out.block b (by have := HBE.out.size; omega))
        have hw1 : ¬ w.heap.size = wr.heap.size := by omega
        have hw2 : ¬ w2.heap.size = wr.heap.size := by have := lt_of_block HOW.out; omega
        have g' := (wo_cells HOW.out).1
        have j' := md_cells HMW.out
        rw [← HNB.out] at j'
        have HRB' := Sb.hide HRW.out.boxes
        clear ht hends htr hol hen
        rcases hst with ⟨es, rfl⟩ | ⟨es, htr⟩ | ⟨bn, bq, bx, es, hq, hx, hc⟩ | ⟨bn, bq, bx, es, hq, hx, hc⟩
        ·
          rw [es] at hs1 hs2
          simp only at hs1 hs2
          have d4 : ((sx1 : Int) == 4) = true := by rw [hs1]; rfl
          have d5 : ((sx1 : Int) == 5) = false := by rw [hs1]; rfl
          have d2 : ((sx1 : Int) == 2) = false := by rw [hs1]; rfl
          have d3 : ((sx1 : Int) == 3) = false := by rw [hs1]; rfl
          have dz : ((sx2 : Int) != 0) = false := by rw [hs2]; rfl
          clear hs1 hs2 es
          go_wp2
          go_roundw
          case rel => exact ⟨k + 1, by go_num, hlt, HBN.out⟩
          case measure => simp [intOf]; omega
        ·
          rw [es] at hs1 hs2
          simp only at hs1 hs2
          have d4 : ((sx1 : Int) == 4) = false := by rw [hs1]; rfl
          have d5 : ((sx1 : Int) == 5) = true := by rw [hs1]; rfl
          have d2 : ((sx1 : Int) == 2) = false := by rw [hs1]; rfl
          have d3 : ((sx1 : Int) == 3) = false := by rw [hs1]; rfl
          have dz : ((sx2 : Int) != 0) = false := by rw [hs2]; rfl
          clear hs1 hs2 es
          have e1 : ((tr : Int) == 0) = false := by simp; omega
          clear htr
          go_wp2
          go_roundw
          case rel => exact ⟨k + 1, by go_num, hlt, HBN.out⟩
          case measure => simp [intOf]; omega
        ·
          rw [es] at hs1 hs2
          simp only at hs1 hs2
          have d4 : ((sx1 : Int) == 4) = false := by rw [hs1]; rfl
          have d5 : ((sx1 : Int) == 5) = false := by rw [hs1]; rfl
          have d2 : ((sx1 : Int) == 2) = true := by rw [hs1]; rfl
          have d3 : ((sx1 : Int) == 3) = false := by rw [hs1]; rfl
          subst hs2
          clear hs1 es
          obtain ⟨ba', bc', e2, hrb⟩ := HRB.out
          have eb : ba = ba' := by injection e2
          subst eb
          obtain ⟨vb, vo2, vu, rfl, k0, hri⟩ := hrb sx2 bq.ws (by rw [List.getElem?_map, hq]; rfl)
          obtain ⟨va, vc, rfl, _⟩ := hri
          obtain ⟨_, _, mb, mo, rfl, hmb, k1, k2⟩ := HMB.out sx2 bx hx
          have hbn : sx2 < NB := by have := (List.getElem?_eq_some_iff.1 hx).1; have := HNB.out; omega
          have hvb : ¬ vb = wr.heap.size := fun e => by
            obtain ⟨ba2, bc2, e3, hrb2⟩ := HRB'.out
            have eb2 : some (⟨vb, vo2, none⟩ : Addr) = ba2 := by injection e3
            subst eb2
            obtain ⟨vb3, vo3, vu3, e4, k3, _⟩ := hrb2 sx2 bq.ws (by rw [List.getElem?_map, hq]; rfl)
            have := World.block_lt_of_cell? wr _ k3
            cases e4
            simp at this
            omega
          have hmbn : ¬ mb = wr.heap.size := by have := HBE.out.size; omega
          have k0' : wr.cell? ⟨vb, vo2 + sx2, none⟩ = some (.slice va bq.ws.length vc) := by rw [← k0]; exact (cell_eq (HBR.out.block vb (by
            have := World.block_lt_of_cell? _ _ k0
            simp at this
            omega)) _).symm
          have k2' : wr.cell? ⟨mb, mo + sx2 * 2 + 1, none⟩ = some (.int .i64 bx.cap) := by rw [← k2]; exact (cell_eq (HBR.out.block mb (by have := HBE.out.size; omega)) _).symm
          obtain ⟨wl, hwl⟩ : ∃ l, l = bq.ws.length := ⟨_, rfl⟩
          rw [← hwl] at k0 k0' hc
          have e5 : decide ((sx2 : Int) < 0) = false := by simp
          have e6 : decide ((NB : Int) ≤ (sx2 : Int)) = false := by simp; omega
          have m0 : (0 : Int) ≤ (sx2 : Int) := by omega
          have m1 : (sx2 : Int) < (NB : Int) := by omega
          rw [← hc] at k2 k2'
          have e1 : ((wl : Int) != (wl : Int)) = false := by simp
          clear hq hx hrb hwl hc
          go_wp2
          generalize wr.alloc (.cells #[.int .i64 sx1, .int .i64 sx2, .int .i64 tr, .slice oa ol oc] 48) = W4 at *
          go_quiet (fail)
          go_wp2
          go_roundw
          case rel => exact ⟨k + 1, by go_num, hlt, below_drewN HBN.out _⟩
          case measure => simp [intOf]; omega
        ·
          rw [es] at hs1 hs2
          simp only at hs1 hs2
          have d4 : ((sx1 : Int) == 4) = false := by rw [hs1]; rfl
          have d5 : ((sx1 : Int) == 5) = false := by rw [hs1]; rfl
          have d2 : ((sx1 : Int) == 2) = false := by rw [hs1]; rfl
          have d3 : ((sx1 : Int) == 3) = true := by rw [hs1]; rfl
          subst hs2
          clear hs1 es
          obtain ⟨ba', bc', e2, hrb⟩ := HRB.out
          have eb : ba = ba' := by injection e2
          subst eb
          obtain ⟨vb, vo2, vu, rfl, k0, hri⟩ := hrb sx2 bq.ws (by rw [List.getElem?_map, hq]; rfl)
          obtain ⟨va, vc, rfl, _⟩ := hri
          obtain ⟨_, _, mb, mo, rfl, hmb, k1, k2⟩ := HMB.out sx2 bx hx
          have hbn : sx2 < NB := by have := (List.getElem?_eq_some_iff.1 hx).1; have := HNB.out; omega
          have hvb : ¬ vb = wr.heap.size := fun e => by
            obtain ⟨ba2, bc2, e3, hrb2⟩ := HRB'.out
            have eb2 : some (⟨vb, vo2, none⟩ : Addr) = ba2 := by injection e3
            subst eb2
            obtain ⟨vb3, vo3, vu3, e4, k3, _⟩ := hrb2 sx2 bq.ws (by rw [List.getElem?_map, hq]; rfl)
            have := World.block_lt_of_cell? wr _ k3
            cases e4
            simp at this
            omega
          have hmbn : ¬ mb = wr.heap.size := by have := HBE.out.size; omega
          have k0' : wr.cell? ⟨vb, vo2 + sx2, none⟩ = some (.slice va bq.ws.length vc) := by rw [← k0]; exact (cell_eq (HBR.out.block vb (by
            have := World.block_lt_of_cell? _ _ k0
            simp at this
            omega)) _).symm
          have k2' : wr.cell? ⟨mb, mo + sx2 * 2 + 1, none⟩ = some (.int .i64 bx.cap) := by rw [← k2]; exact (cell_eq (HBR.out.block mb (by have := HBE.out.size; omega)) _).symm
          obtain ⟨wl, hwl⟩ : ∃ l, l = bq.ws.length := ⟨_, rfl⟩
          rw [← hwl] at k0 k0' hc
          have e5 : decide ((sx2 : Int) < 0) = false := by simp
          have e6 : decide ((NB : Int) ≤ (sx2 : Int)) = false := by simp; omega
          have m0 : (0 : Int) ≤ (sx2 : Int) := by omega
          have m1 : (sx2 : Int) < (NB : Int) := by omega
          subst hc
          clear hq hx hrb hwl
          go_wp2
          go_roundw
          case rel => exact ⟨k + 1, by go_num, hlt, HBN.out⟩
          case measure => simp [intOf]; omega
      · have n1 : ¬ (k : Int) < (NT : Int) := by omega
        have g := (wo_cells HOW.out).1
        have j := md_cells HMW.out
        rw [← HNB.out] at j
        obtain ⟨W5, hW5⟩ : ∃ W5, W5 = wr := ⟨_, rfl⟩
        have HB5 : Hid (Below w.heap.size w W5) := by rw [hW5]; exact HBE.out
        have HO5 : Hid (W5.heap[w2.heap.size]? = some (woO (.slice ea NT ec) (.slice ba NB bc) R.steps)) := by rw [hW5]; exact HOW.out
        have HM5 : Hid (W5.heap[w.heap.size]? = some (mdB m ab au cb cu)) := by rw [hW5]; exact HMW.out
        have HR5 : Hid (RS W5 (.slice ba NB bc) (R.x.map (·.ws))) := by
          have := HRW.out.boxes
          rw [← HNB.out] at this
          rw [hW5]
          exact this
        rw [← hW5]
        rw [← hW5] at g j
        clear hlt HB HOW HMW HBE HRW hW5
        go_wp2
        go_loopw [109] (fun v wr => ∃ k : Nat, v = .int .i64 k ∧ k ≤ NB ∧ wr = W5) (fun v _ => NB - (intOf v).toNat)
        case atStart => exact ⟨0, rfl, Nat.zero_le _, rfl⟩
        case round =>
          obtain ⟨i, rfl, hi, rfl⟩ := hrel
          by_cases hlt : i < NB
          · obtain ⟨bq, hq⟩ : ∃ q, R.x[i]? = some q := ⟨_, List.getElem?_eq_getElem (by have := HXL.out; have := HNB.out; omega)⟩
            obtain ⟨bx, hx⟩ : ∃ b, m.boxes[i]? = some b := ⟨_, List.getElem?_eq_getElem (by have := HNB.out; omega)⟩
            have hcp := HRS.out.caps i bq bx hq hx
            obtain ⟨ba', bc', e2, hrb⟩ := HR5.out
            have eb : ba = ba' := by injection e2
            subst eb
            obtain ⟨vb, vo2, vu, rfl, k0, hri⟩ := hrb i bq.ws (by rw [List.getElem?_map, hq]; rfl)
            obtain ⟨va, vc, rfl, _⟩ := hri
            obtain ⟨_, _, mb, mo, rfl, hmb, k1, k2⟩ := HMD.out.boxes i bx hx
            have z2 : wr.cell? ⟨mb, mo + i * 2 + 1, none⟩ = some (.int .i64 bx.cap) := (cell_eq (HB5.out.block mb hmb) _).trans k2
            obtain ⟨wl, hwl⟩ : ∃ l, l = bq.ws.length := ⟨_, rfl⟩
            rw [← hwl] at k0 hcp
            have e1 : decide (bx.cap < (wl : Int)) = false := by simp; omega
            have m0 : (0 : Int) ≤ (i : Int) := by omega
            have m1 : (i : Int) < (NB : Int) := by omega
            clear hq hx hrb hwl hcp k1 k2 e2
            go_wp2
            go_roundw
            case rel => exact ⟨i + 1, by go_num, hlt, by first | trivial | rfl⟩
            case measure => simp [intOf]; omega
          · have n2 : ¬ (i : Int) < (NB : Int) := by omega
            have e1 : ((NB : Int) == (NB : Int)) = true := by simp
            go_wp2
            go_ret
            exact ⟨rfl, HB5.out⟩
end Go.Proofs.YtekjhefmhhcboaaGreat.Vw

