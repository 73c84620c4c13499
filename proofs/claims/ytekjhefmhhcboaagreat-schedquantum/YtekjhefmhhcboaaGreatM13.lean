/- The walk of start. -/
import Derived.Test.YtekjhefmhhcboaaGreatM12
namespace Go.Proofs.YtekjhefmhhcboaaGreat.Vw
open Go.RowKit Vf Vm

theorem Tryz.info100 : (Tryz.prog.info? 100).map (fun i => (i.zero, i.size, i.bytes)) = some (some (.pointer none), 1, 8) := by kernel_rfl

theorem takeList_i (c : Cx) (L : Lab) (o i : Nat) (P : Nat → Nat) (w : World) (h : Th) (S g r : Nat) (vU : Value) (H : Hid (ThIn c L o i P w h S g r vU)) (hL : Hid (LOk c.B L w)) (q : Int) (n : Nat) (hq : Hid (q = n)) (hn : n ≤ h.ws.length) :
    Calls Tryz.prog 113 #[.pointer (some ⟨P i, 0, none⟩), .int .i64 q] w fun e w' => ∃ G, e = .returned (.slice (some ⟨G, 0, none⟩) n n) ∧ Sb.CK w' G (h.ws.drop (h.ws.length - n)) n ∧ w.heap.size ≤ G ∧ TPost c L o i P w w' { h with ws := h.ws.take (h.ws.length - n) } := by
  rw [hq.out]
  exact takeList_th c L o i P w h S g r vU H hL n hn

theorem un_cells6 {c : Cx} {n : Nat} {u : Un} {al : Option Addr} {cl : Nat} {w : World} {X : Nat} (hx : w.heap[X]? = some (unO c n u al cl)) : w.cell? ⟨X, 0, none⟩ = some (.int .i64 u.kind) ∧ w.cell? ⟨X, 1, none⟩ = some (.int .i64 u.params) ∧ w.cell? ⟨X, 2, none⟩ = some (.slice al u.locals.length cl) ∧ w.cell? ⟨X, 3, none⟩ = some (.int .i64 u.result) ∧ w.cell? ⟨X, 4, none⟩ = some (.int .i64 u.takes) ∧ w.cell? ⟨X, 5, none⟩ = some (.slice (c.cv n) u.code.length (c.cc n)) := by
  simp [World.cell?, hx]
theorem news1 (W : World) (a : Value) (t : TypeId) : ∀ j u, [a][j]? = some u → (W.alloc (.cells #[a] t)).cell? ((⟨W.heap.size, 0, none⟩ : Addr).add j) = some u := by
  intro j u hu
  rw [add_none, World.cell?_alloc_mark]
  match j, hu with
  | 0, hu => simpa using hu
  | n + 1, hu => simp at hu
theorem ones1 {a : Value} (ha : a.oneCell' = true) : ∀ u ∈ [a], u.oneCell' = true := by
  intro u hu
  simp only [List.mem_cons, List.not_mem_nil, or_false] at hu
  rw [hu]; exact ha

theorem newThread_i (c : Cx) (L : Lab) (o i : Nat) (w : World) (hL : Hid (LOk c.B L w)) (hfr : Hid (∀ b, ¬ ThB L o i b)) (n : Nat) (u : Un) (hu : Hid (c.m.units[n]? = some u)) (al : Option Addr) (cl : Nat) (hp0 : 0 ≤ u.params) (hpl : u.params ≤ u.locals.length) (hl2 : u.locals.length ≤ 200) (ps : List Int) (pl : Nat) (hpl2 : Hid (pl = ps.length)) (hps : ps.length = u.params.toNat) (a : Option Addr) (cp : Nat) (hin : Hid (∀ (j : Nat) x, ps[j]? = some x → ∃ b off, a = some ⟨b, off, none⟩ ∧ b < w.heap.size ∧ w.cell? ⟨b, off + j, none⟩ = some (.int .i64 x))) :
    Calls Tryz.prog 54 #[unV c n u al cl, .slice a pl cp] w fun e w' => ∃ H L', e = .returned (.pointer (some ⟨H, 0, none⟩)) ∧ w.heap.size ≤ H ∧ (∀ P : Nat → Nat, P i = H → ∃ S g r vU, ThIn c L' o i P w' (newTh u n ps) S g r vU) ∧ Ex o i L L' w ∧ LOk c.B L' w' ∧ Below w.heap.size w w' := by
  rw [hpl2.out]
  exact newThread_th c L o i w hL hfr n u hu al cl hp0 hpl hl2 ps hps a cp hin

section
variable {β : Type} (E : Env β) (c : Cx) (vB : Value) (N : Nat) (caps : Array Value) (hN : Hid (Hears E c N caps)) (o T : Nat) (L : Lab) (P : Nat → Nat) (w : World) (t : Tk) (x : β) (vR vO : Value) (H : Hid (St E c vB (.func (.func N) #[] caps) o T L P w t x vR vO)) (hlog : Hid (t.log.length ≤ 2000000))
include hN H hlog


set_option maxRecDepth 100000 in
set_option maxHeartbeats 4000000 in
theorem start_any (n : Nat) (u : Un) (hu : Hid (c.m.units[n]? = some u)) (hp0 : 0 ≤ u.params) (hpw : u.params ≤ t.top.ws.length) (hpl : u.params ≤ u.locals.length) (hl2 : u.locals.length ≤ 200) (hup : Hid (∀ (i : Nat) h k, t.ths[i]? = some h → h.up = some k → k < t.ths.length)) :
    Calls Tryz.prog 99 #[.pointer (some ⟨T, 0, none⟩), .int .i64 n] w fun e w' => e = .returned (.tuple #[]) ∧ WPost E c vB (.func (.func N) #[] caps) o T L w w' (t.start c.m n) x := by
  obtain ⟨i1, hi1, hy0, hy1, hy2⟩ := info_parts Tryz.info100
  obtain ⟨h, S, g, r, vU, hh, hT, htop⟩ := H.out.at
  rw [htop] at hpw
  obtain ⟨ub, uoff, al, cl, hau, hub, _, u0, u1, u2, u3, u4, u5⟩ := H.out.cx.units n u hu.out
  have hnl : n < c.m.units.length := (List.getElem?_eq_some_iff.1 hu.out).1
  have hfew := H.out.cx.few
  have hthf := H.out.tk.few
  obtain ⟨c0, c1, c2, c3, c4, c5, c6, c7, fr⟩ := tk_cells H.out.tk.blk
  rw [hau] at c0
  obtain ⟨ml, hml⟩ : ∃ m, m = c.m.units.length := ⟨_, rfl⟩
  rw [← hml] at c0 hnl hfew
  have n0 : (0 : Int) ≤ (n : Int) := by omega
  have n1 : (n : Int) < (ml : Int) := by omega
  have hTz := lt_of_block H.out.tk.blk
  have hneT : ¬ w.heap.size = T := by omega
  have H0 := Sb.hide (H.out.below ((Below.refl _ w).alloc (Nat.le_refl _) (unO c n u al cl)))
  have HT0 : Hid (ThIn c L o t.hand P (w.alloc (unO c n u al cl)) h S g r vU) := hT.keep (.refl _ _) rfl rfl (fun b hb _ => Below.heap_alloc _ _ _ hb)
  have HH := Sb.hide hh
  have HTP := Sb.hide htop
  have HUN : Hid (unit c.m (n : Int) = u) := by unfold Hid; simp [unit, hu.out]
  have HX0 : Hid ((w.alloc (unO c n u al cl)).heap[w.heap.size]? = some (unO c n u al cl)) := heap_alloc_new w _
  obtain ⟨p, hp⟩ : ∃ p : Nat, p = u.params.toNat := ⟨_, rfl⟩
  have HPI : Hid (u.params = (p : Int)) := by unfold Hid; omega
  have HPN := Sb.hide hp
  have hpn : p ≤ h.ws.length := by omega
  clear hml hh hT htop hp
  go_enter Tryz.func99, Tryz.ntmps99
  go_wp2
  go_region_held3 (fun w' => w'.cell? ⟨T, 4, none⟩ = some (.pointer (some ⟨P t.hand, 0, none⟩)) ∧ w'.cell? ⟨w.heap.size, 1, none⟩ = some (.int .i64 u.params)) (go_keep) ((go_at_call 113; refine (takeList_i c L o t.hand P _ h S g r vU (Sb.hide (HT0.out.drewN 1)) (Sb.hide (H0.out.ok.on (Nat.le_refl _))) _ p HPI hpn).mono ?_; rintro e w1 ⟨G, rfl, hG, hGz, hp1⟩; obtain ⟨L1, s1, q1, k1⟩ := (H0.out.drew).thread HH.out hp1; have HG := Sb.hide hG; have S1 := Sb.hide s1; have E1 := Sb.hide q1; have C1 := Sb.hide k1; have HX1 : Hid (w1.heap[w.heap.size]? = some (unO c n u al cl)) := (k1.block _ (by simp) (fun hx => by have := H.out.ok.new w.heap.size (Nat.le_refl _); unfold WB EB at hx; omega)).trans (heap_alloc_new w _); have c4 : w1.cell? ⟨T, 4, none⟩ = some (.pointer (some ⟨P t.hand, 0, none⟩)) := (by have hc := handCell s1; exact hc); obtain ⟨x0, x1, x2, x3, x4, x5⟩ := un_cells6 HX1.out; clear hG hp1 s1 q1 k1))
  have HL1 : Hid (t.set t.hand { h with ws := h.ws.take (h.ws.length - p) } = t.less p) := by unfold Hid Tk.less Tk.words; rw [HTP.out]
  obtain ⟨t1, ht1⟩ : ∃ t1, t1 = t.less p := ⟨_, rfl⟩
  have S1' : Hid (St E c vB (.func (.func N) #[] caps) o T L1 P w1 t1 x vR vO) := by have := S1.out; rw [HL1.out, ← ht1] at this; exact this
  have HT1 := Sb.hide ht1
  have HLG1 : Hid (t1.log.length ≤ 2000000) := by unfold Hid; rw [ht1]; exact hlog.out
  have hlen1 : t1.ths.length = t.ths.length := by rw [ht1]; simp [Tk.less, Tk.words, Tk.set]
  have HLN := Sb.hide hlen1
  obtain ⟨d0, d1, d2, d3, d4, d5, d6, d7, frd⟩ := tk_cells S1'.out.tk.blk
  obtain ⟨R, cap, hv, hcap, _⟩ := S1'.out.row
  have hv2 : vR = .slice (some ⟨R, 0, none⟩) t.ths.length cap := by rw [hv, hlen1]
  obtain ⟨tl, htl⟩ : ∃ n, n = t.ths.length := ⟨_, rfl⟩
  have HTL := Sb.hide htl
  have htl1 : tl ≤ 31 := by omega
  have htl0 : 0 < tl := by have := H.out.tk.hand; omega
  rw [hv2, ← htl] at d3
  have HV := Sb.hide hv2
  clear S1 ht1 hlen1 hv hv2 htl c0 c1 c2 c3 c5 c6 c7 fr
  by_cases h31 : tl = 31
  · have e31 : (((tl : Int) - 1) == 30) = true := by simp; omega
    have H31 := Sb.hide h31
    clear h31
    go_wp2_with fail
    refine (fall_any E c vB N caps hN o T L1 P _ t1 x vR vO S1' (Sb.hide (Nat.le_succ_of_le HLG1.out)) 5).mono ?_
    rintro e w3 ⟨rfl, hW⟩
    have HW := Sb.hide (hW.trans E1.out C1.out).drew.alloc
    clear hW
    go_wp2
    refine bodyPost_ret (v := .tuple #[]) (by simp [results, Tryz.results99, go_sem]) rfl ⟨rfl, ?_⟩
    unfold Tk.start
    simp only [HUN.out, ← HPN.out]
    rw [if_pos (by have := HTL.out; have := H31.out; omega), ← HT1.out]
    exact HW.out
  · have e31 : (((tl : Int) - 1) == 30) = false := by simp; omega
    have HFR : Hid (∀ b, ¬ ThB L1 o t.ths.length b) := fun b hx => by
      have := S1'.out.tk.labs b hx.1 hx.2.1
      rw [HLN.out] at this
      unfold ThB at hx
      omega
    have HPS : Hid ((h.ws.drop (h.ws.length - p)).length = p) := by unfold Hid; simp; omega
    have HIN : Hid (∀ (j : Nat) y, (h.ws.drop (h.ws.length - p))[j]? = some y → ∃ b off, (some ⟨G, 0, none⟩ : Option Addr) = some ⟨b, off, none⟩ ∧ b < w1.drew.heap.size ∧ w1.drew.cell? ⟨b, off + j, none⟩ = some (.int .i64 y)) := fun j y hy => by
      refine ⟨G, 0, rfl, lt_of_block HG.out.choose_spec.1, ?_⟩
      have := HG.out.cellAt j (.int .i64 y) (by rw [Sb.ints, List.getElem?_map, hy]; rfl)
      rw [add_none] at this
      exact this
    have hXz := lt_of_block HX1.out
    have hTz1 := lt_of_block S1'.out.tk.blk
    have HPL : Hid (p = (h.ws.drop (h.ws.length - p)).length) := HPS.out.symm
    have hX1d : w1.drew.heap[w.heap.size]? = some (unO c n u al cl) := HX1.out
    go_upto_region 4 with fail
    refine wp_region_held_drew (S := fun w' => w'.heap[w.heap.size]? = some (unO c n u al cl)) (by kernel_rfl) hX1d (fun hHeld => ?_)
    refine wpAnyH_take (i := 0) (oi := _) (v := ?_) rfl (by kernel_rfl) (by kernel_rfl) (by kernel_rfl) (fun _ _ _ h => h) (Or.inl ⟨by rfl, ?_⟩) (by assumption) ?_
    rotate_left
    · intro w hSw
      (try dsimp only at hSw)
      go_simp
      (try with_reducible rfl)
    (try simp only [Act.put])
    refine wpAnyH_take (i := 1) (oi := _) (v := ?_) rfl (by kernel_rfl) (by kernel_rfl) (by kernel_rfl) (fun _ _ _ h => h) (Or.inl ⟨by rfl, ?_⟩) (by assumption) ?_
    rotate_left
    · intro w hSw
      (try dsimp only at hSw)
      go_simp
      (try with_reducible rfl)
    (try simp only [Act.put])
    refine wpAnyH_take (i := 2) (oi := _) (v := ?_) rfl (by kernel_rfl) (by kernel_rfl) (by kernel_rfl) (fun _ _ _ h => h) (Or.inl ⟨by rfl, ?_⟩) (by assumption) ?_
    rotate_left
    · intro w hSw
      (try dsimp only at hSw)
      go_simp
      (try with_reducible rfl)
    (try simp only [Act.put])
    refine wpAnyH_take (i := 3) (oi := _) (v := ?_) rfl (by kernel_rfl) (by kernel_rfl) (by kernel_rfl) (fun _ _ _ h => h) (Or.inl ⟨by rfl, ?_⟩) (by assumption) ?_
    rotate_left
    · intro w hSw
      (try dsimp only at hSw)
      go_simp
      (try with_reducible rfl)
    (try simp only [Act.put])
    refine wpAnyH_take (i := 5) (oi := _) (v := unV c n u al cl) rfl (by kernel_rfl) (by kernel_rfl) (by kernel_rfl) (fun _ _ _ h => h) (Or.inl ⟨by rfl, ?_⟩) (by assumption) ?_
    · intro w' hSw
      obtain ⟨y0, y1, y2, y3, y4, y5⟩ := un_cells6 hSw
      clear hSw
      go_simp
    (try simp only [Act.put])
    refine wpAnyH_take (i := 6) (oi := _) (v := ?_) rfl (by kernel_rfl) (by kernel_rfl) (by kernel_rfl) (fun _ _ _ h => h) (Or.inl ⟨by rfl, ?_⟩) (by assumption) ?_
    rotate_left
    · intro w hSw
      (try dsimp only at hSw)
      go_simp
      (try with_reducible rfl)
    (try simp only [Act.put])
    refine wpAnyH_ready (rs := [4, 7]) (by kernel_rfl) (by simp) ?_
    refine AllReadyH.cons (o := _) rfl (fun K hK => ?_) ?_
    · go_simp
      refine hK.out _ _ hX1d (fun hHeld => ?_)
      clear hK K
      refine wpAnyH_ready (rs := [7]) (by kernel_rfl) (by simp) ?_
      refine AllReadyH.cons (o := _) rfl (fun K hK => ?_) AllReadyH.nil
      go_simp
      refine (newThread_i c L1 o t.ths.length w1.drew (Sb.hide S1'.out.drew.ok) HFR n u hu al cl hp0 hpl hl2 (h.ws.drop (h.ws.length - p)) p HPL (by rw [HPS.out]; exact HPN.out) (some ⟨G, 0, none⟩) p HIN).mono ?_
      rintro e w2 ⟨Hn, L2, rfl, hHz, hTh, hE2, hL2, hB2⟩
      have hB2' : Below w1.heap.size w1 w2 := ⟨hB2.os, hB2.tape, hB2.output, hB2.size, hB2.block⟩
      have HX2 : Hid (w2.heap[w.heap.size]? = some (unO c n u al cl)) := (hB2'.block _ hXz).trans HX1.out
      have hXz2 := lt_of_block HX2.out
      have hTz2 : T < w2.heap.size := by have := hB2'.size; omega
      have t3 : w2.cell? ⟨T, 3, none⟩ = some (.slice (some ⟨R, 0, none⟩) tl cap) := (hB2'.cell (p := ⟨T, 3, none⟩) hTz1).trans d3
      have HTH := Sb.hide hTh
      have HE2 := Sb.hide hE2
      have HL2 := Sb.hide hL2
      have HB2 := Sb.hide hB2'
      clear hHz hTh hE2 hL2 hB2 hB2'
      refine hK.out _ _ HX2.out (fun hHeld => ?_)
      clear hK K
      refine wpAnyH_ready (rs := [8]) (by kernel_rfl) (by simp) ?_
      refine AllReadyH.cons (o := _) rfl (fun K hK => ?_) AllReadyH.nil
      go_simp
      refine hK.out _ _ ((Below.heap_alloc _ _ _ hXz2).trans HX2.out) (fun hHeld => ?_)
      clear hK K
      refine wpAnyH_ready (rs := [9]) (by kernel_rfl) (by simp) ?_
      refine AllReadyH.cons (o := _) rfl (fun K hK => ?_) AllReadyH.nil
      have HRW : Hid (w2.ownsRow 0 100 1 (.slice (some ⟨R, 0, none⟩) tl cap) tl (ptrs P tl)) := by
        have := own_keep (w' := w2) S1'.out.tk.rows (fun b hb => HB2.out.block b (S1'.out.tk.rows.lt b hb).2)
        rw [HLN.out, HV.out, ← HTL.out] at this
        exact this
      refine step_append_where rfl (.tmp 33) (.tmp 37) 99 rfl 0 100 i1 (.pointer none) 1 8 Tryz.underlying99 hi1 hy0 hy1 hy2 rfl (by decide) (.slice (some ⟨R, 0, none⟩) tl cap) tl (ptrs P tl) rfl (HRW.out.alloc _) ⟨_, 0, none⟩ 1 1 [.pointer (some ⟨Hn, 0, none⟩)] rfl rfl (news1 w2 _ _) (ones1 rfl) (by decide) (by unfold maxLen; omega) (by omega) (Nat.zero_le _) ?_
      intro R4 cap4 w4 hown4 hg4 hR4
      have hW5 : WPost E c vB (.func (.func N) #[] caps) o T L1 w1 (w4.setCell ⟨T, 3, none⟩ (.slice (some ⟨R4, 0, none⟩) (tl + 1) cap4)) { t1 with ths := t1.ths ++ [newTh u n (h.ws.drop (h.ws.length - p))] } x := by
        have e0 : t1.ths.length = tl := by rw [HLN.out, HTL.out]
        have := S1'.out.started (L' := L2) (w2 := w2) (w4 := w4) (h := newTh u n (h.ws.drop (h.ws.length - p))) (Hn := Hn) (R := R4) (cap := cap4) (ob := .cells #[.pointer (some ⟨Hn, 0, none⟩)] 100) (by omega) (by
          intro i h' k hh hk
          rw [HLN.out]
          have ht := HT1.out
          unfold Tk.less Tk.words at ht
          rw [HTP.out] at ht
          rw [ht] at hh
          simp only [Tk.set, List.getElem?_set] at hh
          split at hh
          · split at hh
            · cases hh; exact hup.out _ _ _ HH.out hk
            · cases hh
          · exact hup.out _ _ _ hh hk) (by rw [HLN.out]; exact HTH.out) (by rw [HLN.out]; exact HE2.out) HL2.out HB2.out (by rw [e0]; exact hown4) (by rw [HV.out, ← HTL.out]; exact hg4) (by rw [HV.out, ← HTL.out]; exact hR4)
        rw [e0] at this
        exact this
      have hX4 : (w4.setCell ⟨T, 3, none⟩ (.slice (some ⟨R4, 0, none⟩) (tl + 1) cap4)).heap[w.heap.size]? = some (unO c n u al cl) := by
        obtain ⟨_, _, _, _, _, _, k5⟩ := hW5
        exact (k5.block _ hXz (fun hx => by
          have e := E1.out.1 w.heap.size (by simp)
          have := H.out.ok.new w.heap.size (Nat.le_refl _)
          unfold WB EB at hx
          rw [e] at hx
          omega)).trans HX1.out
      have hX4b : w4.heap[w.heap.size]? = some (unO c n u al cl) := (Below.heap_setCell w4 ⟨T, 3, none⟩ _ _ (by show w.heap.size ≠ T; omega)).symm.trans hX4
      have hTbk : w4.heap[T]? = some (tkO c vB (.func (.func N) #[] caps) (.slice (some ⟨R, 0, none⟩) tl cap) (P t1.hand) vO t1.over t1.trap) := by
        have hne : R ≠ T := fun e => by
          have a := S1'.out.tk.lR R (by rw [HV.out]; rfl)
          have b := S1'.out.tk.lT
          rw [e, b] at a
          cases a
        have := S1'.out.tk.blk
        rw [HV.out, ← HTL.out] at this
        exact (hg4.block T (by simp; omega) (fun e => hne (by simpa [Value.ownBlock] using e.symm))).trans ((Below.heap_alloc _ _ _ hTz2).trans ((HB2.out.block T hTz1).trans this))
      have fr4 : w4.frozen? ⟨T, 3, none⟩ = false := by simp [World.frozen?, hTbk]
      have q4 : w4.cell? ⟨T, 3, none⟩ = some (.slice (some ⟨R, 0, none⟩) tl cap) := by simp [World.cell?, hTbk]
      have HW5 := Sb.hide hW5
      have HX4 := Sb.hide hX4
      clear hown4 hg4 hR4 hW5 hX4 hTbk t3
      refine hK.out _ _ hX4b (fun hHeld => ?_)
      clear hK K
      simp only [Act.put]
      refine wpAnyH_take (i := 10) (oi := _) (v := ?_) rfl (by kernel_rfl) (by kernel_rfl) (by kernel_rfl) (fun _ _ _ h => h) (Or.inl ⟨by rfl, ?_⟩) (by assumption) ?_
      rotate_left
      · intro w hSw
        (try dsimp only at hSw)
        go_simp
        (try with_reducible rfl)
      (try simp only [Act.put])
      refine wpAnyH_take (i := 11) (oi := _) (v := ?_) rfl (by kernel_rfl) (by kernel_rfl) (by kernel_rfl) (fun _ _ _ h => h) (Or.inl ⟨by rfl, ?_⟩) (by assumption) ?_
      rotate_left
      · intro w hSw
        (try dsimp only at hSw)
        go_simp
        (try with_reducible rfl)
      (try simp only [Act.put])
      refine wpAnyH_ready (rs := [12]) (by kernel_rfl) (by simp) ?_
      refine AllReadyH.cons (o := _) rfl (fun K hK => ?_) AllReadyH.nil
      go_simp
      refine hK.out _ _ HX4.out (fun hHeld => ?_)
      clear hK K
      refine wpAnyH_done (by kernel_rfl) ?_ _
      obtain ⟨L5, P5, vR5, vO5, s5, q5, k5⟩ := HW5.out
      obtain ⟨_, _, f2, _, _, _, _, _, _⟩ := tk_cells s5.tk.blk
      have S5 := Sb.hide s5
      have E5 := Sb.hide q5
      have C5 := Sb.hide k5
      have hent := hN.out.enter
      clear s5 q5 k5 d0 d1 d2 d3 d4 d5 d6 d7 frd
      go_wp2_with fail
      refine (hN.out.call ⟨6, 0, n⟩ L5 _ _ _ (Sb.hide S5.out.en) (Sb.hide S5.out.ok) (Nat.le_succ_of_le HLG1.out)).mono ?_
      rintro e w6 ⟨rfl, L6, h1, h2, h3, h4⟩
      obtain ⟨L7, P7, vR7, vO7, s7, q7, k7⟩ := S5.out.heard h1 h2 h3 h4
      obtain ⟨_, _, _, g3, _, _, _, _, _⟩ := tk_cells s7.tk.blk
      obtain ⟨R7, cap7, hv7, hcap7, _⟩ := s7.row
      have e7 : (({ t1 with ths := t1.ths ++ [newTh u n (h.ws.drop (h.ws.length - p))] } : Tk).note ⟨6, 0, n⟩).ths.length = tl + 1 := by
        show (t1.ths ++ [newTh u n (h.ws.drop (h.ws.length - p))]).length = tl + 1
        rw [List.length_append, HLN.out, ← HTL.out]
        rfl
      rw [hv7, e7] at g3
      have S7 := Sb.hide s7
      have E7 := Sb.hide q7
      have C7 := Sb.hide k7
      clear h1 h2 h3 h4 s7 q7 k7 hv7 hcap7 e7 f2
      go_wp2_with fail
      refine (put_any E c vB N caps hN o T L7 P7 _ _ x vR7 vO7 S7 (Sb.hide (by have h1 := HLG1.out; show (t1.log ++ [_]).length ≤ 2000001; rw [List.length_append]; simp; omega)) tl).mono ?_
      rintro e w8 ⟨rfl, hW⟩
      have HW := Sb.hide (((hW.trans E7.out C7.out).trans E5.out C5.out).trans E1.out C1.out).drew.alloc
      clear hW
      go_wp2
      go_end0
      refine ⟨rfl, ?_⟩
      unfold Tk.start
      simp only [HUN.out, ← HPN.out, HTP.out]
      rw [if_neg (by have := HTL.out; omega), ← HT1.out, ← HTL.out]
      exact HW.out
    refine AllReadyH.cons (o := _) rfl (fun K hK => ?_) AllReadyH.nil
    go_simp
    refine (newThread_i c L1 o t.ths.length w1.drew (Sb.hide S1'.out.drew.ok) HFR n u hu al cl hp0 hpl hl2 (h.ws.drop (h.ws.length - p)) p HPL (by rw [HPS.out]; exact HPN.out) (some ⟨G, 0, none⟩) p HIN).mono ?_
    rintro e w2 ⟨Hn, L2, rfl, hHz, hTh, hE2, hL2, hB2⟩
    have hB2' : Below w1.heap.size w1 w2 := ⟨hB2.os, hB2.tape, hB2.output, hB2.size, hB2.block⟩
    have HX2 : Hid (w2.heap[w.heap.size]? = some (unO c n u al cl)) := (hB2'.block _ hXz).trans HX1.out
    have hXz2 := lt_of_block HX2.out
    have hTz2 : T < w2.heap.size := by have := hB2'.size; omega
    have t3 : w2.cell? ⟨T, 3, none⟩ = some (.slice (some ⟨R, 0, none⟩) tl cap) := (hB2'.cell (p := ⟨T, 3, none⟩) hTz1).trans d3
    have HTH := Sb.hide hTh
    have HE2 := Sb.hide hE2
    have HL2 := Sb.hide hL2
    have HB2 := Sb.hide hB2'
    clear hHz hTh hE2 hL2 hB2 hB2'
    refine hK.out _ _ HX2.out (fun hHeld => ?_)
    clear hK K
    refine wpAnyH_ready (rs := [4, 8]) (by kernel_rfl) (by simp) ?_
    refine AllReadyH.cons (o := _) rfl (fun K hK => ?_) ?_
    · go_simp
      refine hK.out _ _ HX2.out (fun hHeld => ?_)
      clear hK K
      refine wpAnyH_ready (rs := [8]) (by kernel_rfl) (by simp) ?_
      refine AllReadyH.cons (o := _) rfl (fun K hK => ?_) AllReadyH.nil
      go_simp
      refine hK.out _ _ ((Below.heap_alloc _ _ _ hXz2).trans HX2.out) (fun hHeld => ?_)
      clear hK K
      refine wpAnyH_ready (rs := [9]) (by kernel_rfl) (by simp) ?_
      refine AllReadyH.cons (o := _) rfl (fun K hK => ?_) AllReadyH.nil
      have HRW : Hid (w2.ownsRow 0 100 1 (.slice (some ⟨R, 0, none⟩) tl cap) tl (ptrs P tl)) := by
        have := own_keep (w' := w2) S1'.out.tk.rows (fun b hb => HB2.out.block b (S1'.out.tk.rows.lt b hb).2)
        rw [HLN.out, HV.out, ← HTL.out] at this
        exact this
      refine step_append_where rfl (.tmp 33) (.tmp 37) 99 rfl 0 100 i1 (.pointer none) 1 8 Tryz.underlying99 hi1 hy0 hy1 hy2 rfl (by decide) (.slice (some ⟨R, 0, none⟩) tl cap) tl (ptrs P tl) rfl (HRW.out.alloc _) ⟨_, 0, none⟩ 1 1 [.pointer (some ⟨Hn, 0, none⟩)] rfl rfl (news1 w2 _ _) (ones1 rfl) (by decide) (by unfold maxLen; omega) (by omega) (Nat.zero_le _) ?_
      intro R4 cap4 w4 hown4 hg4 hR4
      have hW5 : WPost E c vB (.func (.func N) #[] caps) o T L1 w1 (w4.setCell ⟨T, 3, none⟩ (.slice (some ⟨R4, 0, none⟩) (tl + 1) cap4)) { t1 with ths := t1.ths ++ [newTh u n (h.ws.drop (h.ws.length - p))] } x := by
        have e0 : t1.ths.length = tl := by rw [HLN.out, HTL.out]
        have := S1'.out.started (L' := L2) (w2 := w2) (w4 := w4) (h := newTh u n (h.ws.drop (h.ws.length - p))) (Hn := Hn) (R := R4) (cap := cap4) (ob := .cells #[.pointer (some ⟨Hn, 0, none⟩)] 100) (by omega) (by
          intro i h' k hh hk
          rw [HLN.out]
          have ht := HT1.out
          unfold Tk.less Tk.words at ht
          rw [HTP.out] at ht
          rw [ht] at hh
          simp only [Tk.set, List.getElem?_set] at hh
          split at hh
          · split at hh
            · cases hh; exact hup.out _ _ _ HH.out hk
            · cases hh
          · exact hup.out _ _ _ hh hk) (by rw [HLN.out]; exact HTH.out) (by rw [HLN.out]; exact HE2.out) HL2.out HB2.out (by rw [e0]; exact hown4) (by rw [HV.out, ← HTL.out]; exact hg4) (by rw [HV.out, ← HTL.out]; exact hR4)
        rw [e0] at this
        exact this
      have hX4 : (w4.setCell ⟨T, 3, none⟩ (.slice (some ⟨R4, 0, none⟩) (tl + 1) cap4)).heap[w.heap.size]? = some (unO c n u al cl) := by
        obtain ⟨_, _, _, _, _, _, k5⟩ := hW5
        exact (k5.block _ hXz (fun hx => by
          have e := E1.out.1 w.heap.size (by simp)
          have := H.out.ok.new w.heap.size (Nat.le_refl _)
          unfold WB EB at hx
          rw [e] at hx
          omega)).trans HX1.out
      have hX4b : w4.heap[w.heap.size]? = some (unO c n u al cl) := (Below.heap_setCell w4 ⟨T, 3, none⟩ _ _ (by show w.heap.size ≠ T; omega)).symm.trans hX4
      have hTbk : w4.heap[T]? = some (tkO c vB (.func (.func N) #[] caps) (.slice (some ⟨R, 0, none⟩) tl cap) (P t1.hand) vO t1.over t1.trap) := by
        have hne : R ≠ T := fun e => by
          have a := S1'.out.tk.lR R (by rw [HV.out]; rfl)
          have b := S1'.out.tk.lT
          rw [e, b] at a
          cases a
        have := S1'.out.tk.blk
        rw [HV.out, ← HTL.out] at this
        exact (hg4.block T (by simp; omega) (fun e => hne (by simpa [Value.ownBlock] using e.symm))).trans ((Below.heap_alloc _ _ _ hTz2).trans ((HB2.out.block T hTz1).trans this))
      have fr4 : w4.frozen? ⟨T, 3, none⟩ = false := by simp [World.frozen?, hTbk]
      have q4 : w4.cell? ⟨T, 3, none⟩ = some (.slice (some ⟨R, 0, none⟩) tl cap) := by simp [World.cell?, hTbk]
      have HW5 := Sb.hide hW5
      have HX4 := Sb.hide hX4
      clear hown4 hg4 hR4 hW5 hX4 hTbk t3
      refine hK.out _ _ hX4b (fun hHeld => ?_)
      clear hK K
      simp only [Act.put]
      refine wpAnyH_take (i := 10) (oi := _) (v := ?_) rfl (by kernel_rfl) (by kernel_rfl) (by kernel_rfl) (fun _ _ _ h => h) (Or.inl ⟨by rfl, ?_⟩) (by assumption) ?_
      rotate_left
      · intro w hSw
        (try dsimp only at hSw)
        go_simp
        (try with_reducible rfl)
      (try simp only [Act.put])
      refine wpAnyH_take (i := 11) (oi := _) (v := ?_) rfl (by kernel_rfl) (by kernel_rfl) (by kernel_rfl) (fun _ _ _ h => h) (Or.inl ⟨by rfl, ?_⟩) (by assumption) ?_
      rotate_left
      · intro w hSw
        (try dsimp only at hSw)
        go_simp
        (try with_reducible rfl)
      (try simp only [Act.put])
      refine wpAnyH_ready (rs := [12]) (by kernel_rfl) (by simp) ?_
      refine AllReadyH.cons (o := _) rfl (fun K hK => ?_) AllReadyH.nil
      go_simp
      refine hK.out _ _ HX4.out (fun hHeld => ?_)
      clear hK K
      refine wpAnyH_done (by kernel_rfl) ?_ _
      obtain ⟨L5, P5, vR5, vO5, s5, q5, k5⟩ := HW5.out
      obtain ⟨_, _, f2, _, _, _, _, _, _⟩ := tk_cells s5.tk.blk
      have S5 := Sb.hide s5
      have E5 := Sb.hide q5
      have C5 := Sb.hide k5
      have hent := hN.out.enter
      clear s5 q5 k5 d0 d1 d2 d3 d4 d5 d6 d7 frd
      go_wp2_with fail
      refine (hN.out.call ⟨6, 0, n⟩ L5 _ _ _ (Sb.hide S5.out.en) (Sb.hide S5.out.ok) (Nat.le_succ_of_le HLG1.out)).mono ?_
      rintro e w6 ⟨rfl, L6, h1, h2, h3, h4⟩
      obtain ⟨L7, P7, vR7, vO7, s7, q7, k7⟩ := S5.out.heard h1 h2 h3 h4
      obtain ⟨_, _, _, g3, _, _, _, _, _⟩ := tk_cells s7.tk.blk
      obtain ⟨R7, cap7, hv7, hcap7, _⟩ := s7.row
      have e7 : (({ t1 with ths := t1.ths ++ [newTh u n (h.ws.drop (h.ws.length - p))] } : Tk).note ⟨6, 0, n⟩).ths.length = tl + 1 := by
        show (t1.ths ++ [newTh u n (h.ws.drop (h.ws.length - p))]).length = tl + 1
        rw [List.length_append, HLN.out, ← HTL.out]
        rfl
      rw [hv7, e7] at g3
      have S7 := Sb.hide s7
      have E7 := Sb.hide q7
      have C7 := Sb.hide k7
      clear h1 h2 h3 h4 s7 q7 k7 hv7 hcap7 e7 f2
      go_wp2_with fail
      refine (put_any E c vB N caps hN o T L7 P7 _ _ x vR7 vO7 S7 (Sb.hide (by have h1 := HLG1.out; show (t1.log ++ [_]).length ≤ 2000001; rw [List.length_append]; simp; omega)) tl).mono ?_
      rintro e w8 ⟨rfl, hW⟩
      have HW := Sb.hide (((hW.trans E7.out C7.out).trans E5.out C5.out).trans E1.out C1.out).drew.alloc
      clear hW
      go_wp2
      go_end0
      refine ⟨rfl, ?_⟩
      unfold Tk.start
      simp only [HUN.out, ← HPN.out, HTP.out]
      rw [if_neg (by have := HTL.out; omega), ← HT1.out, ← HTL.out]
      exact HW.out
    refine AllReadyH.cons (o := _) rfl (fun K hK => ?_) AllReadyH.nil
    go_simp
    refine hK.out _ _ ((Below.heap_alloc _ _ _ hXz2).trans HX2.out) (fun hHeld => ?_)
    clear hK K
    have ta : (w2.alloc (.cells #[.pointer (some ⟨Hn, 0, none⟩)] 100)).cell? ⟨T, 3, none⟩ = some (.slice (some ⟨R, 0, none⟩) tl cap) := (World.cell?_of_block (Below.heap_alloc _ _ _ hTz2)).trans t3
    refine wpAnyH_ready (rs := [4]) (by kernel_rfl) (by simp) ?_
    refine AllReadyH.cons (o := _) rfl (fun K hK => ?_) AllReadyH.nil
    go_simp
    refine hK.out _ _ ((Below.heap_alloc _ _ _ hXz2).trans HX2.out) (fun hHeld => ?_)
    clear hK K
    refine wpAnyH_ready (rs := [9]) (by kernel_rfl) (by simp) ?_
    refine AllReadyH.cons (o := _) rfl (fun K hK => ?_) AllReadyH.nil
    have HRW : Hid (w2.ownsRow 0 100 1 (.slice (some ⟨R, 0, none⟩) tl cap) tl (ptrs P tl)) := by
      have := own_keep (w' := w2) S1'.out.tk.rows (fun b hb => HB2.out.block b (S1'.out.tk.rows.lt b hb).2)
      rw [HLN.out, HV.out, ← HTL.out] at this
      exact this
    refine step_append_where rfl (.tmp 33) (.tmp 37) 99 rfl 0 100 i1 (.pointer none) 1 8 Tryz.underlying99 hi1 hy0 hy1 hy2 rfl (by decide) (.slice (some ⟨R, 0, none⟩) tl cap) tl (ptrs P tl) rfl (HRW.out.alloc _) ⟨_, 0, none⟩ 1 1 [.pointer (some ⟨Hn, 0, none⟩)] rfl rfl (news1 w2 _ _) (ones1 rfl) (by decide) (by unfold maxLen; omega) (by omega) (Nat.zero_le _) ?_
    intro R4 cap4 w4 hown4 hg4 hR4
    have hW5 : WPost E c vB (.func (.func N) #[] caps) o T L1 w1 (w4.setCell ⟨T, 3, none⟩ (.slice (some ⟨R4, 0, none⟩) (tl + 1) cap4)) { t1 with ths := t1.ths ++ [newTh u n (h.ws.drop (h.ws.length - p))] } x := by
      have e0 : t1.ths.length = tl := by rw [HLN.out, HTL.out]
      have := S1'.out.started (L' := L2) (w2 := w2) (w4 := w4) (h := newTh u n (h.ws.drop (h.ws.length - p))) (Hn := Hn) (R := R4) (cap := cap4) (ob := .cells #[.pointer (some ⟨Hn, 0, none⟩)] 100) (by omega) (by
        intro i h' k hh hk
        rw [HLN.out]
        have ht := HT1.out
        unfold Tk.less Tk.words at ht
        rw [HTP.out] at ht
        rw [ht] at hh
        simp only [Tk.set, List.getElem?_set] at hh
        split at hh
        · split at hh
          · cases hh; exact hup.out _ _ _ HH.out hk
          · cases hh
        · exact hup.out _ _ _ hh hk) (by rw [HLN.out]; exact HTH.out) (by rw [HLN.out]; exact HE2.out) HL2.out HB2.out (by rw [e0]; exact hown4) (by rw [HV.out, ← HTL.out]; exact hg4) (by rw [HV.out, ← HTL.out]; exact hR4)
      rw [e0] at this
      exact this
    have hX4 : (w4.setCell ⟨T, 3, none⟩ (.slice (some ⟨R4, 0, none⟩) (tl + 1) cap4)).heap[w.heap.size]? = some (unO c n u al cl) := by
      obtain ⟨_, _, _, _, _, _, k5⟩ := hW5
      exact (k5.block _ hXz (fun hx => by
        have e := E1.out.1 w.heap.size (by simp)
        have := H.out.ok.new w.heap.size (Nat.le_refl _)
        unfold WB EB at hx
        rw [e] at hx
        omega)).trans HX1.out
    have hX4b : w4.heap[w.heap.size]? = some (unO c n u al cl) := (Below.heap_setCell w4 ⟨T, 3, none⟩ _ _ (by show w.heap.size ≠ T; omega)).symm.trans hX4
    have hTbk : w4.heap[T]? = some (tkO c vB (.func (.func N) #[] caps) (.slice (some ⟨R, 0, none⟩) tl cap) (P t1.hand) vO t1.over t1.trap) := by
      have hne : R ≠ T := fun e => by
        have a := S1'.out.tk.lR R (by rw [HV.out]; rfl)
        have b := S1'.out.tk.lT
        rw [e, b] at a
        cases a
      have := S1'.out.tk.blk
      rw [HV.out, ← HTL.out] at this
      exact (hg4.block T (by simp; omega) (fun e => hne (by simpa [Value.ownBlock] using e.symm))).trans ((Below.heap_alloc _ _ _ hTz2).trans ((HB2.out.block T hTz1).trans this))
    have fr4 : w4.frozen? ⟨T, 3, none⟩ = false := by simp [World.frozen?, hTbk]
    have q4 : w4.cell? ⟨T, 3, none⟩ = some (.slice (some ⟨R, 0, none⟩) tl cap) := by simp [World.cell?, hTbk]
    have HW5 := Sb.hide hW5
    have HX4 := Sb.hide hX4
    clear hown4 hg4 hR4 hW5 hX4 hTbk t3
    refine hK.out _ _ hX4b (fun hHeld => ?_)
    clear hK K
    simp only [Act.put]
    refine wpAnyH_take (i := 10) (oi := _) (v := ?_) rfl (by kernel_rfl) (by kernel_rfl) (by kernel_rfl) (fun _ _ _ h => h) (Or.inl ⟨by rfl, ?_⟩) (by assumption) ?_
    rotate_left
    · intro w hSw
      (try dsimp only at hSw)
      go_simp
      (try with_reducible rfl)
    (try simp only [Act.put])
    refine wpAnyH_take (i := 11) (oi := _) (v := ?_) rfl (by kernel_rfl) (by kernel_rfl) (by kernel_rfl) (fun _ _ _ h => h) (Or.inl ⟨by rfl, ?_⟩) (by assumption) ?_
    rotate_left
    · intro w hSw
      (try dsimp only at hSw)
      go_simp
      (try with_reducible rfl)
    (try simp only [Act.put])
    refine wpAnyH_ready (rs := [12]) (by kernel_rfl) (by simp) ?_
    refine AllReadyH.cons (o := _) rfl (fun K hK => ?_) AllReadyH.nil
    go_simp
    refine hK.out _ _ HX4.out (fun hHeld => ?_)
    clear hK K
    refine wpAnyH_done (by kernel_rfl) ?_ _
    obtain ⟨L5, P5, vR5, vO5, s5, q5, k5⟩ := HW5.out
    obtain ⟨_, _, f2, _, _, _, _, _, _⟩ := tk_cells s5.tk.blk
    have S5 := Sb.hide s5
    have E5 := Sb.hide q5
    have C5 := Sb.hide k5
    have hent := hN.out.enter
    clear s5 q5 k5 d0 d1 d2 d3 d4 d5 d6 d7 frd
    go_wp2_with fail
    refine (hN.out.call ⟨6, 0, n⟩ L5 _ _ _ (Sb.hide S5.out.en) (Sb.hide S5.out.ok) (Nat.le_succ_of_le HLG1.out)).mono ?_
    rintro e w6 ⟨rfl, L6, h1, h2, h3, h4⟩
    obtain ⟨L7, P7, vR7, vO7, s7, q7, k7⟩ := S5.out.heard h1 h2 h3 h4
    obtain ⟨_, _, _, g3, _, _, _, _, _⟩ := tk_cells s7.tk.blk
    obtain ⟨R7, cap7, hv7, hcap7, _⟩ := s7.row
    have e7 : (({ t1 with ths := t1.ths ++ [newTh u n (h.ws.drop (h.ws.length - p))] } : Tk).note ⟨6, 0, n⟩).ths.length = tl + 1 := by
      show (t1.ths ++ [newTh u n (h.ws.drop (h.ws.length - p))]).length = tl + 1
      rw [List.length_append, HLN.out, ← HTL.out]
      rfl
    rw [hv7, e7] at g3
    have S7 := Sb.hide s7
    have E7 := Sb.hide q7
    have C7 := Sb.hide k7
    clear h1 h2 h3 h4 s7 q7 k7 hv7 hcap7 e7 f2
    go_wp2_with fail
    refine (put_any E c vB N caps hN o T L7 P7 _ _ x vR7 vO7 S7 (Sb.hide (by have h1 := HLG1.out; show (t1.log ++ [_]).length ≤ 2000001; rw [List.length_append]; simp; omega)) tl).mono ?_
    rintro e w8 ⟨rfl, hW⟩
    have HW := Sb.hide (((hW.trans E7.out C7.out).trans E5.out C5.out).trans E1.out C1.out).drew.alloc
    clear hW
    go_wp2
    go_end0
    refine ⟨rfl, ?_⟩
    unfold Tk.start
    simp only [HUN.out, ← HPN.out, HTP.out]
    rw [if_neg (by have := HTL.out; omega), ← HT1.out, ← HTL.out]
    exact HW.out
end
end Go.Proofs.YtekjhefmhhcboaaGreat.Vw

/- The walks of resume, and of putting out. -/
namespace Go.Proofs.YtekjhefmhhcboaaGreat.Vw
open Go.RowKit Vf Vm

theorem taken_v {β : Type} (E : Env β) (c : Cx) (vB ev : Value) (o T : Nat) (L : Lab) (P : Nat → Nat) (w : World) (t : Tk) (x : β) (vR vO : Value) (H : Hid (St E c vB ev o T L P w t x vR vO)) (v : Int) (hv : Hid (t.last = v)) :
    Calls Tryz.prog 76 #[.pointer (some ⟨P t.hand, 0, none⟩)] w fun e w' => e = .returned (.int .i64 v) ∧ PPost E c vB ev o T L P w w' t.cut x vR vO := by
  rw [← hv.out]
  exact taken E c vB ev o T L P w t x vR vO H
theorem cut_len (t : Tk) : t.cut.ths.length = t.ths.length := by simp [Tk.cut, Tk.words, Tk.set]

theorem row_at {β : Type} {E : Env β} {c : Cx} {vB ev : Value} {o T : Nat} {L : Lab} {P : Nat → Nat} {w : World} {t : Tk} {x : β} {vR vO : Value} {R nn cap : Nat} (H : St E c vB ev o T L P w t x vR vO) (hv : vR = .slice (some ⟨R, 0, none⟩) nn cap) (j : Nat) (hj : j < t.ths.length) : w.cell? ⟨R, j, none⟩ = some (.pointer (some ⟨P j, 0, none⟩)) := by
  obtain ⟨R', cap', hv', _, hr'⟩ := H.row
  rw [hv] at hv'
  simp at hv'
  rw [hv'.1]
  exact hr' j hj
theorem th_at {β : Type} {E : Env β} {c : Cx} {vB ev : Value} {o T : Nat} {L : Lab} {P : Nat → Nat} {w : World} {t : Tk} {x : β} {vR vO : Value} (H : St E c vB ev o T L P w t x vR vO) (j : Nat) (hj : j < t.ths.length) : ∃ h S g r vU, t.ths[j]? = some h ∧ ThIn c L o j P w h S g r vU ∧ h.stands = (t.th j).stands := by
  obtain ⟨h, hh⟩ : ∃ h, t.ths[j]? = some h := ⟨_, List.getElem?_eq_getElem hj⟩
  obtain ⟨S, g, r, vU, hT⟩ := H.tk.ths _ _ hh
  exact ⟨h, S, g, r, vU, hh, hT, by simp [Tk.th, hh]⟩

section
variable {β : Type} (E : Env β) (c : Cx) (vB : Value) (N : Nat) (caps : Array Value) (hN : Hid (Hears E c N caps)) (o T : Nat) (L : Lab) (P : Nat → Nat) (w : World) (t : Tk) (x : β) (vR vO : Value) (H : Hid (St E c vB (.func (.func N) #[] caps) o T L P w t x vR vO)) (hlog : Hid (t.log.length ≤ 2000001))
include hN H hlog


set_option maxHeartbeats 2000000 in
theorem resume_any (hj0 : Hid (0 ≤ t.cut.last ∧ t.cut.last.toNat < t.ths.length)) :
    Calls Tryz.prog 100 #[.pointer (some ⟨T, 0, none⟩)] w fun e w' => e = .returned (.tuple #[]) ∧ WPost E c vB (.func (.func N) #[] caps) o T L w w' t.resume x := by
  obtain ⟨j, hj⟩ : ∃ j : Nat, j = t.cut.last.toNat := ⟨_, rfl⟩
  have HJ : Hid (t.cut.last = (j : Int)) := by unfold Hid; have := hj0.out; omega
  have HJN := Sb.hide hj
  obtain ⟨R, cap, hv, hcap, _⟩ := H.out.row
  obtain ⟨nn, hnn⟩ : ∃ n, n = t.ths.length := ⟨_, rfl⟩
  have hjl : j < nn := by have := hj0.out; omega
  have hnf : nn ≤ 31 := by have := H.out.tk.few; omega
  have n0 : (0 : Int) ≤ (j : Int) := by omega
  have n1 : (j : Int) < (nn : Int) := by omega
  rw [← hnn] at hv
  have HV := Sb.hide hv
  have HNN := Sb.hide hnn
  obtain ⟨c0, c1, c2, c3, c4, c5, c6, c7, fr⟩ := tk_cells H.out.tk.blk
  obtain ⟨st, hst⟩ : ∃ st, st = (t.cut.cut.th j).stands := ⟨_, rfl⟩
  have HST := Sb.hide hst
  clear hv hnn hj hcap hst
  have HRS : Hid (t.resume = if st = 3 then t.cut.cut.fall 2 else if st = 2 then t.cut.cut.fall 3 else if st = 1 then ({ t.cut.cut.set j { t.cut.cut.th j with stands := 2, up := some t.cut.cut.hand } with hand := j } : Tk).put t.last else ({ t.cut.cut.set j { t.cut.cut.th j with stands := 2, up := some t.cut.cut.hand } with hand := j } : Tk)) := by
    unfold Hid Tk.resume
    rw [HST.out, HJN.out]
  by_cases h3 : st = 3
  · have H3 := Sb.hide h3
    go_enter Tryz.func100, Tryz.ntmps100
    go_wp2_with fail
    refine (taken E c vB (.func (.func N) #[] caps) o T L P _ t x vR vO H).mono ?_
    rintro e w1 ⟨rfl, L1, s1, q1, k1⟩
    have b3 := (tk_cells s1.tk.blk).2.2.2.1
    rw [HV.out] at b3
    have b4 : w1.cell? ⟨T, 4, none⟩ = some (.pointer (some ⟨P t.hand, 0, none⟩)) := by have hc := handCell s1; exact hc
    have br : w1.cell? ⟨R, j, none⟩ = some (.pointer (some ⟨P j, 0, none⟩)) := by
      obtain ⟨R', cap', hv', _, hr'⟩ := s1.row
      rw [HV.out] at hv'
      simp at hv'
      rw [hv'.1]
      exact hr' j (by rw [cut_len, ← HNN.out]; exact hjl)
    have S1 := Sb.hide s1
    have E1 := Sb.hide q1
    have C1 := Sb.hide k1
    clear s1 q1 k1 c0 c1 c2 c3 c4 c5 c6 c7 fr
    go_wp2
    go_region_held3 (fun w' => w'.cell? ⟨T, 3, none⟩ = some (.slice (some ⟨R, 0, none⟩) nn cap) ∧ w'.cell? ⟨T, 4, none⟩ = some (.pointer (some ⟨P t.hand, 0, none⟩)) ∧ w'.cell? ⟨R, j, none⟩ = some (.pointer (some ⟨P j, 0, none⟩))) (go_keep) ((go_at_call 76; refine (taken_v E c vB (.func (.func N) #[] caps) o T L1 P _ t.cut x vR vO (Sb.hide S1.out.drew) j HJ).mono ?_; rintro e w2 ⟨rfl, L2, s2, q2, k2⟩; have S2 := Sb.hide s2; have E2 := Sb.hide q2; have C2 := Sb.hide k2; have b3 := (tk_cells s2.tk.blk).2.2.2.1; rw [HV.out] at b3; have b4 : w2.cell? ⟨T, 4, none⟩ = some (.pointer (some ⟨P t.hand, 0, none⟩)) := (by have hc := handCell s2; exact hc); have br : w2.cell? ⟨R, j, none⟩ = some (.pointer (some ⟨P j, 0, none⟩)) := row_at s2 HV.out j (by rw [cut_len, cut_len, ← HNN.out]; exact hjl); clear s2 q2 k2))
    obtain ⟨hx, Sx, gx, rx, vUx, hhx, hTx, hxs⟩ := th_at S2.out j (by rw [cut_len, cut_len, ← HNN.out]; exact hjl)
    obtain ⟨p0, p1, p2, p3⟩ := hTx.cells
    rw [hxs] at p2
    have HHX := Sb.hide hhx
    have HTX := Sb.hide hTx
    have HXS := Sb.hide hxs
    rw [← HST.out, H3.out] at p2
    clear hhx hTx hxs h3
    go_wp2_with fail
    refine (fall_any E c vB N caps hN o T L2 P _ t.cut.cut x vR vO S2 (Sb.hide (by exact hlog.out)) 2).mono ?_
    rintro e w3 ⟨rfl, hW⟩
    have HW := Sb.hide ((hW.trans E2.out C2.out).drew.trans E1.out C1.out)
    clear hW
    go_wp2
    refine bodyPost_ret (v := .tuple #[]) (by simp [results, Tryz.results100, go_sem]) rfl ⟨rfl, ?_⟩
    rw [HRS.out, if_pos H3.out]
    exact HW.out
  · by_cases h2 : st = 2
    · have H3 := Sb.hide h3
      have H2 := Sb.hide h2
      clear h3
      go_enter Tryz.func100, Tryz.ntmps100
      go_wp2_with fail
      refine (taken E c vB (.func (.func N) #[] caps) o T L P _ t x vR vO H).mono ?_
      rintro e w1 ⟨rfl, L1, s1, q1, k1⟩
      have b3 := (tk_cells s1.tk.blk).2.2.2.1
      rw [HV.out] at b3
      have b4 : w1.cell? ⟨T, 4, none⟩ = some (.pointer (some ⟨P t.hand, 0, none⟩)) := by have hc := handCell s1; exact hc
      have br : w1.cell? ⟨R, j, none⟩ = some (.pointer (some ⟨P j, 0, none⟩)) := by
        obtain ⟨R', cap', hv', _, hr'⟩ := s1.row
        rw [HV.out] at hv'
        simp at hv'
        rw [hv'.1]
        exact hr' j (by rw [cut_len, ← HNN.out]; exact hjl)
      have S1 := Sb.hide s1
      have E1 := Sb.hide q1
      have C1 := Sb.hide k1
      clear s1 q1 k1 c0 c1 c2 c3 c4 c5 c6 c7 fr
      go_wp2
      go_region_held3 (fun w' => w'.cell? ⟨T, 3, none⟩ = some (.slice (some ⟨R, 0, none⟩) nn cap) ∧ w'.cell? ⟨T, 4, none⟩ = some (.pointer (some ⟨P t.hand, 0, none⟩)) ∧ w'.cell? ⟨R, j, none⟩ = some (.pointer (some ⟨P j, 0, none⟩))) (go_keep) ((go_at_call 76; refine (taken_v E c vB (.func (.func N) #[] caps) o T L1 P _ t.cut x vR vO (Sb.hide S1.out.drew) j HJ).mono ?_; rintro e w2 ⟨rfl, L2, s2, q2, k2⟩; have S2 := Sb.hide s2; have E2 := Sb.hide q2; have C2 := Sb.hide k2; have b3 := (tk_cells s2.tk.blk).2.2.2.1; rw [HV.out] at b3; have b4 : w2.cell? ⟨T, 4, none⟩ = some (.pointer (some ⟨P t.hand, 0, none⟩)) := (by have hc := handCell s2; exact hc); have br : w2.cell? ⟨R, j, none⟩ = some (.pointer (some ⟨P j, 0, none⟩)) := row_at s2 HV.out j (by rw [cut_len, cut_len, ← HNN.out]; exact hjl); clear s2 q2 k2))
      obtain ⟨hx, Sx, gx, rx, vUx, hhx, hTx, hxs⟩ := th_at S2.out j (by rw [cut_len, cut_len, ← HNN.out]; exact hjl)
      obtain ⟨p0, p1, p2, p3⟩ := hTx.cells
      rw [hxs] at p2
      have HHX := Sb.hide hhx
      have HTX := Sb.hide hTx
      have HXS := Sb.hide hxs
      rw [← HST.out, H2.out] at p2
      clear hhx hTx hxs h2
      go_wp2_with fail
      refine (fall_any E c vB N caps hN o T L2 P _ t.cut.cut x vR vO S2 (Sb.hide (by exact hlog.out)) 3).mono ?_
      rintro e w3 ⟨rfl, hW⟩
      have HW := Sb.hide ((hW.trans E2.out C2.out).drew.trans E1.out C1.out)
      clear hW
      go_wp2
      refine bodyPost_ret (v := .tuple #[]) (by simp [results, Tryz.results100, go_sem]) rfl ⟨rfl, ?_⟩
      rw [HRS.out, if_neg H3.out, if_pos H2.out]
      exact HW.out
    · have e3 : ((st : Int) == 3) = false := by simp; omega
      have e2 : ((st : Int) == 2) = false := by simp; omega
      have H3 := Sb.hide h3
      have H2 := Sb.hide h2
      clear h3 h2
      by_cases h1 : st = 1
      · have e1 : ((st : Int) == 1) = true := by simp; omega
        have H1 := Sb.hide h1
        clear h1
        go_enter Tryz.func100, Tryz.ntmps100
        go_wp2_with fail
        refine (taken E c vB (.func (.func N) #[] caps) o T L P _ t x vR vO H).mono ?_
        rintro e w1 ⟨rfl, L1, s1, q1, k1⟩
        have b3 := (tk_cells s1.tk.blk).2.2.2.1
        rw [HV.out] at b3
        have b4 : w1.cell? ⟨T, 4, none⟩ = some (.pointer (some ⟨P t.hand, 0, none⟩)) := by have hc := handCell s1; exact hc
        have br : w1.cell? ⟨R, j, none⟩ = some (.pointer (some ⟨P j, 0, none⟩)) := by
          obtain ⟨R', cap', hv', _, hr'⟩ := s1.row
          rw [HV.out] at hv'
          simp at hv'
          rw [hv'.1]
          exact hr' j (by rw [cut_len, ← HNN.out]; exact hjl)
        have S1 := Sb.hide s1
        have E1 := Sb.hide q1
        have C1 := Sb.hide k1
        clear s1 q1 k1 c0 c1 c2 c3 c4 c5 c6 c7 fr
        go_wp2
        go_region_held3 (fun w' => w'.cell? ⟨T, 3, none⟩ = some (.slice (some ⟨R, 0, none⟩) nn cap) ∧ w'.cell? ⟨T, 4, none⟩ = some (.pointer (some ⟨P t.hand, 0, none⟩)) ∧ w'.cell? ⟨R, j, none⟩ = some (.pointer (some ⟨P j, 0, none⟩))) (go_keep) ((go_at_call 76; refine (taken_v E c vB (.func (.func N) #[] caps) o T L1 P _ t.cut x vR vO (Sb.hide S1.out.drew) j HJ).mono ?_; rintro e w2 ⟨rfl, L2, s2, q2, k2⟩; have S2 := Sb.hide s2; have E2 := Sb.hide q2; have C2 := Sb.hide k2; have b3 := (tk_cells s2.tk.blk).2.2.2.1; rw [HV.out] at b3; have b4 : w2.cell? ⟨T, 4, none⟩ = some (.pointer (some ⟨P t.hand, 0, none⟩)) := (by have hc := handCell s2; exact hc); have br : w2.cell? ⟨R, j, none⟩ = some (.pointer (some ⟨P j, 0, none⟩)) := row_at s2 HV.out j (by rw [cut_len, cut_len, ← HNN.out]; exact hjl); clear s2 q2 k2))
        obtain ⟨hx, Sx, gx, rx, vUx, hhx, hTx, hxs⟩ := th_at S2.out j (by rw [cut_len, cut_len, ← HNN.out]; exact hjl)
        obtain ⟨p0, p1, p2, p3⟩ := hTx.cells
        rw [hxs] at p2
        have HHX := Sb.hide hhx
        have HTX := Sb.hide hTx
        have HXS := Sb.hide hxs
        rw [← HST.out] at p2
        have HX3 : Hid (t.cut.cut.th j = hx) := by unfold Hid; simp [Tk.th, hhx]
        obtain ⟨L3, s3, q3, k3⟩ := S2.out.thread hhx (hTx.upped S2.out.ok 2 t.hand)
        have hj3 : j < (t.cut.cut.set j { hx with stands := 2, up := some t.hand }).ths.length := by simp [Tk.set]; rw [cut_len, cut_len, ← HNN.out]; exact hjl
        obtain ⟨s4, k4⟩ := s3.handed hj3
        have frx := hTx.free
        have frT := (tk_cells S2.out.tk.blk).2.2.2.2.2.2.2.2
        have hTP : ¬ T = P j := fun e => by have a := S2.out.tk.lT; have b := hTx.l0; rw [e, b] at a; cases a
        have hTP2 : ¬ P j = T := fun e => hTP e.symm
        have S4 := Sb.hide s4
        have E3 := Sb.hide q3
        have C3 := Sb.hide k3
        have C4 := Sb.hide k4
        clear s3 q3 k3 s4 k4 hhx hTx hxs hj3 p0 p1
        go_wp2_with fail
        refine (put_any E c vB N caps hN o T L3 P _ _ x vR vO S4 (Sb.hide (by exact hlog.out)) t.last).mono ?_
        rintro e w5 ⟨rfl, hW⟩
        have HW := Sb.hide (((((hW.trans (.refl _ _ _) C4.out).trans E3.out C3.out).trans E2.out C2.out).drew).trans E1.out C1.out)
        clear hW
        go_wp2
        go_end0
        refine ⟨rfl, ?_⟩
        rw [HRS.out, if_neg H3.out, if_neg H2.out, if_pos H1.out, HX3.out]
        exact HW.out
      · have e1 : ((st : Int) == 1) = false := by simp; omega
        have H1 := Sb.hide h1
        clear h1
        go_enter Tryz.func100, Tryz.ntmps100
        go_wp2_with fail
        refine (taken E c vB (.func (.func N) #[] caps) o T L P _ t x vR vO H).mono ?_
        rintro e w1 ⟨rfl, L1, s1, q1, k1⟩
        have b3 := (tk_cells s1.tk.blk).2.2.2.1
        rw [HV.out] at b3
        have b4 : w1.cell? ⟨T, 4, none⟩ = some (.pointer (some ⟨P t.hand, 0, none⟩)) := by have hc := handCell s1; exact hc
        have br : w1.cell? ⟨R, j, none⟩ = some (.pointer (some ⟨P j, 0, none⟩)) := by
          obtain ⟨R', cap', hv', _, hr'⟩ := s1.row
          rw [HV.out] at hv'
          simp at hv'
          rw [hv'.1]
          exact hr' j (by rw [cut_len, ← HNN.out]; exact hjl)
        have S1 := Sb.hide s1
        have E1 := Sb.hide q1
        have C1 := Sb.hide k1
        clear s1 q1 k1 c0 c1 c2 c3 c4 c5 c6 c7 fr
        go_wp2
        go_region_held3 (fun w' => w'.cell? ⟨T, 3, none⟩ = some (.slice (some ⟨R, 0, none⟩) nn cap) ∧ w'.cell? ⟨T, 4, none⟩ = some (.pointer (some ⟨P t.hand, 0, none⟩)) ∧ w'.cell? ⟨R, j, none⟩ = some (.pointer (some ⟨P j, 0, none⟩))) (go_keep) ((go_at_call 76; refine (taken_v E c vB (.func (.func N) #[] caps) o T L1 P _ t.cut x vR vO (Sb.hide S1.out.drew) j HJ).mono ?_; rintro e w2 ⟨rfl, L2, s2, q2, k2⟩; have S2 := Sb.hide s2; have E2 := Sb.hide q2; have C2 := Sb.hide k2; have b3 := (tk_cells s2.tk.blk).2.2.2.1; rw [HV.out] at b3; have b4 : w2.cell? ⟨T, 4, none⟩ = some (.pointer (some ⟨P t.hand, 0, none⟩)) := (by have hc := handCell s2; exact hc); have br : w2.cell? ⟨R, j, none⟩ = some (.pointer (some ⟨P j, 0, none⟩)) := row_at s2 HV.out j (by rw [cut_len, cut_len, ← HNN.out]; exact hjl); clear s2 q2 k2))
        obtain ⟨hx, Sx, gx, rx, vUx, hhx, hTx, hxs⟩ := th_at S2.out j (by rw [cut_len, cut_len, ← HNN.out]; exact hjl)
        obtain ⟨p0, p1, p2, p3⟩ := hTx.cells
        rw [hxs] at p2
        have HHX := Sb.hide hhx
        have HTX := Sb.hide hTx
        have HXS := Sb.hide hxs
        rw [← HST.out] at p2
        have HX3 : Hid (t.cut.cut.th j = hx) := by unfold Hid; simp [Tk.th, hhx]
        obtain ⟨L3, s3, q3, k3⟩ := S2.out.thread hhx (hTx.upped S2.out.ok 2 t.hand)
        have hj3 : j < (t.cut.cut.set j { hx with stands := 2, up := some t.hand }).ths.length := by simp [Tk.set]; rw [cut_len, cut_len, ← HNN.out]; exact hjl
        obtain ⟨s4, k4⟩ := s3.handed hj3
        have frx := hTx.free
        have frT := (tk_cells S2.out.tk.blk).2.2.2.2.2.2.2.2
        have hTP : ¬ T = P j := fun e => by have a := S2.out.tk.lT; have b := hTx.l0; rw [e, b] at a; cases a
        have hTP2 : ¬ P j = T := fun e => hTP e.symm
        have S4 := Sb.hide s4
        have E3 := Sb.hide q3
        have C3 := Sb.hide k3
        have C4 := Sb.hide k4
        clear s3 q3 k3 s4 k4 hhx hTx hxs hj3 p0 p1
        go_wp2
        go_end0
        refine ⟨rfl, ?_⟩
        rw [HRS.out, if_neg H3.out, if_neg H2.out, if_neg H1.out, HX3.out]
        exact (((((WPost.refl S4.out).trans (.refl _ _ _) C4.out).trans E3.out C3.out).trans E2.out C2.out).drew).trans E1.out C1.out
end
end Go.Proofs.YtekjhefmhhcboaaGreat.Vw

/- The walks of putOut; boxes. -/
namespace Go.Proofs.YtekjhefmhhcboaaGreat.Vw
open Go.RowKit Vf Vm

theorem tk_set5 {c : Cx} {vB ev vR vO vO' : Value} {w : World} {T hp ov tr : Nat} (h : w.heap[T]? = some (tkO c vB ev vR hp vO ov tr)) : (w.setCell ⟨T, 5, none⟩ vO').heap[T]? = some (tkO c vB ev vR hp vO' ov tr) := by
  simp only [World.setCell, Array.getElem?_modify, if_true, h, Option.map_some]
  rfl

section
variable {β : Type} {E : Env β} {c : Cx} {vB ev : Value} {o T : Nat} {L : Lab} {P : Nat → Nat} {w w4 : World} {t : Tk} {x : β} {vR vO : Value}
/-- A word more is put out. -/
theorem St.outed (H : St E c vB ev o T L P w t x vR vO) {v : Int} {R cap : Nat} {ob : Obj}
    (hown : w4.ownsRow 0 2 1 (.slice (some ⟨R, 0, none⟩) (t.out.length + 1) cap) (t.out.length + 1) (ints t.out ++ [.int .i64 v])) (hg : (w.alloc ob).grownBy w4 vO.ownBlock) (hR : vO.ownBlock = some R ∨ R = (w.alloc ob).heap.size) :
    WPost E c vB ev o T L w (w4.setCell ⟨T, 5, none⟩ (.slice (some ⟨R, 0, none⟩) (t.out.length + 1) cap)) { t with out := t.out ++ [v] } x := by
  have hz4 := hg.size
  simp at hz4
  have hTz := lt_of_block H.tk.blk
  have hRz : w.heap.size ≤ R ∨ vO.ownBlock = some R := by
    rcases hR with hR | hR
    · exact .inr hR
    · left; simp at hR; omega
  have hR4 : R < w4.heap.size := (hown.lt R rfl).2
  have hRT : R ≠ T := fun e => by
    rcases hRz with hx | hx
    · omega
    · have a := H.tk.lO R hx; have b := H.tk.lT; rw [e, b] at a; cases a
  have blk : ∀ b, b < w.heap.size → vO.ownBlock ≠ some b → b ≠ T → (w4.setCell ⟨T, 5, none⟩ (.slice (some ⟨R, 0, none⟩) (t.out.length + 1) cap)).heap[b]? = w.heap[b]? := fun b hb hn hT => (Below.heap_setCell _ _ _ _ hT).trans ((hg.block b (by simp; omega) (fun e => hn e.symm)).trans (Below.heap_alloc _ _ _ hb))
  have lab : ∀ b, b < w.heap.size → (fun b => if b = R then (⟨1, o, 0, 6⟩ : Lb) else L b) b = L b := fun b hb => by
    by_cases e : b = R
    · rcases hRz with hx | hx
      · omega
      · simp only [e, if_true]
        rw [H.tk.lO R hx]
    · simp only [e, if_false]
  have nR : ∀ {b i p : Nat}, L b = ⟨1, o, i, p⟩ → ¬ (i = 0 ∧ p = 6) → vO.ownBlock ≠ some b := fun e hn hx => hn (by
    have a := H.tk.lO _ hx
    rw [e] at a
    simp at a
    exact a)
  have nT : ∀ {b i p : Nat}, L b = ⟨1, o, i, p⟩ → ¬ (i = 0 ∧ p = 4) → b ≠ T := fun e hn hx => hn (by
    have a := H.tk.lT
    rw [← hx, e] at a
    simp at a
    exact a)
  have nT2 : ∀ {b : Nat}, (L b).cls ≠ 1 → b ≠ T := fun hn hx => hn (by rw [hx, H.tk.lT])
  have nR2 : ∀ {b : Nat}, (L b).cls ≠ 1 → vO.ownBlock ≠ some b := fun hn hx => hn (by rw [H.tk.lO _ hx])
  have hC : Chg (WB L o) w (w4.setCell ⟨T, 5, none⟩ (.slice (some ⟨R, 0, none⟩) (t.out.length + 1) cap)) := by
    refine ⟨hg.os, hg.tape, hg.output, by simp [World.setCell]; omega, fun b hb hn => blk b hb (fun hx => hn (.inl ?_)) (fun hx => hn (.inl ?_))⟩
    · rw [H.tk.lO b hx]; exact ⟨rfl, rfl⟩
    · rw [hx, H.tk.lT]; exact ⟨rfl, rfl⟩
  refine ⟨fun b => if b = R then ⟨1, o, 0, 6⟩ else L b, P, vR, .slice (some ⟨R, 0, none⟩) (t.out.length + 1) cap, ⟨⟨?_, ?_, ?_, fun i h' hh => ?_, H.tk.few, H.tk.hand, (lab T hTz).trans H.tk.lT, fun b hb => ?_, fun b hb => by cases hb; simp, fun b h1 h2 => ?_⟩, ?_, ⟨fun b hb => ?_, fun b hb => ?_, by have := H.ok.size; simp [World.setCell]; omega⟩, H.cx.chg H.ok hC⟩, ⟨fun b hb => lab b hb, fun b => ?_⟩, hC⟩
  · refine tk_set5 (vO := vO) ?_
    exact (hg.block T (by simp; omega) (fun e => (nR H.tk.lT (by omega)) e.symm)).trans ((Below.heap_alloc _ _ _ hTz).trans H.tk.blk)
  · refine own_keep H.tk.rows (fun b hb => ?_)
    have l1 := H.tk.lR b hb
    exact blk b (H.tk.rows.lt b hb).2 (nR l1 (by omega)) (nT l1 (by omega))
  · have e : ints (t.out ++ [v]) = ints t.out ++ [.int .i64 v] := by simp [ints]
    show World.ownsRow _ _ _ _ _ (t.out ++ [v]).length (ints (t.out ++ [v]))
    rw [e, List.length_append]
    exact own_keep hown (fun k hk => by cases hk; exact Below.heap_setCell _ _ _ _ hRT)
  · obtain ⟨S, g, r, vU, hT⟩ := H.tk.ths i h' hh
    refine ⟨S, g, r, vU, hT.keep lab rfl rfl (fun b hb hx => blk b hb (fun hy => ?_) (fun hy => ?_))⟩
    · rw [H.tk.lO b hy] at hx; cases hx.2.2
    · rw [hy, H.tk.lT] at hx; cases hx.2.2
  · exact (lab b (H.tk.rows.lt b hb).2).trans (H.tk.lR b hb)
  · by_cases e : b = R
    · simp only [e, if_true]; omega
    · simp only [e, if_false] at h1 h2 ⊢
      exact H.tk.labs b h1 h2
  · refine E.keep H.en lab (by simp [World.setCell]; omega) (fun b hb hx => ?_)
    have hx2 : (L b).cls ≠ 1 := by omega
    exact blk b hb (nR2 hx2) (nT2 hx2)
  · have hb2 := H.ok.low b hb
    have hBs := H.ok.size
    exact (congrArg Lb.cls (lab b (by omega))).trans hb2
  · have hb' : w4.heap.size ≤ b := by simpa [World.setCell] using hb
    have e : b ≠ R := by omega
    simp only [e, if_false]
    exact H.ok.new b (by omega)
  · by_cases e : b = R
    · right; left; simp [e]
    · left; simp only [e, if_false]
end

section
variable {β : Type} (E : Env β) (c : Cx) (vB : Value) (N : Nat) (caps : Array Value) (hN : Hid (Hears E c N caps)) (o T : Nat) (L : Lab) (P : Nat → Nat) (w : World) (t : Tk) (x : β) (vR vO : Value) (H : Hid (St E c vB (.func (.func N) #[] caps) o T L P w t x vR vO)) (hlog : Hid (t.log.length ≤ 2000000))
include hN H hlog

set_option maxRecDepth 100000 in
set_option maxHeartbeats 1000000 in
theorem putOut_any (ho : t.out.length ≤ 1000000) :
    Calls Tryz.prog 79 #[.pointer (some ⟨T, 0, none⟩)] w fun e w' => e = .returned (.tuple #[]) ∧ WPost E c vB (.func (.func N) #[] caps) o T L w w' (({ t.cut with out := t.out ++ [t.last] } : Tk).note ⟨1, 0, t.last⟩) x := by
  obtain ⟨i0, hi, hz0, hz1, hz2⟩ := info_parts Sb.Tryz.info2
  have d0 := handCell H.out
  go_enter Tryz.func79, Tryz.ntmps79
  go_wp2_with fail
  refine (taken E c vB (.func (.func N) #[] caps) o T L P _ t x vR vO H).mono ?_
  rintro e w1 ⟨rfl, L1, s1, q1, k1⟩
  have b5 := (tk_cells s1.tk.blk).2.2.2.2.2.1
  have S1 := Sb.hide s1
  have E1 := Sb.hide q1
  have C1 := Sb.hide k1
  have HTz := lt_of_block s1.tk.blk
  have HRW : Hid ((w1.alloc (.cells #[.int .i64 t.last] 2)).ownsRow 0 2 1 vO t.out.length (ints t.out)) := s1.tk.out.alloc _
  clear s1 q1 k1
  go_wp2_with (at_builtin; refine wpList_append_where rfl (.tmp 12) (.tmp 14) 46 rfl 0 2 i0 (.int .i64 0) 1 8 Tryz.underlying46 hi hz0 hz1 hz2 rfl (by decide) vO t.out.length (ints t.out) rfl HRW.out ⟨w1.heap.size, 0, none⟩ 1 1 [.int .i64 t.last] rfl rfl (news1 w1 _ _) (ones1 rfl) (by decide) (by unfold maxLen; omega) (by omega) (Nat.zero_le _) ?_)
  intro R4 cap4 w4 hown4 hg4 hR4
  have hW5 : WPost E c vB (.func (.func N) #[] caps) o T L1 w1 (w4.setCell ⟨T, 5, none⟩ (.slice (some ⟨R4, 0, none⟩) (t.out.length + 1) cap4)) ({ t.cut with out := t.out ++ [t.last] } : Tk) x := S1.out.outed (v := t.last) hown4 hg4 (hR4.imp id (fun e => by simpa using e))
  have hTbk : w4.heap[T]? = some (tkO c vB (.func (.func N) #[] caps) vR (P t.cut.hand) vO t.cut.over t.cut.trap) := (hg4.block T (by simp; omega) (fun e => by
    have a := S1.out.tk.lO T e.symm
    have b := S1.out.tk.lT
    rw [b] at a
    cases a)).trans ((Below.heap_alloc _ _ _ HTz).trans S1.out.tk.blk)
  have fr4 : w4.frozen? ⟨T, 5, none⟩ = false := by simp [World.frozen?, hTbk]
  have q4 : w4.cell? ⟨T, 5, none⟩ = some vO := by simp [World.cell?, hTbk]
  obtain ⟨L5, P5, vR5, vO5, s5, q5, k5⟩ := hW5
  have f2 := (tk_cells s5.tk.blk).2.2.1
  have S5 := Sb.hide s5
  have E5 := Sb.hide q5
  have C5 := Sb.hide k5
  have hent := hN.out.enter
  clear s5 q5 k5 hown4 hg4 hR4 hTbk
  go_wp2_with fail
  refine (hN.out.call ⟨1, 0, t.last⟩ L5 _ _ _ (Sb.hide S5.out.en) (Sb.hide S5.out.ok) (by have := hlog.out; exact Nat.le_succ_of_le this)).mono ?_
  rintro e w6 ⟨rfl, L6, h1, h2, h3, h4⟩
  have HW := Sb.hide (((S5.out.heard h1 h2 h3 h4).trans E5.out C5.out).trans E1.out C1.out)
  clear h1 h2 h3 h4
  go_wp2
  go_end0
  exact ⟨rfl, HW.out⟩
end
end Go.Proofs.YtekjhefmhhcboaaGreat.Vw

