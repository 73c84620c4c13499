/- The walks of ret, giveBack, end, call. -/
import Derived.Test.YtnfbfdajdflfgaaGreatM14
import Derived.Test.YtnfbfdajdflfgaaGreatM16
import Derived.LaidEqlPtr
namespace Go.Proofs.YtnfbfdajdflfgaaGreat.Vw
open Go.RowKit Vf Vm

section
variable {c : Cx} {L : Lab} {o i : Nat} {P : Nat → Nat} {w : World} {h : Th} {S g r : Nat} {vU : Value}
theorem ThIn.blkSet (H : ThIn c L o i P w h S g r vU) (hL : LOk c.B L w) {w1 : World} {h' : Th} (hb : ∀ b, b ≠ P i → w1.heap[b]? = w.heap[b]?) (hz : w1.heap.size = w.heap.size) (hos : w1.os = w.os ∧ w1.tape = w.tape ∧ w1.output = w.output) (hblk : w1.heap[P i]? = some (thO S vU h'.stands (upV P h'.up))) (e1 : h'.ws = h.ws) (e2 : h'.fs = h.fs) : TPost c L o i P w w1 h' :=
  ⟨L, S, g, r, vU, ⟨hblk, by rw [e1]; exact SK.far H.stack (hb _ H.ne01) (hb _ H.ne02), by rw [e2]; exact own_keep H.row (fun b hb' => hb b (H.ne03 hb')), by rw [e2]; exact H.few, H.l0, H.l1, H.l2, H.l3⟩, .refl _ _ _ _, hL.on (by omega), hos.1, hos.2.1, hos.2.2, by omega, fun b _ hn => hb b (fun e => hn (by unfold ThB; rw [e, H.l0]; exact ⟨rfl, rfl, rfl⟩))⟩
theorem ThIn.stood (H : ThIn c L o i P w h S g r vU) (hL : LOk c.B L w) (n : Nat) : TPost c L o i P w (w.setCell ⟨P i, 2, none⟩ (.int .i64 n)) { h with stands := n } :=
  H.blkSet hL (fun b hb => Below.heap_setCell _ _ _ _ hb) (by simp [World.setCell]) ⟨rfl, rfl, rfl⟩ (th_set2 H.blk) rfl rfl
theorem ThIn.upped (H : ThIn c L o i P w h S g r vU) (hL : LOk c.B L w) (n j : Nat) : TPost c L o i P w ((w.setCell ⟨P i, 2, none⟩ (.int .i64 n)).setCell ⟨P i, 3, none⟩ (.pointer (some ⟨P j, 0, none⟩))) { h with stands := n, up := some j } :=
  H.blkSet hL (fun b hb => (Below.heap_setCell _ ⟨P i, 3, none⟩ _ _ hb).trans (Below.heap_setCell _ ⟨P i, 2, none⟩ _ _ hb)) (by simp [World.setCell]) ⟨rfl, rfl, rfl⟩ (th_set3 (th_set2 H.blk)) rfl rfl
end
theorem tk_set4 {c : Cx} {vB ev vR vO : Value} {w : World} {T hp hp' ov tr : Nat} (h : w.heap[T]? = some (tkO c vB ev vR hp vO ov tr)) : (w.setCell ⟨T, 4, none⟩ (.pointer (some ⟨hp', 0, none⟩))).heap[T]? = some (tkO c vB ev vR hp' vO ov tr) := by
  simp only [World.setCell, Array.getElem?_modify, if_true, h, Option.map_some]
  rfl
theorem tk_set6 {c : Cx} {vB ev vR vO : Value} {w : World} {T hp n ov tr : Nat} (h : w.heap[T]? = some (tkO c vB ev vR hp vO ov tr)) : (w.setCell ⟨T, 6, none⟩ (.int .i64 n)).heap[T]? = some (tkO c vB ev vR hp vO n tr) := by
  simp only [World.setCell, Array.getElem?_modify, if_true, h, Option.map_some]
  rfl
section
variable {β : Type} {E : Env β} {c : Cx} {vB ev : Value} {o T : Nat} {L : Lab} {P : Nat → Nat} {w : World} {t : Tk} {x : β} {vR vO : Value}
theorem St.handed (H : St E c vB ev o T L P w t x vR vO) {j : Nat} (hj : j < t.ths.length) : St E c vB ev o T L P (w.setCell ⟨T, 4, none⟩ (.pointer (some ⟨P j, 0, none⟩))) { t with hand := j } x vR vO ∧ Chg (WB L o) w (w.setCell ⟨T, 4, none⟩ (.pointer (some ⟨P j, 0, none⟩))) :=
  H.own (t' := { t with hand := j }) (fun b hb => Below.heap_setCell _ _ _ _ hb) (by simp [World.setCell]) ⟨rfl, rfl, rfl⟩ (tk_set4 H.tk.blk) rfl rfl rfl hj
end

section
variable {β : Type} (E : Env β) (c : Cx) (vB : Value) (N : Nat) (caps : Array Value) (hN : Hid (Hears E c N caps)) (o T : Nat) (L : Lab) (P : Nat → Nat) (w : World) (t : Tk) (x : β) (vR vO : Value) (H : Hid (St E c vB (.func (.func N) #[] caps) o T L P w t x vR vO)) (hlog : Hid (t.log.length ≤ 2000001))
include hN H hlog


set_option maxHeartbeats 1000000 in
theorem ret_any (f : Wk) (r : List Wk) (hf : Hid (t.top.fs = f :: r)) (hb : Hid (f.base < t.top.ws.length)) :
    Calls Tryz.prog 71 #[.pointer (some ⟨T, 0, none⟩)] w fun e w' => e = .returned (.tuple #[]) ∧ WPost E c vB (.func (.func N) #[] caps) o T L w w' t.ret x := by
  have d0 := handCell H.out
  go_enter Tryz.func71, Tryz.ntmps71
  go_wp2_with fail
  refine (taken E c vB (.func (.func N) #[] caps) o T L P _ t x vR vO H).mono ?_
  rintro e w1 ⟨rfl, L1, s1, q1, k1⟩
  have d1 := handCell s1
  have S1 := Sb.hide s1
  have E1 := Sb.hide q1
  have C1 := Sb.hide k1
  clear s1 q1 k1
  obtain ⟨h, S, g, rr, vU, hh, hT, htop⟩ := S1.out.at
  have htop0 : t.cut.top = { t.top with ws := t.top.ws.dropLast } := by
    obtain ⟨h0, _, _, _, _, hh0, _, ht0⟩ := H.out.at
    rw [ht0, cut_of hh0, top_of (set_at hh0)]
  have HF : Hid (h.fs = f :: r) := by unfold Hid; rw [← htop, htop0]; exact hf.out
  have hbl : f.base ≤ h.ws.length := by rw [← htop, htop0]; have := hb.out; simp; omega
  have HH := Sb.hide hh
  have HT := Sb.hide hT
  have HTP := Sb.hide htop
  clear hh hT htop htop0
  go_wp2_with fail
  refine (leave_th c L1 o t.cut.hand P _ h S g rr vU HT (Sb.hide S1.out.ok) f r HF hbl _ (Sb.hide rfl)).mono ?_
  rintro e w2 ⟨rfl, hp⟩
  obtain ⟨L2, s2, q2, k2⟩ := S1.out.thread HH.out hp
  have s2' : St E c vB (.func (.func N) #[] caps) o T L2 P w2 t.cut.leave x vR vO := by rw [leave_of HH.out HF.out]; exact s2
  have S2 := Sb.hide s2'
  have E2 := Sb.hide q2
  have C2 := Sb.hide k2
  clear hp s2 s2' q2 k2
  go_wp2_with fail
  refine (put_any E c vB N caps hN o T L2 P _ t.cut.leave x vR vO S2 (Sb.hide (by exact hlog.out)) t.last).mono ?_
  rintro e w3 ⟨rfl, hW⟩
  have HW := Sb.hide ((hW.trans E2.out C2.out).trans E1.out C1.out)
  clear hW
  go_wp2
  go_end0
  exact ⟨rfl, HW.out⟩

set_option maxHeartbeats 1000000 in
theorem give_any (n : Nat) (v : Int) (j : Nat) (hj : Hid (t.top.up = some j ∧ j < t.ths.length)) :
    Calls Tryz.prog 74 #[.pointer (some ⟨T, 0, none⟩), .int .i64 n, .int .i64 v] w fun e w' => e = .returned (.tuple #[]) ∧ WPost E c vB (.func (.func N) #[] caps) o T L w w' (t.give n v) x := by
  have d0 := handCell H.out
  obtain ⟨h, S, g, rr, vU, hh, hT, htop⟩ := H.out.at
  obtain ⟨c0, c1, c2, c3⟩ := hT.cells
  have fr := hT.free
  have hup : h.up = some j := by rw [← htop]; exact hj.out.1
  rw [hup] at c3
  unfold upV at c3
  obtain ⟨L1, s1, q1, k1⟩ := H.out.thread hh (hT.stood H.out.ok n)
  have hjl : j < (t.set t.hand { h with stands := n }).ths.length := by simp [Tk.set]; exact hj.out.2
  obtain ⟨s2, k2⟩ := s1.handed hjl
  have hTP : ¬ T = P t.hand := fun e => by have a := H.out.tk.lT; have b := hT.l0; rw [e, b] at a; cases a
  have hTP2 : ¬ P t.hand = T := fun e => hTP e.symm
  have frT := (tk_cells H.out.tk.blk).2.2.2.2.2.2.2.2
  have S2 := Sb.hide s2
  have E1 := Sb.hide q1
  have C1 := Sb.hide k1
  have C2 := Sb.hide k2
  have HG : Hid (t.give n v = ({ t.set t.hand { h with stands := n } with hand := j } : Tk).put v) := by unfold Hid; exact give_of hh hup n v
  clear s1 q1 k1 s2 k2 hh hT htop hup hjl
  go_enter Tryz.func74, Tryz.ntmps74
  go_wp2_with fail
  refine (put_any E c vB N caps hN o T L1 P _ _ x vR vO S2 (Sb.hide (by exact hlog.out)) v).mono ?_
  rintro e w3 ⟨rfl, hW⟩
  have HW := Sb.hide ((hW.trans (.refl _ _ _) C2.out).trans E1.out C1.out)
  clear hW
  go_wp2
  go_end0
  refine ⟨rfl, ?_⟩
  rw [HG.out]
  exact HW.out
end
end Go.Proofs.YtnfbfdajdflfgaaGreat.Vw

/- The walks of end and call. -/
namespace Go.Proofs.YtnfbfdajdflfgaaGreat.Vw
open Go.RowKit Vf Vm

theorem Tryz.info72 : (Tryz.prog.info? 72).map (fun i => (i.zero, i.size, i.bytes)) = some (some (.agg #[.pointer none, .slice none 0 0, .int .i64 0, .pointer none]), 4, 48) := by kernel_rfl
section
variable {β : Type} {E : Env β} {c : Cx} {vB ev : Value} {o T : Nat} {L : Lab} {P : Nat → Nat} {w : World} {t : Tk} {x : β} {vR vO : Value}
theorem St.drew (H : St E c vB ev o T L P w t x vR vO) : St E c vB ev o T L P w.drew t x vR vO := H.below ⟨rfl, rfl, rfl, Nat.le_refl _, fun _ _ => rfl⟩
theorem WPost.drew {w1 : World} (H : WPost E c vB ev o T L w.drew w1 t x) : WPost E c vB ev o T L w w1 t x := by
  obtain ⟨L2, P2, vR2, vO2, h1, h2, h3⟩ := H
  exact ⟨L2, P2, vR2, vO2, h1, h2, h3.os, h3.tape, h3.output, h3.size, h3.block⟩
/-- The row of threads. -/
theorem St.row (H : St E c vB ev o T L P w t x vR vO) : ∃ R cap, vR = .slice (some ⟨R, 0, none⟩) t.ths.length cap ∧ t.ths.length ≤ cap ∧ ∀ j, j < t.ths.length → w.cell? ⟨R, j, none⟩ = some (.pointer (some ⟨P j, 0, none⟩)) := by
  rcases H.tk.rows.2 with ⟨_, hv⟩ | ⟨R, cap, cur, hv, _, hh, h1, h2, h3, h4⟩
  · have := H.tk.hand; omega
  · refine ⟨R, cap, hv, h1, fun j hj => ?_⟩
    have e : cur[j]? = some (.pointer (some ⟨P j, 0, none⟩)) := by
      have e2 : (cur.toList.take (t.ths.length * 1))[j]? = cur[j]? := by rw [List.getElem?_take, if_pos (by omega)]; simp
      rw [← e2, h4]
      exact ptrs_at P hj
    simp [World.cell?, hh, e]
theorem St.inj (H : St E c vB ev o T L P w t x vR vO) {i j : Nat} (hi : i < t.ths.length) (hj : j < t.ths.length) (h : P i = P j) : i = j := by
  obtain ⟨_, _, _, _, h1⟩ := H.tk.ths i _ (List.getElem?_eq_getElem hi)
  obtain ⟨_, _, _, _, h2⟩ := H.tk.ths j _ (List.getElem?_eq_getElem hj)
  have a := h1.l0
  have b := h2.l0
  rw [h, b] at a
  simp at a
  exact a.symm
end

section
variable {β : Type} (E : Env β) (c : Cx) (vB : Value) (N : Nat) (caps : Array Value) (hN : Hid (Hears E c N caps)) (o T : Nat) (L : Lab) (P : Nat → Nat) (w : World) (t : Tk) (x : β) (vR vO : Value) (H : Hid (St E c vB (.func (.func N) #[] caps) o T L P w t x vR vO)) (hlog : Hid (t.log.length ≤ 2000001))
include hN H hlog


set_option maxRecDepth 100000 in
set_option maxHeartbeats 1000000 in
theorem end_any (hj : Hid (t.hand ≠ 0 → ∃ j, t.top.up = some j ∧ j < t.ths.length)) :
    Calls Tryz.prog 75 #[.pointer (some ⟨T, 0, none⟩)] w fun e w' => e = .returned (.tuple #[]) ∧ WPost E c vB (.func (.func N) #[] caps) o T L w w' t.fin x := by
  obtain ⟨c0, c1, c2, c3, c4, c5, c6, c7, fr⟩ := tk_cells H.out.tk.blk
  obtain ⟨R, cap, hv, hcap, hrow⟩ := H.out.row
  have hlen := H.out.tk.hand
  have hfew := H.out.tk.few
  have r0 := hrow 0 (by omega)
  obtain ⟨nn, hnn⟩ : ∃ n, n = t.ths.length := ⟨_, rfl⟩
  have n0 : 0 < nn := by omega
  have n1 : nn ≤ 31 := by omega
  rw [hv, ← hnn] at c3
  clear hnn
  by_cases hz : t.hand = 0
  · have hP : P t.hand = P 0 := by rw [hz]
    rw [hP] at c4
    obtain ⟨s1, k1⟩ := H.out.own (t' := { t with over := 4 }) (w1 := w.setCell ⟨T, 6, none⟩ (.int .i64 4)) (fun b hb => Below.heap_setCell _ _ _ _ hb) (by simp [World.setCell]) ⟨rfl, rfl, rfl⟩ (tk_set6 H.out.tk.blk) rfl rfl rfl H.out.tk.hand
    have S1 := Sb.hide s1
    have C1 := Sb.hide k1
    have HZ := Sb.hide hz
    have hent := hN.out.enter
    obtain ⟨j0, hj0, _⟩ := info_parts Tryz.info72
    have heq : ∀ w' : World, Sem.run Tryz.prog (binOp BinOp.eql 67 (.pointer (some ⟨P 0, 0, none⟩)) (.pointer (some ⟨P 0, 0, none⟩))) w' = .ok (.bool true) w' := fun w' => run_eql_ptr_same w' _ Tryz.underlying67 hj0
    clear s1 k1 hz hP hrow hv hj0
    go_enter Tryz.func75, Tryz.ntmps75
    go_wp2
    go_region_held3 (fun w' => w'.cell? ⟨T, 4, none⟩ = some (.pointer (some ⟨P 0, 0, none⟩)) ∧ w'.cell? ⟨T, 3, none⟩ = some (.slice (some ⟨R, 0, none⟩) nn cap) ∧ w'.cell? ⟨R, 0, none⟩ = some (.pointer (some ⟨P 0, 0, none⟩))) (go_keep) (fail)
    go_wp2_with fail
    refine (hN.out.call ⟨4, 0, 0⟩ L _ _ _ (Sb.hide S1.out.drew.en) (Sb.hide S1.out.drew.ok) (by exact hlog.out)).mono ?_
    rintro e w1 ⟨rfl, L', h1, h2, h3, h4⟩
    have HF := Sb.hide ((S1.out.drew.heard h1 h2 h3 h4).drew.trans (.refl _ _ _) C1.out)
    clear h1 h2 h3 h4
    go_wp2
    exact bodyPost_ret (v := .tuple #[]) (by simp [results, Tryz.results75, go_sem]) rfl ⟨rfl, by unfold Tk.fin; rw [if_pos HZ.out]; exact HF.out⟩
  · have hP : ¬ P t.hand = P 0 := fun e => hz (H.out.inj hlen (by omega) e)
    obtain ⟨j, hj3⟩ := hj.out hz
    have HJ := Sb.hide hj3
    clear hj3
    have HZ := Sb.hide hz
    obtain ⟨j0, hj0, _, hj2, _⟩ := info_parts Tryz.info72
    have hj1 : j0.size ≠ 0 := by rw [hj2]; decide
    obtain ⟨ca, hca⟩ : ∃ ca, w.drew.heap[P t.hand]? = some (.cells ca 72 (0, 0)) := by
      obtain ⟨_, _, _, _, h1⟩ := H.out.tk.ths t.hand _ (List.getElem?_eq_getElem hlen)
      exact ⟨_, h1.blk⟩
    obtain ⟨cb, hcb⟩ : ∃ ca, w.drew.heap[P 0]? = some (.cells ca 72 (0, 0)) := by
      obtain ⟨_, _, _, _, h1⟩ := H.out.tk.ths 0 _ (List.getElem?_eq_getElem (by omega))
      exact ⟨_, h1.blk⟩
    have heq : Sem.run Tryz.prog (binOp BinOp.eql 67 (.pointer (some ⟨P t.hand, 0, none⟩)) (.pointer (some ⟨P 0, 0, none⟩))) w.drew = .ok (.bool false) w.drew := run_eql_ptr_other (P := Tryz.prog) w.drew (tp := 67) (te := 72) (a := ⟨P t.hand, 0, none⟩) (b := ⟨P 0, 0, none⟩) Tryz.underlying67 hj0 hj1 (by intro e; simp at e <;> exact hP e) hca hcb
    clear hz hrow hv hca hcb hj0 hj1 hj2
    go_enter Tryz.func75, Tryz.ntmps75
    go_wp2
    go_region_held3 (fun w' => w'.cell? ⟨T, 4, none⟩ = some (.pointer (some ⟨P t.hand, 0, none⟩)) ∧ w'.cell? ⟨T, 3, none⟩ = some (.slice (some ⟨R, 0, none⟩) nn cap) ∧ w'.cell? ⟨R, 0, none⟩ = some (.pointer (some ⟨P 0, 0, none⟩)) ∧ Sem.run Tryz.prog (binOp BinOp.eql 67 (.pointer (some ⟨P t.hand, 0, none⟩)) (.pointer (some ⟨P 0, 0, none⟩))) w' = .ok (.bool false) w') (go_keep) (fail)
    go_wp2_with fail
    refine (give_any E c vB N caps hN o T L P _ t x vR vO (Sb.hide H.out.drew) hlog 3 0 j HJ).mono ?_
    rintro e w3 ⟨rfl, hW⟩
    have HW := Sb.hide hW.drew
    clear hW
    go_wp2
    go_end0
    exact ⟨rfl, by unfold Tk.fin; rw [if_neg HZ.out]; exact HW.out⟩

set_option maxHeartbeats 2000000 in
theorem call_any (n : Nat) (u : Un) (hu : Hid (c.m.units[n]? = some u)) (al : Option Addr) (cl : Nat) (hp0 : 0 ≤ u.params) (hpw : u.params ≤ t.top.ws.length) (hpl : u.params ≤ u.locals.length) (hl2 : u.locals.length ≤ 200) :
    Calls Tryz.prog 70 #[.pointer (some ⟨T, 0, none⟩), unV c n u al cl] w fun e w' => e = .returned (.tuple #[]) ∧ WPost E c vB (.func (.func N) #[] caps) o T L w w' (t.call c.m n) x := by
  obtain ⟨h, S, g, r, vU, hh, hT, htop⟩ := H.out.at
  have hun : unit c.m (n : Int) = u := by simp [unit, hu.out]
  rw [htop] at hpw
  have hfew := hT.few
  have HT := Sb.hide hT
  have HH := Sb.hide hh
  have HTP := Sb.hide htop
  have HUN := Sb.hide hun
  have H0 := Sb.hide (H.out.below ((Below.refl _ w).alloc (Nat.le_refl _) (unO c n u al cl)))
  have HT0 : Hid (ThIn c L o t.hand P (w.alloc (unO c n u al cl)) h S g r vU) := hT.keep (.refl _ _) rfl rfl (fun b hb _ => Below.heap_alloc _ _ _ hb)
  obtain ⟨c0, c1, c2, c3, c4, c5, c6, c7, fr⟩ := tk_cells H.out.tk.blk
  obtain ⟨d0, d1, d2, d3⟩ := hT.cells
  have hlenv : ∃ a cap, vU = .slice a h.fs.length cap := by
    rcases hT.row.2 with ⟨hv, hv2⟩ | ⟨U, cap, cur, hv, _⟩
    · exact ⟨none, 0, by rw [hv, hv2]⟩
    · exact ⟨_, cap, hv⟩
  obtain ⟨ua, ucap, huv⟩ := hlenv
  have hTz := lt_of_block H.out.tk.blk
  have hPz := lt_of_block hT.blk
  have hneT : ¬ w.heap.size = T := by omega
  have hneP : ¬ w.heap.size = P t.hand := by omega
  have HUV := Sb.hide huv
  by_cases hf40 : h.fs.length = 40
  · have e40 : ((h.fs.length : Int) == 40) = true := by simp; omega
    have HF := Sb.hide hf40
    rw [huv] at d1
    clear hh hT htop hun huv hf40
    go_enter Tryz.func70, Tryz.ntmps70
    go_wp2
    go_quiet (fail)
    go_wp2_with fail
    refine (fall_any E c vB N caps hN o T L P _ t x vR vO (Sb.hide (H0.out.below (below_drewN (Below.refl _ _) _))) hlog 4).mono ?_
    rintro e w3 ⟨rfl, hW⟩
    have HW := Sb.hide hW.drewN.alloc
    clear hW
    go_wp2
    go_end0
    refine ⟨rfl, ?_⟩
    unfold Tk.call
    rw [HTP.out, if_pos HF.out]
    exact HW.out
  · have e40 : ((h.fs.length : Int) == 40) = false := by simp; omega
    have hf4 : h.fs.length < 40 := by omega
    have HF := Sb.hide hf40
    rw [huv] at d1
    obtain ⟨bb, hbb⟩ : ∃ b, b = decide (h.ws.length + (u.locals.length - u.params.toNat) ≤ 400) := ⟨_, rfl⟩
    have HBB := Sb.hide hbb
    have e1 : (w.alloc (unO c n u al cl)).drew.cell? ⟨T, 4, none⟩ = some (.pointer (some ⟨P t.hand, 0, none⟩)) := (World.cell?_of_block (w := w) (Below.heap_alloc _ _ _ hTz)).trans c4
    have e2 : (w.alloc (unO c n u al cl)).drew.heap[w.heap.size]? = some (unO c n u al cl) := heap_alloc_new w _
    clear hh hT htop hun huv hf40 hbb
    go_enter Tryz.func70, Tryz.ntmps70
    go_upto_region 1 with fail
    refine wp_region_held_drew (S := fun w' => w'.cell? ⟨T, 4, none⟩ = some (.pointer (some ⟨P t.hand, 0, none⟩)) ∧ w'.heap[w.heap.size]? = some (unO c n u al cl)) (by kernel_rfl) ⟨e1, e2⟩ (fun hHeld => ?_)
    refine wpAnyH_take (i := 0) (oi := _) (v := ?_) rfl (by kernel_rfl) (by kernel_rfl) (by kernel_rfl) (fun _ _ _ h => h) (Or.inl ⟨by rfl, ?_⟩) (by assumption) ?_
    rotate_left
    · intro w hSw
      (try dsimp only at hSw)
      go_simp
      (try with_reducible rfl)
    (try simp only [Act.put])
    refine wpAnyH_take (i := 1) (oi := _) (v := ?_) rfl (by kernel_rfl) (by kernel_rfl) (by kernel_rfl) (fun _ _ _ h => h) (Or.inl ⟨by rfl, ?_⟩) (by assumption) ?_
    rotate_left
    · intro w hSw
      (try dsimp only at hSw)
      go_simp
      (try with_reducible rfl)
    (try simp only [Act.put])
    refine wpAnyH_take (i := 2) (oi := _) (v := ?_) rfl (by kernel_rfl) (by kernel_rfl) (by kernel_rfl) (fun _ _ _ h => h) (Or.inl ⟨by rfl, ?_⟩) (by assumption) ?_
    rotate_left
    · intro w hSw
      (try dsimp only at hSw)
      go_simp
      (try with_reducible rfl)
    (try simp only [Act.put])
    refine wpAnyH_take (i := 3) (oi := _) (v := ?_) rfl (by kernel_rfl) (by kernel_rfl) (by kernel_rfl) (fun _ _ _ h => h) (Or.inl ⟨by rfl, ?_⟩) (by assumption) ?_
    rotate_left
    · intro w hSw
      (try dsimp only at hSw)
      go_simp
      (try with_reducible rfl)
    (try simp only [Act.put])
    refine wpAnyH_take (i := 4) (oi := _) (v := ?_) rfl (by kernel_rfl) (by kernel_rfl) (by kernel_rfl) (fun _ _ _ h => h) (Or.inl ⟨by rfl, ?_⟩) (by assumption) ?_
    rotate_left
    · intro w hSw
      (try dsimp only at hSw)
      go_simp
      (try with_reducible rfl)
    (try simp only [Act.put])
    refine wpAnyH_take (i := 5) (oi := _) (v := ?_) rfl (by kernel_rfl) (by kernel_rfl) (by kernel_rfl) (fun _ _ _ h => h) (Or.inl ⟨by rfl, ?_⟩) (by assumption) ?_
    rotate_left
    · intro w hSw
      (try dsimp only at hSw)
      go_simp
      (try with_reducible rfl)
    (try simp only [Act.put])
    refine wpAnyH_ready (rs := [6]) (by kernel_rfl) (by simp) ?_
    refine AllReadyH.cons (o := _) rfl (fun K hK => ?_) AllReadyH.nil
    go_simp
    refine hK.out _ _ hHeld (fun hHeld => ?_)
    clear hK K
    refine wpAnyH_take (i := 7) (oi := _) (v := ?_) rfl (by kernel_rfl) (by kernel_rfl) (by kernel_rfl) (fun _ _ _ h => h) (Or.inl ⟨by rfl, ?_⟩) (by assumption) ?_
    rotate_left
    · intro w hSw
      (try dsimp only at hSw)
      go_simp
      (try with_reducible rfl)
    (try simp only [Act.put])
    refine wpAnyH_take (i := 8) (oi := _) (v := ?_) rfl (by kernel_rfl) (by kernel_rfl) (by kernel_rfl) (fun _ _ _ h => h) (Or.inl ⟨by rfl, ?_⟩) (by assumption) ?_
    rotate_left
    · intro w hSw
      (try dsimp only at hSw)
      go_simp
      (try with_reducible rfl)
    (try simp only [Act.put])
    refine wpAnyH_take (i := 9) (oi := _) (v := ?_) rfl (by kernel_rfl) (by kernel_rfl) (by kernel_rfl) (fun _ _ _ h => h) (Or.inl ⟨by rfl, ?_⟩) (by assumption) ?_
    rotate_left
    · intro w hSw
      (try dsimp only at hSw)
      go_simp
      (try with_reducible rfl)
    (try simp only [Act.put])
    refine wpAnyH_take (i := 10) (oi := _) (v := ?_) rfl (by kernel_rfl) (by kernel_rfl) (by kernel_rfl) (fun _ _ _ h => h) (Or.inl ⟨by rfl, ?_⟩) (by assumption) ?_
    rotate_left
    · intro w hSw
      (try dsimp only at hSw)
      go_simp
      (try with_reducible rfl)
    (try simp only [Act.put])
    refine wpAnyH_take (i := 11) (oi := _) (v := ?_) rfl (by kernel_rfl) (by kernel_rfl) (by kernel_rfl) (fun _ _ _ h => h) (Or.inl ⟨by rfl, ?_⟩) (by assumption) ?_
    rotate_left
    · intro w hSw
      (try dsimp only at hSw)
      go_simp
      (try with_reducible rfl)
    (try simp only [Act.put])
    refine wpAnyH_take (i := 12) (oi := _) (v := ?_) rfl (by kernel_rfl) (by kernel_rfl) (by kernel_rfl) (fun _ _ _ h => h) (Or.inl ⟨by rfl, ?_⟩) (by assumption) ?_
    rotate_left
    · intro w hSw
      (try dsimp only at hSw)
      go_simp
      (try with_reducible rfl)
    (try simp only [Act.put])
    refine wpAnyH_take (i := 13) (oi := _) (v := ?_) rfl (by kernel_rfl) (by kernel_rfl) (by kernel_rfl) (fun _ _ _ h => h) (Or.inl ⟨by rfl, ?_⟩) (by assumption) ?_
    rotate_left
    · intro w hSw
      (try dsimp only at hSw)
      go_simp
      (try with_reducible rfl)
    (try simp only [Act.put])
    refine wpAnyH_take (i := 14) (oi := _) (v := unV c n u al cl) rfl (by kernel_rfl) (by kernel_rfl) (by kernel_rfl) (fun _ _ _ h => h) (Or.inl ⟨by rfl, ?_⟩) (by assumption) ?_
    · intro w' hSw
      have hx := hSw.2
      have y0 : w'.cell? ⟨w.heap.size, 0, none⟩ = some (.int .i64 u.kind) := by simp [World.cell?, hx]
      have y1 : w'.cell? ⟨w.heap.size, 1, none⟩ = some (.int .i64 u.params) := by simp [World.cell?, hx]
      have y2 : w'.cell? ⟨w.heap.size, 2, none⟩ = some (.slice al u.locals.length cl) := by simp [World.cell?, hx]
      have y3 : w'.cell? ⟨w.heap.size, 3, none⟩ = some (.int .i64 u.result) := by simp [World.cell?, hx]
      have y4 : w'.cell? ⟨w.heap.size, 4, none⟩ = some (.int .i64 u.takes) := by simp [World.cell?, hx]
      have y5 : w'.cell? ⟨w.heap.size, 5, none⟩ = some (.slice (c.cv n) u.code.length (c.cc n)) := by simp [World.cell?, hx]
      go_simp
    refine wpAnyH_ready (rs := [15]) (by kernel_rfl) (by simp) ?_
    refine AllReadyH.cons (o := _) rfl (fun K hK => ?_) AllReadyH.nil
    go_simp
    refine (enter_th c L o t.hand P _ h S g r vU (Sb.hide (HT0.out.drewN 1)) (Sb.hide (H0.out.ok.on (Nat.le_refl _))) n u hu al cl hp0 hpw hpl hl2 hf4 bb HBB _ (Sb.hide rfl)).mono ?_
    rintro e w2 ⟨rfl, hp2⟩
    obtain ⟨L2, s2, q2, k2⟩ := (H0.out.below (below_drewN (Below.refl _ _) 1)).thread HH.out hp2
    have hX2 : w2.heap[w.heap.size]? = some (unO c n u al cl) := by
      refine (k2.block _ (by simp) (fun hx => ?_)).trans (heap_alloc_new w _)
      have := H.out.ok.new w.heap.size (Nat.le_refl _)
      unfold WB EB at hx
      omega
    have hc2 := handCell s2
    have S2 := Sb.hide s2
    have E2 := Sb.hide q2
    have C2 := Sb.hide k2
    clear hp2 s2 q2 k2
    refine hK.out _ _ ⟨hc2, hX2⟩ (fun hHeld => ?_)
    clear hK K
    cases bb with
    | true =>
      refine wpAnyH_take (i := 16) (oi := _) (v := ?_) rfl (by kernel_rfl) (by kernel_rfl) (by kernel_rfl) (fun _ _ _ h => h) (Or.inl ⟨by rfl, ?_⟩) (by assumption) ?_
      rotate_left
      · intro w hSw
        (try dsimp only at hSw)
        go_simp
        (try with_reducible rfl)
      (try simp only [Act.put])
      refine wpAnyH_take (i := 17) (oi := _) (v := ?_) rfl (by kernel_rfl) (by kernel_rfl) (by kernel_rfl) (fun _ _ _ h => h) (Or.inl ⟨by rfl, ?_⟩) (by assumption) ?_
      rotate_left
      · intro w hSw
        (try dsimp only at hSw)
        go_simp
        (try with_reducible rfl)
      (try simp only [Act.put])
      refine wpAnyH_done (by kernel_rfl) ?_ _
      go_wp2
      go_end0
      refine ⟨rfl, ?_⟩
      have e9 : t.call c.m n = t.set t.hand { h with ws := h.ws ++ List.replicate (u.locals.length - u.params.toNat) 0, fs := ⟨n, 0, h.ws.length - u.params.toNat⟩ :: h.fs } := by
        unfold Tk.call
        rw [HTP.out, HUN.out, if_neg HF.out, if_pos (by have := HBB.out; simpa using this)]
      rw [e9]
      have s3 := S2.out
      rw [if_pos trivial] at s3
      exact (WPost.drewN (d := 1) ⟨L2, P, vR, vO, s3, E2.out, C2.out⟩).alloc
    | false =>
      refine wpAnyH_take (i := 16) (oi := _) (v := ?_) rfl (by kernel_rfl) (by kernel_rfl) (by kernel_rfl) (fun _ _ _ h => h) (Or.inl ⟨by rfl, ?_⟩) (by assumption) ?_
      rotate_left
      · intro w hSw
        (try dsimp only at hSw)
        go_simp
        (try with_reducible rfl)
      (try simp only [Act.put])
      refine wpAnyH_take (i := 17) (oi := _) (v := ?_) rfl (by kernel_rfl) (by kernel_rfl) (by kernel_rfl) (fun _ _ _ h => h) (Or.inl ⟨by rfl, ?_⟩) (by assumption) ?_
      rotate_left
      · intro w hSw
        (try dsimp only at hSw)
        go_simp
        (try with_reducible rfl)
      (try simp only [Act.put])
      refine wpAnyH_done (by kernel_rfl) ?_ _
      have s3 := S2.out
      rw [if_neg (by simp)] at s3
      have S3 := Sb.hide s3
      clear s3
      go_wp2_with fail
      refine (fall_any E c vB N caps hN o T L2 P _ _ x vR vO S3 (Sb.hide (by exact hlog.out)) 4).mono ?_
      rintro e w3 ⟨rfl, hW⟩
      have HW := Sb.hide (WPost.drewN (d := 1) (hW.trans E2.out C2.out)).alloc
      clear hW
      go_wp2
      go_end0
      refine ⟨rfl, ?_⟩
      have e9 : t.call c.m n = (t.set t.hand { h with ws := h.ws ++ List.replicate (400 - h.ws.length) 0 }).fall 4 := by
        unfold Tk.call Tk.words
        rw [HTP.out, HUN.out, if_neg HF.out, if_neg (by have := HBB.out; simp at this; omega)]
      rw [e9]
      exact HW.out
end
end Go.Proofs.YtnfbfdajdflfgaaGreat.Vw

