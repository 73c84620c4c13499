/- The walks of next, Len, Word, take, and of what a stack refuses. -/
import Derived.Test.YtnfbfdajdflfgaaGreatM9
namespace Go.Proofs.YtnfbfdajdflfgaaGreat.Vw
open Go.RowKit Vf Vm

/-- Blocks of a thread. -/
def ThB (L : Lab) (o i : Nat) (b : Nat) : Prop := (L b).cls = 1 ∧ (L b).idx = o ∧ (L b).th = i + 1
/-- Whose the old blocks are stays; new ones are the thread's, or nobody's. -/
def Ex (o i : Nat) (L L' : Lab) (w : World) : Prop := Ext L L' w ∧ ∀ b, L' b = L b ∨ ((L' b).cls = 1 ∧ (L' b).idx = o ∧ (L' b).th = i + 1)
/-- The same, the stack's own block and the row of units being where they were. -/
def SPost (c : Cx) (L : Lab) (o i : Nat) (P : Nat → Nat) (w w' : World) (h : Th) (S : Nat) (vU : Value) : Prop := ∃ L' g r, ThIn c L' o i P w' h S g r vU ∧ Ex o i L L' w ∧ LOk c.B L' w' ∧ Chg (ThB L o i) w w'
/-- What is left of a thread, nothing else having turned. -/
def TPost (c : Cx) (L : Lab) (o i : Nat) (P : Nat → Nat) (w w' : World) (h : Th) : Prop := ∃ L' S g r vU, ThIn c L' o i P w' h S g r vU ∧ Ex o i L L' w ∧ LOk c.B L' w' ∧ Chg (ThB L o i) w w'

theorem SPost.toT {c : Cx} {L : Lab} {o i : Nat} {P : Nat → Nat} {w w' : World} {h : Th} {S : Nat} {vU : Value} (H : SPost c L o i P w w' h S vU) : TPost c L o i P w w' h := by
  obtain ⟨L', g, r, h1, h2⟩ := H
  exact ⟨L', S, g, r, vU, h1, h2⟩
theorem LOk.on {B : Nat} {L : Lab} {w w' : World} (h : LOk B L w) (hz : w.heap.size ≤ w'.heap.size) : LOk B L w' := ⟨h.low, fun b hb => h.new b (by omega), by have := h.size; omega⟩
theorem Ext.refl (L : Lab) (w : World) : Ext L L w := fun _ _ => rfl
theorem Ext.trans {L L1 L2 : Lab} {w w1 : World} (h : Ext L L1 w) (k : Ext L1 L2 w1) (hz : w.heap.size ≤ w1.heap.size) : Ext L L2 w := fun b hb => (k b (by omega)).trans (h b hb)
theorem Ex.refl (o i : Nat) (L : Lab) (w : World) : Ex o i L L w := ⟨.refl _ _, fun _ => .inl rfl⟩
theorem Ex.trans {o i : Nat} {L L1 L2 : Lab} {w w1 : World} (h : Ex o i L L1 w) (k : Ex o i L1 L2 w1) (hz : w.heap.size ≤ w1.heap.size) : Ex o i L L2 w := ⟨h.1.trans k.1 hz, fun b => by
  rcases k.2 b with e | e
  · rcases h.2 b with e2 | e2
    · exact .inl (e.trans e2)
    · rw [← e] at e2; exact .inr e2
  · exact .inr e⟩
theorem ex_if {o i : Nat} {L : Lab} {w : World} (x p : Nat) (h : Ext L (fun b => if b = x then ⟨1, o, i + 1, p⟩ else L b) w) : Ex o i L (fun b => if b = x then ⟨1, o, i + 1, p⟩ else L b) w := ⟨h, fun b => by
  by_cases e : b = x
  · right; simp [e]
  · left; simp [e]⟩

/-- The stack has turned. -/
theorem ThIn.stacked {c : Cx} {L : Lab} {o i : Nat} {P : Nat → Nat} {w w' : World} {h : Th} {S g r g' r' : Nat} {vU : Value} {ws' : List Int} (H : ThIn c L o i P w h S g r vU) (hL : LOk c.B L w) (hS : Sb.SK w' S g' ws' r' 8 400) (hM : Sb.Mv w w' S g) (hg : g' = g ∨ w.heap.size ≤ g') : SPost c L o i P w w' { h with ws := ws' } S vU := by
  obtain ⟨cs', hc', _⟩ := hS.2.1
  obtain ⟨cs, hc, _⟩ := H.stack.2.1
  have z0 := lt_of_block H.blk
  have z1 := lt_of_block H.stack.1
  have z2 := lt_of_block hc
  have n01 : P i ≠ S := fun e => by have a := H.l0; have b := H.l1; rw [e, b] at a; cases a
  have n02 : P i ≠ g := fun e => by have a := H.l0; have b := H.l2; rw [e, b] at a; cases a
  have n31 : ∀ U, vU.ownBlock = some U → U ≠ S := fun U hU e => by have a := H.l3 U hU; have b := H.l1; rw [e, b] at a; cases a
  have n32 : ∀ U, vU.ownBlock = some U → U ≠ g := fun U hU e => by have a := H.l3 U hU; have b := H.l2; rw [e, b] at a; cases a
  have n12 : S ≠ g := fun e => by have a := H.l1; have b := H.l2; rw [e, b] at a; cases a
  have far : ∀ b, b < w.heap.size → b ≠ g → b ≠ g' := fun b hb hn e => by rcases hg with hg | hg <;> omega
  have ext : Ext L (fun b => if b = g' then ⟨1, o, i + 1, 2⟩ else L b) w := fun b hb => by
    by_cases e : b = g'
    · have : b = g := by rcases hg with hg | hg <;> omega
      simp only [e, if_true]; rw [← e, this, H.l2]
    · simp only [e, if_false]
  refine ⟨_, g', r', ⟨(hM.block _ z0 n01 n02).trans H.blk, hS, own_keep H.row (fun b hb => hM.block b (H.lt b hb) (n31 b hb) (n32 b hb)), H.few, (ext _ z0).trans H.l0, (ext _ z1).trans H.l1, by simp, fun U hU => (ext _ (H.lt U hU)).trans (H.l3 U hU)⟩, ex_if _ _ ext, ⟨fun b hb => ?_, fun b hb => ?_, by have := hL.size; have := hM.size; omega⟩, Chg.of_mv hM ?_ ?_⟩
  · have hb2 := hL.low b hb
    have e : b ≠ g' := fun e => by
      rcases hg with hg | hg
      · have := H.l2; rw [← hg, ← e] at this; rw [this] at hb2; cases hb2
      · have := hL.size; omega
    simp only [e, if_false]; exact hb2
  · have e : b ≠ g' := fun e => by have := lt_of_block hc'; omega
    simp only [e, if_false]; exact hL.new b (by have := hM.size; omega)
  · show (L S).cls = 1 ∧ _; rw [H.l1]; exact ⟨rfl, rfl, rfl⟩
  · show (L g).cls = 1 ∧ _; rw [H.l2]; exact ⟨rfl, rfl, rfl⟩

theorem SPost.of_same {c : Cx} {L : Lab} {o i : Nat} {P : Nat → Nat} {w : World} {h : Th} {S g r : Nat} {vU : Value} (H : ThIn c L o i P w h S g r vU) (hL : LOk c.B L w) (d : Nat) : SPost c L o i P w (w.drewN d) h S vU :=
  ⟨L, g, r, H.drewN d, .refl _ _ _ _, hL.on (Nat.le_refl _), (Chg.refl _ _).drewN d⟩

theorem TPost.drewN {c : Cx} {L : Lab} {o i : Nat} {P : Nat → Nat} {w w' : World} {h : Th} {d : Nat} (H : TPost c L o i P (w.drewN d) w' h) : TPost c L o i P w w' h := by
  obtain ⟨L', S, g, r, vU, h1, h2, h3, h4⟩ := H
  exact ⟨L', S, g, r, vU, h1, h2, h3, h4.os, h4.tape, h4.output, h4.size, h4.block⟩
theorem SPost.drewN {c : Cx} {L : Lab} {o i : Nat} {P : Nat → Nat} {w w' : World} {h : Th} {S : Nat} {vU : Value} {d : Nat} (H : SPost c L o i P (w.drewN d) w' h S vU) : SPost c L o i P w w' h S vU := by
  obtain ⟨L', g, r, h1, h2, h3, h4⟩ := H
  exact ⟨L', g, r, h1, h2, h3, h4.os, h4.tape, h4.output, h4.size, h4.block⟩
set_option maxHeartbeats 400000 in
theorem len_any (S g : Nat) (ws : List Int) (r mn most : Nat) (w : World) (h : Hid (Sb.SK w S g ws r mn most)) :
    Calls Tryz.prog 67 #[.pointer (some ⟨S, 0, none⟩)] w fun e w' => e = .returned (.int .i64 ws.length) ∧ w' = w := by
  obtain ⟨c0, c1, c2, c3⟩ := h.out.cells
  go_enter Tryz.func67, Tryz.ntmps67
  go_wp2
  go_ret
  exact ⟨rfl, rfl⟩

theorem add_none (b off j : Nat) : (⟨b, off, none⟩ : Addr).add j = ⟨b, off + j, none⟩ := by unfold Addr.add; split <;> simp_all
def wordAt (ws : List Int) (n : Int) : Int := if n < 0 then 0 else (ws[n.toNat]?).getD 0

set_option maxHeartbeats 400000 in
theorem word_any (S g : Nat) (ws : List Int) (r mn most : Nat) (n v : Int) (w : World) (h : Hid (Sb.SK w S g ws r mn most)) (hv : Hid (v = wordAt ws n)) :
    Calls Tryz.prog 46 #[.pointer (some ⟨S, 0, none⟩), .int .i64 n] w fun e w' => e = .returned (.int .i64 v) ∧ ∃ d, w' = w.drewN d := by
  obtain ⟨c0, c1, c2, c3⟩ := h.out.cells
  have hfit := h.out.2.2
  unfold Sk.Fits at hfit
  obtain ⟨h3, h4, h5, h6, h7⟩ := hfit
  by_cases hz : n < 0
  · have HV : Hid (v = 0) := by unfold Hid; rw [hv.out]; unfold wordAt; rw [if_pos hz]
    go_enter Tryz.func46, Tryz.ntmps46
    go_wp2
    go_ret
    exact ⟨by rw [HV.out]; rfl, 0, rfl⟩
  · by_cases hl : (ws.length : Int) ≤ n
    · have HV : Hid (v = 0) := by unfold Hid; rw [hv.out]; unfold wordAt; rw [if_neg hz, List.getElem?_eq_none (by omega)]; rfl
      go_enter Tryz.func46, Tryz.ntmps46
      go_wp2
      go_ret
      exact ⟨by rw [HV.out]; rfl, 0, rfl⟩
    · obtain ⟨k, rfl⟩ : ∃ k : Nat, n = k := ⟨n.toNat, by omega⟩
      have hk : k < ws.length := by omega
      have cu : w.cell? ⟨g, k, none⟩ = some (.int .i64 v) := by
        have := h.out.2.1.cellAt k (.int .i64 v) (by
          rw [hv.out]
          unfold wordAt
          rw [if_neg hz]
          simp [hk])
        rw [add_none, Nat.zero_add] at this
        exact this
      have n0 : (0 : Int) ≤ (k : Int) := by omega
      have n1 : (k : Int) < (ws.length : Int) := by omega
      have n2 : (k : Int) < (r : Int) := by omega
      go_enter Tryz.func46, Tryz.ntmps46
      go_wp2
      go_ret
      exact ⟨rfl, 0, rfl⟩

set_option maxHeartbeats 400000 in
theorem pop_none (S g : Nat) (ws : List Int) (r mn most : Nat) (n : Int) (w : World) (h : Hid (Sb.SK w S g ws r mn most)) (hn : n < 0 ∨ (ws.length : Int) < n) :
    Calls Tryz.prog 69 #[.pointer (some ⟨S, 0, none⟩), .int .i64 n] w fun e w' => e = .returned (.int .i64 3) ∧ w' = w := by
  obtain ⟨c0, c1, c2, c3⟩ := h.out.cells
  by_cases hz : n < 0
  · go_enter Tryz.func69, Tryz.ntmps69
    go_wp2
    go_ret
    exact ⟨rfl, rfl⟩
  · have hz2 : (ws.length : Int) < n := by omega
    clear hn
    go_enter Tryz.func69, Tryz.ntmps69
    go_wp2
    go_ret
    exact ⟨rfl, rfl⟩

set_option maxHeartbeats 400000 in
theorem set_none (S g : Nat) (ws : List Int) (r mn most : Nat) (n v : Int) (w : World) (h : Hid (Sb.SK w S g ws r mn most)) (hn : n < 0 ∨ (ws.length : Int) ≤ n) :
    Calls Tryz.prog 47 #[.pointer (some ⟨S, 0, none⟩), .int .i64 n, .int .i64 v] w fun e w' => e = .returned (.int .i64 3) ∧ w' = w := by
  obtain ⟨c0, c1, c2, c3⟩ := h.out.cells
  by_cases hz : n < 0
  · go_enter Tryz.func47, Tryz.ntmps47
    go_wp2
    go_ret
    exact ⟨rfl, rfl⟩
  · have hz2 : (ws.length : Int) ≤ n := by omega
    clear hn
    go_enter Tryz.func47, Tryz.ntmps47
    go_wp2
    go_ret
    exact ⟨rfl, rfl⟩

set_option maxHeartbeats 400000 in
theorem push_none (S g : Nat) (ws : List Int) (r mn most : Nat) (v : Int) (w : World) (h : Hid (Sb.SK w S g ws r mn most)) (hf : Hid (ws.length = most)) :
    Calls Tryz.prog 40 #[.pointer (some ⟨S, 0, none⟩), .int .i64 v] w fun e w' => e = .returned (.int .i64 4) ∧ ∃ d, w' = w.drewN d := by
  obtain ⟨c0, c1, c2, c3⟩ := h.out.cells
  have e1 : ((ws.length : Int) == (most : Int)) = true := by have := hf.out; simp; omega
  go_enter Tryz.func40, Tryz.ntmps40
  go_wp2
  go_region_held3 (fun w' => w'.cell? ⟨S, 1, none⟩ = some (.int .i64 ws.length) ∧ w'.cell? ⟨S, 3, none⟩ = some (.int .i64 most)) (go_keep) (fail)
  go_wp2
  go_ret
  exact ⟨rfl, 1, rfl⟩

theorem SK.drewN {w : World} {S g : Nat} {ws : List Int} {r mn most : Nat} (h : Sb.SK w S g ws r mn most) (d : Nat) : Sb.SK (w.drewN d) S g ws r mn most := h

/-- Pop of a thread's stack: what there isn't isn't taken. -/
theorem pop_th (c : Cx) (L : Lab) (o i : Nat) (P : Nat → Nat) (w : World) (h : Th) (S g r : Nat) (vU : Value) (H : Hid (ThIn c L o i P w h S g r vU)) (hL : Hid (LOk c.B L w)) (n : Int) (ws' : List Int) (hw : Hid (ws' = if n < 0 ∨ (h.ws.length : Int) < n then h.ws else h.ws.take (h.ws.length - n.toNat))) :
    Calls Tryz.prog 69 #[.pointer (some ⟨S, 0, none⟩), .int .i64 n] w fun e w' => (∃ x, e = .returned (.int .i64 x)) ∧ SPost c L o i P w w' { h with ws := ws' } S vU := by
  by_cases hn : n < 0 ∨ (h.ws.length : Int) < n
  · refine (pop_none S g h.ws r 8 400 n w H.out.stack hn).mono ?_
    rintro e w' ⟨rfl, rfl⟩
    have hw := hw.out
    rw [if_pos hn] at hw
    rw [hw]
    exact ⟨⟨_, rfl⟩, SPost.of_same H.out hL.out 0⟩
  · obtain ⟨k, rfl⟩ : ∃ k : Nat, n = k := ⟨n.toNat, by omega⟩
    have hw := hw.out
    rw [if_neg hn, Int.toNat_natCast] at hw
    rw [hw]
    by_cases hc : h.ws.length - k ≤ r / 4 ∧ 8 < r
    · refine (Sb.pop_move S g h.ws r (max (r / 2) 8) 8 400 k w H.out.stack (by omega) hc.1 hc.2 rfl).mono ?_
      rintro e w' ⟨rfl, hS', hM⟩
      exact ⟨⟨_, rfl⟩, H.out.stacked hL.out hS' hM (.inr (Nat.le_refl _))⟩
    · refine (Sb.pop_keep S g h.ws r 8 400 k w H.out.stack (by omega) hc).mono ?_
      rintro e w' ⟨rfl, hS', hM⟩
      exact ⟨⟨_, rfl⟩, H.out.stacked hL.out hS' hM (.inl rfl)⟩

/-- Push on a thread's stack. -/
theorem push_th (c : Cx) (L : Lab) (o i : Nat) (P : Nat → Nat) (w : World) (h : Th) (S g r : Nat) (vU : Value) (H : Hid (ThIn c L o i P w h S g r vU)) (hL : Hid (LOk c.B L w)) (v : Int) (E : Nat) (hE : Hid (E = if h.ws.length = 400 then 4 else 0)) (ws' : List Int) (hw : Hid (ws' = if h.ws.length = 400 then h.ws else h.ws ++ [v])) :
    Calls Tryz.prog 40 #[.pointer (some ⟨S, 0, none⟩), .int .i64 v] w fun e w' => e = .returned (.int .i64 E) ∧ SPost c L o i P w w' { h with ws := ws' } S vU := by
  have hE := hE.out
  have hw := hw.out
  have hfit := H.out.stack.2.2
  by_cases hn : h.ws.length = 400
  · refine (push_none S g h.ws r 8 400 v w H.out.stack hn).mono ?_
    rintro e w' ⟨rfl, d, rfl⟩
    rw [if_pos hn] at hw hE
    rw [hw, hE]
    exact ⟨rfl, SPost.of_same H.out hL.out d⟩
  · rw [if_neg hn] at hw hE
    rw [hw, hE]
    unfold Sk.Fits at hfit
    by_cases hr : h.ws.length = r
    · refine (Sb.push_grow S g h.ws r (min (2 * r) 400) 8 400 v w H.out.stack hr (by omega) rfl).mono ?_
      rintro e w' ⟨rfl, hS', hC, hM⟩
      exact ⟨rfl, H.out.stacked hL.out ⟨by simpa using hS', hC, by unfold Sk.Fits; simp; omega⟩ hM (.inr (Nat.le_refl _))⟩
    · refine (Sb.push_room S g h.ws r 8 400 v w H.out.stack (by omega)).mono ?_
      rintro e w' ⟨rfl, hS', hC, hM⟩
      exact ⟨rfl, H.out.stacked hL.out ⟨by simpa using hS', hC, by unfold Sk.Fits; simp; omega⟩ hM (.inl rfl)⟩

end Go.Proofs.YtnfbfdajdflfgaaGreat.Vw

/- The walks of next and take. -/
namespace Go.Proofs.YtnfbfdajdflfgaaGreat.Vw
open Go.RowKit Vf Vm

theorem below_drewN {B : Nat} {w w' : World} (h : Below B w w') (n : Nat) : Below B w (w'.drewN n) := ⟨h.os, h.tape, h.output, h.size, h.block⟩
abbrev insV (x : Ins) : Value := .agg #[.int .i64 x.op, .int .i64 x.a, .int .i64 x.n]

set_option maxHeartbeats 1000000 in
theorem next_any (c : Cx) (L : Lab) (o i : Nat) (P : Nat → Nat) (w : World) (h : Th) (S g r : Nat) (vU : Value) (H : Hid (ThIn c L o i P w h S g r vU)) (hC : Hid (CxIn c w)) (hL : Hid (LOk c.B L w)) (f : Wk) (rs : List Wk) (hf : Hid (h.fs = f :: rs)) (u : Un) (hu : Hid (c.m.units[f.u]? = some u)) (x : Ins) (hx : Hid (u.code[f.pc]? = some x)) :
    Calls Tryz.prog 43 #[.pointer (some ⟨P i, 0, none⟩)] w fun e w' => e = .returned (insV x) ∧ Below w.heap.size w w' := by
  obtain ⟨U, cap, cur, hU, hh, _⟩ := H.out.work hf.out
  obtain ⟨k0, k1, k2, k3⟩ := H.out.inner hf.out hU
  have HU := Sb.hide hU
  clear hU
  obtain ⟨b0, off0, al, cl, _, _, hun, _⟩ := hC.out.units _ _ hu.out
  obtain ⟨q1, q2, q3, b, off, ec, hb, x0, x1, x2⟩ := hun.code _ _ hx.out
  have hpl : f.pc < u.code.length := (List.getElem?_eq_some_iff.1 hx.out).1
  have hcc := hun.caps.2
  have hcl := hun.few.2
  have hz : b < w.heap.size := by have := hL.out.size; omega
  have hUz : U < w.heap.size := lt_of_block hh
  clear hh
  have eu : (unit c.m f.u).code = u.code := by rw [show unit c.m f.u = u by simp [unit, hu.out]]
  unfold codeV at k0
  rw [eu, ec] at k0
  obtain ⟨Len, hLen⟩ : ∃ n, n = u.code.length := ⟨_, rfl⟩
  rw [← hLen] at k0 hpl hcl
  have n0 : (0 : Int) ≤ (f.pc : Int) := by omega
  have n1 : (f.pc : Int) < (Len : Int) := by omega
  have hne : ¬ U = w.heap.size := by omega
  have hne2 : ¬ b = w.heap.size := by omega
  have hne3 : ¬ w.heap.size = U := by omega
  have hne4 : ¬ w.heap.size = b := by omega
  clear eu hun ec hLen hcc
  go_enter Tryz.func43, Tryz.ntmps43
  go_wp2_with fail
  refine (inner_any c L o i P _ h S g r vU (H.out.keep (.refl _ _) rfl rfl (fun b hb _ => Below.heap_alloc _ _ _ hb)) f rs hf U cap HU).mono ?_
  rintro e w' ⟨rfl, d, rfl⟩
  go_wp2
  go_region_held3 (fun w' => w'.cell? ⟨U, rs.length * 3, none⟩ = some (.slice (some ⟨b, off, none⟩) Len (c.cc f.u)) ∧ w'.cell? ⟨U, rs.length * 3 + 1, none⟩ = some (.int .i64 f.pc) ∧ w'.cell? ⟨b, off + f.pc * 3, none⟩ = some (.int .i64 x.op) ∧ w'.cell? ⟨b, off + f.pc * 3 + 1, none⟩ = some (.int .i64 x.a) ∧ w'.cell? ⟨b, off + f.pc * 3 + 2, none⟩ = some (.int .i64 x.n)) (go_keep) (fail)
  go_wp2
  refine bodyPost_ret (v := insV x) (by simp [results, Tryz.results43, go_sem]) rfl ⟨rfl, ?_⟩
  exact (((below_drewN ((Below.refl _ w).alloc (Nat.le_refl _) _) _).setCell (p := ⟨w.heap.size, 0, none⟩) (Nat.le_refl _) _).setCell (p := ⟨w.heap.size, 1, none⟩) (Nat.le_refl _) _).setCell (p := ⟨w.heap.size, 2, none⟩) (Nat.le_refl _) _

theorem wordAt_last (ws : List Int) : wordAt ws ((ws.length : Int) - 1) = (ws.getLast?).getD 0 := by
  unfold wordAt
  cases ws with
  | nil => rfl
  | cons a l =>
    rw [if_neg (by simp), List.getLast?_eq_getElem?]
    have e : (((a :: l).length : Int) - 1).toNat = (a :: l).length - 1 := by simp
    rw [e]
theorem pop_last (ws : List Int) : ws.dropLast = if (1 : Int) < 0 ∨ (ws.length : Int) < 1 then ws else ws.take (ws.length - (1 : Int).toNat) := by
  split
  · rename_i h
    have : ws = [] := List.eq_nil_of_length_eq_zero (by omega)
    rw [this]; rfl
  · rw [List.dropLast_eq_take]; rfl

set_option maxHeartbeats 1000000 in
/-- WHAT take ANSWERS. -/
theorem take_th (c : Cx) (L : Lab) (o i : Nat) (P : Nat → Nat) (w : World) (h : Th) (S g r : Nat) (vU : Value) (H : Hid (ThIn c L o i P w h S g r vU)) (hL : Hid (LOk c.B L w)) (v : Int) (hv : Hid (v = (h.ws.getLast?).getD 0)) :
    Calls Tryz.prog 48 #[.pointer (some ⟨P i, 0, none⟩)] w fun e w' => e = .returned (.int .i64 v) ∧ SPost c L o i P w w' { h with ws := h.ws.dropLast } S vU := by
  obtain ⟨c0, c1, c2, c3⟩ := H.out.cells
  have hfit := H.out.stack.2.2
  unfold Sk.Fits at hfit
  have hfew : h.ws.length ≤ 400 := by omega
  obtain ⟨n, hn⟩ : ∃ n, n = h.ws.length := ⟨_, rfl⟩
  have HN : Hid (n = h.ws.length) := hn
  have hn4 : n ≤ 400 := by omega
  have HWR : Hid (IntKind.i64.wrap ((n : Int) - 1) = (n : Int) - 1) := IntWalk.i64_in _ ⟨by omega, by omega⟩
  clear hfit hn hfew
  go_enter Tryz.func48, Tryz.ntmps48
  go_wp2
  go_region_held3 (fun w' => w'.cell? ⟨P i, 0, none⟩ = some (.pointer (some ⟨S, 0, none⟩))) (go_keep) (first | (go_at_call 46; rw [HWR.out]; refine (word_any S g h.ws r 8 400 _ v _ (by exact H.out.stack) (by unfold Hid; rw [hv.out, HN.out, wordAt_last])).mono ?_; rintro e w' ⟨rfl, d, rfl⟩) | (go_at_call 67; refine (len_any S g h.ws r 8 400 _ (by exact H.out.stack)).mono ?_; rintro e w' ⟨rfl, rfl⟩; rw [← HN.out]))
  go_wp2_with fail
  refine (pop_th c L o i P _ h S g r vU (Sb.hide (H.out.drewN _)) (Sb.hide (hL.out.on (Nat.le_refl _))) 1 _ (pop_last _)).mono ?_
  rintro e w1 ⟨⟨x, rfl⟩, hp⟩
  have HP := Sb.hide hp.drewN
  clear hp
  go_wp2
  go_ret
  exact ⟨rfl, HP.out⟩
end Go.Proofs.YtnfbfdajdflfgaaGreat.Vw

