/- The walk of leave. -/
import Derived.Test.YtekjhefmhhcboaaGreatM24
import Derived.Test.YtekjhefmhhcboaaGreatM3
import Derived.Test.YtekjhefmhhcboaaGreatM20
import Derived.Test.YtekjhefmhhcboaaGreatM21
set_option maxRecDepth 100000
set_option maxHeartbeats 4000000
namespace Go.Proofs.YtekjhefmhhcboaaGreat
open Go.RowKit
theorem goOn_next (c : FC) (B F : Nat) (k : Vf.Kn) (n : Nat) (s : Vf.S) (w : World) (h : Hid (WF c B F w k (n : Int) s)) (hn : s.row.length ≤ 100000000) (r : Except Int Vf.S) (hr : Hid (r = Vf.goOn c.u.code.length k ((n : Int) + 1) s)) :
  Calls Tryz.prog 91 #[.pointer (some ⟨F, 0, none⟩), .int .i64 ((n : Int) + 1)] w fun e w' => GEnd c B F k (n : Int) r w e w' :=
 goOn_any c B F k (n : Int) s (n + 1) w h hn r hr
theorem leave_any (c : FC) (B F : Nat) (k : Vf.Kn) (n : Nat) (s : Vf.S) (op a nn : Int) (w : World) (h : Hid (WF c B F w k (n : Int) s)) (hn : s.row.length ≤ 99999999) (hn4 : n ≤ 4000) (hfm : Hid (Vf.formE c.m c.u ⟨op, a, nn⟩ = 0)) (hI : Hid (Inv c.m c.u s)) (hk : Hid (OkS c.m k.st)) (r : Except Int Vf.S) (hr : Hid (r = Vf.goAll c.u.code.length k (Vf.goes ⟨op, a, nn⟩ n) s)) :
  Calls Tryz.prog 68 #[.pointer (some ⟨F, 0, none⟩), .agg #[.int .i64 op, .int .i64 a, .int .i64 nn]] w fun e w' => GEnd c B F k (n : Int) r w e w' := by
 have hB : B ≤ w.heap.size := by have := h.out.env.base; have := h.out.env.lt; omega
 have hlt := h.out.env.lt
 have HB1 : Hid (Below B w (w.alloc (insO op a nn))) := (Below.refl B w).alloc hB _
 have HW1 : Hid (WF c B F (w.alloc (insO op a nn)) k (n : Int) s) := h.out.quiet (grown0_newA (World.grownBy.refl _ _) _)
 obtain ⟨top, rv, hF, _⟩ := h.out.fl
 have c14 := (fl_cells4 hF.blk).1
 have e1 : IntKind.i64.wrap ((n : Int) + 1) = (n : Int) + 1 := by simp [IntKind.wrap, IntKind.bits, IntKind.signed]; omega
 clear hF
 by_cases h24 : op = 24 ∨ op = 25
 ·have HR : Hid (r = .ok s) := by unfold Hid; rw [hr.out, Vf.goes, if_pos h24]; rfl
  rcases h24 with rfl | rfl
  ·go_enter Tryz.func68, Tryz.ntmps68
   go_wp2
   go_end0
   exact GEnd.good HB1.out HR.out HW1.out
  ·go_enter Tryz.func68, Tryz.ntmps68
   go_wp2
   go_end0
   exact GEnd.good HB1.out HR.out HW1.out
 ·by_cases h21 : op = 21
  ·subst h21
   obtain ⟨tg, rfl, _⟩ := ranged_lt (L := c.u.code.length) hfm.out rfl
   have HR : Hid (r = Vf.goOn c.u.code.length k (tg : Int) s) := by
    unfold Hid
    rw [hr.out]
    show Vf.andThen (Vf.goOn c.u.code.length k (tg : Int) s) _ = _
    cases Vf.goOn c.u.code.length k (tg : Int) s <;> rfl
   clear hr h24
   go_enter Tryz.func68, Tryz.ntmps68
   go_wp2_with fail
   refine (goOn_any c B F k (n : Int) s tg _ HW1 (by omega) r HR).mono ?_
   rintro e w9 hS
   have HB9 : Hid (Below B w w9) := HB1.out.trans hS.below
   cases r with
   | error er =>
    obtain rfl := hS.no er rfl
    clear hS
    go_wp2
    exact ⟨rfl, GEnd.bad HB9.out rfl⟩
   | ok s9 =>
    obtain ⟨rfl, hW9⟩ := hS.yes s9 rfl
    have HW9 := hide hW9
    clear hS hW9
    go_wp2
    go_end0
    exact GEnd.good HB9.out rfl HW9.out
  ·by_cases h22 : op = 22
   ·subst h22
    obtain ⟨tg, rfl, _⟩ := ranged_lt (L := c.u.code.length) hfm.out rfl
    obtain ⟨r1, hr1⟩ : ∃ r1, r1 = Vf.goOn c.u.code.length k (tg : Int) s := ⟨_, rfl⟩
    have HR1 := hide hr1
    have HR : Hid (r = Vf.andThen r1 fun s1 => Vf.goOn c.u.code.length k ((n : Int) + 1) s1) := by
     unfold Hid
     rw [hr.out]
     show Vf.andThen (Vf.goOn c.u.code.length k (tg : Int) s) (Vf.goAll c.u.code.length k [((n : Int) + 1)]) = _
     rw [← hr1]
     cases r1 with
     | error e => rfl
     | ok s1 =>
      show Vf.andThen (Vf.goOn c.u.code.length k ((n : Int) + 1) s1) _ = Vf.goOn c.u.code.length k ((n : Int) + 1) s1
      cases Vf.goOn c.u.code.length k ((n : Int) + 1) s1 <;> rfl
    have HL : Hid (∀ s1, r1 = .ok s1 → s1.row.length ≤ 100000000) := fun s1 e => by
     have := (goOn_inv hI.out (by omega) hk.out (hr1.symm.trans e)).2
     omega
    clear hr hr1 h24 h21
    go_enter Tryz.func68, Tryz.ntmps68
    go_wp2_with fail
    refine (goOn_any c B F k (n : Int) s tg _ HW1 (by omega) r1 HR1).mono ?_
    rintro e w2 hS
    have HB2 : Hid (Below B w w2) := HB1.out.trans hS.below
    cases r1 with
    | error er =>
     obtain rfl := hS.no er rfl
     have HE : Hid (r = .error er) := HR.out
     clear hS
     go_wp2
     exact ⟨rfl, GEnd.bad HB2.out HE.out⟩
    | ok s1 =>
     obtain ⟨rfl, hW2⟩ := hS.yes s1 rfl
     have HW2 := hide hW2
     have hl1 := HL.out s1 rfl
     have HR2 : Hid (r = Vf.goOn c.u.code.length k ((n : Int) + 1) s1) := HR.out
     obtain ⟨top2, rv2, hF2, _⟩ := hW2.fl
     have d14 := (fl_cells4 hF2.blk).1
     clear hS hW2 hF2 HR HL HR1 c14
     go_wp2_with fail
     refine (goOn_next c B F k n s1 _ HW2 hl1 r HR2).mono ?_
     rintro e w9 hS
     have HB9 : Hid (Below B w w9) := HB2.out.trans hS.below
     cases r with
     | error er =>
      obtain rfl := hS.no er rfl
      clear hS
      go_wp2
      exact ⟨rfl, GEnd.bad HB9.out rfl⟩
     | ok s9 =>
      obtain ⟨rfl, hW9⟩ := hS.yes s9 rfl
      have HW9 := hide hW9
      clear hS hW9
      go_wp2
      go_end0
      exact GEnd.good HB9.out rfl HW9.out
   ·have HR : Hid (r = Vf.goOn c.u.code.length k ((n : Int) + 1) s) := by
     unfold Hid
     rw [hr.out, Vf.goes, if_neg h24, if_neg h21, if_neg h22]
     show Vf.andThen (Vf.goOn c.u.code.length k ((n : Int) + 1) s) _ = _
     cases Vf.goOn c.u.code.length k ((n : Int) + 1) s <;> rfl
    have g24 : (op == 24) = false := by simp; omega
    have g25 : (op == 25) = false := by simp; omega
    have g21 : (op == 21) = false := by simpa using h21
    have g22 : (op == 22) = false := by simpa using h22
    clear hr h24 h21 h22
    go_enter Tryz.func68, Tryz.ntmps68
    go_wp2_with fail
    refine (goOn_next c B F k n s _ HW1 (by omega) r HR).mono ?_
    rintro e w9 hS
    have HB9 : Hid (Below B w w9) := HB1.out.trans hS.below
    cases r with
    | error er =>
     obtain rfl := hS.no er rfl
     clear hS
     go_wp2
     exact ⟨rfl, GEnd.bad HB9.out rfl⟩
    | ok s9 =>
     obtain ⟨rfl, hW9⟩ := hS.yes s9 rfl
     have HW9 := hide hW9
     clear hS hW9
     go_wp2
     go_end0
     exact GEnd.good HB9.out rfl HW9.out
def Thrown (er num : Int) (e : Ending) : Prop := e = if er = 0 then .returned (.tuple #[]) else .panicked [fltE er num]
theorem thrown_ok : Thrown 0 0 (.returned (.tuple #[])) := rfl
theorem thrown_no {er num : Int} (h : er ≠ 0) : Thrown er num (.panicked [fltE er num]) := by unfold Thrown; rw [if_neg h]
def WAt (c : FC) (B F : Nat) (er num : Int) (w : World) (gk : Nat) (W : World) : Prop :=
 ∃ k n s, WF c B F W k n s ∧ Below B w W ∧ Inv c.m c.u s ∧ Vf.mu c.u.code.length s < gk ∧ Vf.mu c.u.code.length s ≤ 3000000 ∧ (er, num) = ((Vf.flow c.m c.u gk s).1, ((Vf.flow c.m c.u gk s).2 : Int))
theorem cells_set {w : World} {N : Nat} {cs : Array Value} {t : TypeId} {fr : Nat × Nat} (h : w.heap[N]? = some (.cells cs t fr)) (o : Nat) (v : Value) : (w.setCell ⟨N, o, none⟩ v).heap[N]? = some (.cells (cs.setIfInBounds o v) t fr) := by
 simp only [World.setCell, Array.getElem?_modify, if_true, h, Option.map_some]
 rfl
theorem WF.front {c : FC} {B F i : Nat} {w : World} {k : Vf.Kn} {n : Int} {come : Nat → Option Vf.Kn} {rest : List Nat} {top : Option Addr} {rv rv' : Value} (h : WF c B F w k n ⟨come, i :: rest⟩) (hF : FlIn c w F top k.st k.fl n rv) (hq : QR w B rv' rest) : WF c B F ((w.setCell ⟨F, 14, none⟩ (.int .i64 (i : Int))).setCell ⟨F, 15, none⟩ rv').drew k (i : Int) ⟨come, rest⟩ ∧ Below B w ((w.setCell ⟨F, 14, none⟩ (.int .i64 (i : Int))).setCell ⟨F, 15, none⟩ rv').drew := by
 have hg : w.grownBy ((w.setCell ⟨F, 14, none⟩ (.int .i64 (i : Int))).setCell ⟨F, 15, none⟩ rv').drew (some F) := grown_drew2 (grown_set (grown_set (grown_refl w F) 14 _) 15 _)
 have hne := h.come.ne hF.blk
 have kc := kc_block hg hF.blk (fun cs e => by cases e)
 refine ⟨⟨h.env.grown hg, h.mB, ⟨top, rv', ⟨?_, hF.sk.keep kc⟩, hq.keep fun j hj => hg.block j (hq.lt j hj).2 (fun e => hq.ty hF.blk (fun cs fr e2 => by cases e2) (by rw [hj, ← e]))⟩, h.come.keep (hg.block _ h.come.lt (by simp; omega)) kc⟩, below_grown hg (by have := h.env.base; have := h.env.lt; omega) (fun j e => by cases e; exact h.env.base)⟩
 show ((w.setCell ⟨F, 14, none⟩ (.int .i64 (i : Int))).setCell ⟨F, 15, none⟩ rv').heap[F]? = _
 simp only [World.setCell, Array.getElem?_modify, if_true, hF.blk, Option.map_some]
 rfl
theorem fl_six (c : FC) (top top' : Option Addr) (k kn : Vf.Kn) (n : Int) (rv : Value) : some (Obj.cells (((((((#[.slice c.ab c.m.boxes.length c.cb, .slice c.au c.m.units.length c.cu, .int .i64 c.u.kind, .int .i64 c.u.params, .slice c.al c.u.locals.length c.cl, .int .i64 c.u.result, .int .i64 c.u.takes, .slice c.ac c.u.code.length c.cc, .pointer top, .int .i64 (k.st.length : Int), bvV k.fl.a, bvV k.fl.b, bvV k.fl.c, bvV k.fl.d, .int .i64 n, rv, .map (some c.M)] : Array Value).setIfInBounds 8 (.pointer top')).setIfInBounds 9 (.int .i64 (kn.st.length : Int))).setIfInBounds 10 (bvV kn.fl.a)).setIfInBounds 11 (bvV kn.fl.b)).setIfInBounds 12 (bvV kn.fl.c)).setIfInBounds 13 (bvV kn.fl.d)) 119 (0, 0)) = some (flO c top' kn.st kn.fl n rv) := by
 simp only [List.setIfInBounds_toArray, List.set_cons_succ, List.set_cons_zero]
theorem fl_load {c : FC} {w : World} {F : Nat} {top top' : Option Addr} {k kn : Vf.Kn} {n : Int} {rv : Value} (h : w.heap[F]? = some (flO c top k.st k.fl n rv)) : ((((((w.setCell ⟨F, 8, none⟩ (.pointer top')).setCell ⟨F, 9, none⟩ (.int .i64 (kn.st.length : Int))).setCell ⟨F, 10, none⟩ (bvV kn.fl.a)).setCell ⟨F, 11, none⟩ (bvV kn.fl.b)).setCell ⟨F, 12, none⟩ (bvV kn.fl.c)).setCell ⟨F, 13, none⟩ (bvV kn.fl.d)).heap[F]? = some (flO c top' kn.st kn.fl n rv) := by
 have h1 := cells_set (cells_set (cells_set (cells_set (cells_set (cells_set h 8 (.pointer top')) 9 (.int .i64 (kn.st.length : Int))) 10 (bvV kn.fl.a)) 11 (bvV kn.fl.b)) 12 (bvV kn.fl.c)) 13 (bvV kn.fl.d)
 rw [h1]
 exact fl_six c top top' k kn n rv
theorem WF.load {c : FC} {B F : Nat} {w : World} {k kn : Vf.Kn} {n : Int} {s : Vf.S} {top top' : Option Addr} {rv : Value} (h : WF c B F w k n s) (hF : FlIn c w F top k.st k.fl n rv) (hs : SkIn w top' kn.st) :
  WF c B F ((((((w.setCell ⟨F, 8, none⟩ (.pointer top')).setCell ⟨F, 9, none⟩ (.int .i64 (kn.st.length : Int))).setCell ⟨F, 10, none⟩ (bvV kn.fl.a)).setCell ⟨F, 11, none⟩ (bvV kn.fl.b)).setCell ⟨F, 12, none⟩ (bvV kn.fl.c)).setCell ⟨F, 13, none⟩ (bvV kn.fl.d)).drew kn n s ∧ Below B w ((((((w.setCell ⟨F, 8, none⟩ (.pointer top')).setCell ⟨F, 9, none⟩ (.int .i64 (kn.st.length : Int))).setCell ⟨F, 10, none⟩ (bvV kn.fl.a)).setCell ⟨F, 11, none⟩ (bvV kn.fl.b)).setCell ⟨F, 12, none⟩ (bvV kn.fl.c)).setCell ⟨F, 13, none⟩ (bvV kn.fl.d)).drew := by
 have hg0 := grown_set (grown_set (grown_set (grown_set (grown_set (grown_set (grown_refl w F) 8 (.pointer top')) 9 (.int .i64 (kn.st.length : Int))) 10 (bvV kn.fl.a)) 11 (bvV kn.fl.b)) 12 (bvV kn.fl.c)) 13 (bvV kn.fl.d)
 have hb := fl_load (top' := top') (kn := kn) hF.blk
 generalize ((((((w.setCell ⟨F, 8, none⟩ (.pointer top')).setCell ⟨F, 9, none⟩ (.int .i64 (kn.st.length : Int))).setCell ⟨F, 10, none⟩ (bvV kn.fl.a)).setCell ⟨F, 11, none⟩ (bvV kn.fl.b)).setCell ⟨F, 12, none⟩ (bvV kn.fl.c)).setCell ⟨F, 13, none⟩ (bvV kn.fl.d)) = X at *
 have hg := grown_drew2 hg0
 refine ⟨h.own (top := top') (rv := rv) hg (FlIn.drew ⟨hb, hs.grown hg0 hF.blk⟩) (fun top2 rv2 h2 => ?_), below_grown hg (by have := h.env.base; have := h.env.lt; omega) (fun j e => by cases e; exact h.env.base)⟩
 have := hF.blk.symm.trans h2.blk
 simp at this
 exact this.2
theorem flow_nil {m : Vf.Md} {u : Vf.Un} {come : Nat → Option Vf.Kn} (f : Nat) : Vf.flow m u f ⟨come, []⟩ = (0, 0) := by cases f <;> rfl
theorem whole_any (c : FC) (B F : Nat) (w : World) (h0 : Hid (FlIn c w F none [] Vf.Fl.none 0 (.slice none 0 0))) (hE : Hid (Env c B F w)) (hC : Hid (ComeIn w c.M (fun _ => none))) (hM : B ≤ c.M) (hR : Hid (Rt c.m)) (hu : Hid (Vf.headE c.m c.u = 0)) (hfo : Hid (Vf.Forms c.m c.u)) (er num : Int) (hr : Hid ((er, num) = ((Vf.flowF c.m c.u).1, ((Vf.flowF c.m c.u).2 : Int)))) :
  Calls Tryz.prog 51 #[.pointer (some ⟨F, 0, none⟩)] w fun e w' => Below B w w' ∧ Thrown er num e := by
 have hlt := hE.out.lt
 have hBF := hE.out.base
 obtain ⟨hz1, hz2, hz3, hz4, hz5, hz6⟩ := sized_true (headE_zero hu.out).2.1
 obtain ⟨p, hp⟩ : ∃ p : Nat, c.u.params = p := ⟨c.u.params.toNat, by omega⟩
 have hp6 : p ≤ 6 := by omega
 have c3 := (fl_cells h0.out.blk).2.2.2.1
 rw [hp] at c3
 have HP : Hid (c.u.params.toNat = p) := by unfold Hid; omega
 clear hp hz2 hz3 hz4
 go_enter Tryz.func51, Tryz.ntmps51
 go_wp2
 go_loopw [9] (fun v wr => ∃ k : Nat, v = .int .i64 k ∧ k ≤ p ∧ Hid (FlIn c wr F none [] (Vf.Fl.first k) 0 (.slice none 0 0)) ∧ Hid (w.grownBy wr (some F))) (fun v _ => p - (intOf v).toNat)
 case atStart => exact ⟨0, rfl, Nat.zero_le _, h0, grown_refl _ _⟩
 case round =>
  obtain ⟨k, rfl, hkp, HF, HG⟩ := hrel
  clear c3
  by_cases hk : k < p
  ·go_wp2_with fail
   refine (fill_any c F none [] (Vf.Fl.first k) 0 (.slice none 0 0) k (by omega) _ HF).mono ?_
   rintro e w1 ⟨rfl, hg1, hF1⟩
   have HG1 : Hid (w.grownBy w1 (some F)) := grown_tr HG.out hg1
   have HF1 : Hid (FlIn c w1 F none [] (Vf.Fl.first (k + 1)) 0 (.slice none 0 0)) := hF1
   clear hg1 hF1
   go_wp2
   go_roundw
   case rel => exact ⟨k + 1, by go_num, by omega, HF1, HG1⟩
   case measure => simp [intOf]; omega
  ·obtain rfl : k = p := by omega
   obtain ⟨d8, d9, _⟩ := fl_cells2 HF.out.blk
   obtain ⟨d10, d11, d12, d13, _⟩ := fl_cells3 HF.out.blk
   have kcw : KC w wr := kc_block HG.out h0.out.blk (fun cs e => by cases e)
   have hne := hC.out.ne h0.out.blk
   have HW : Hid (WF c B F wr ⟨[], Vf.Fl.first k⟩ 0 ⟨fun _ => none, []⟩) := ⟨hE.out.grown HG.out, hM, ⟨none, _, HF.out, QR.nil _ _⟩, hC.out.keep (HG.out.block _ hC.out.lt (by simp; omega)) kcw⟩
   have HB : Hid (Below B w wr) := below_grown HG.out (by omega) (fun j e => by cases e; exact hBF)
   have HST : Hid ((⟨fun _ => none, []⟩ : Vf.S).note 0 ⟨[], Vf.Fl.first k⟩ = Vf.start c.u) := by unfold Hid; unfold Vf.start; rw [HP.out]
   clear kcw hne
   go_wp2_with fail
   refine (note_any c B F ⟨[], Vf.Fl.first k⟩ ⟨[], Vf.Fl.first k⟩ 0 ⟨fun _ => none, []⟩ 0 none _ HW (hide rfl) (Nat.zero_le _)).mono ?_
   rintro e w1 ⟨rfl, hW1, hb1⟩
   rw [HST.out] at hW1
   have HWA : Hid (WAt c B F er num w (Vf.mu c.u.code.length (Vf.start c.u) + 1) w1) := by
    refine ⟨_, _, _, hW1, HB.out.trans hb1, ?_, by omega, ?_, hr.out⟩
    ·refine note_inv ⟨fun i k hk => (by cases hk), fun i hi => (by cases hi)⟩ hz5 ⟨fun t ht => (by cases ht), by simp⟩
    ·have := Vf.mu_start (u := c.u)
     omega
   have HB1 : Hid (Below B w w1) := HB.out.trans hb1
   clear hW1 hb1 d8 d9 d10 d11 d12 d13 hkp hk HW HB HST HF HG
   go_wp2_with fail
   go_loopg [] (Vf.mu c.u.code.length (Vf.start c.u) + 1) (fun gk wr => WAt c B F er num w gk wr)
   case atStart => exact HWA.out
   case round =>
    obtain ⟨kk, n, s, hW, hb, hI, hmu, hm3, hfl⟩ := hrel
    clear HWA HB1
    have hltr := hW.env.lt
    obtain ⟨top, rv, hF, hq⟩ := hW.fl
    obtain ⟨come, row⟩ := s
    have HW := hide hW
    have HB := hide hb
    have HI := hide hI
    have HMU := hide hmu
    have HM3 := hide hm3
    have HFL := hide hfl
    have HF := hide hF
    clear hW hb hI hmu hm3 hfl hF
    cases row with
    | nil =>
     obtain ⟨ar, cr, hrv⟩ := hq.form
     subst hrv
     have d15 := (fl_cells4 HF.out.blk).2.1
     have HE : Hid (er = 0 ∧ num = 0) := by
      have := HFL.out
      rw [flow_nil] at this
      cases this
      exact ⟨rfl, rfl⟩
     clear hq
     go_wp2
     go_end0
     rw [HE.out.1, HE.out.2]
     exact ⟨HB.out, thrown_ok⟩
    | cons i rest =>
     obtain ⟨g, off, cap, hrv, hcap, cx, hq1, hq2⟩ := hq.pop
     subst hrv
     have hgF : g ≠ F := fun e => by
      subst e
      exact hq.ty HF.out.blk (fun cs fr e => by cases e) rfl
     obtain ⟨d14, d15, d16, z14, z15⟩ := fl_cells4 HF.out.blk
     have hL0 : (0 : Int) < (rest.length : Int) + 1 := by omega
     have HQ1 := hide hq1
     have HQ2 := hide hq2
     clear hq hq1 hq2
     go_upto_region 7 with fail
     go_cut [] (fun wx => WF c B F wx kk (i : Int) ⟨come, rest⟩ ∧ Below B wr wx)
     case first =>
      have m0 : (0 : Int) ≤ (rest.length : Int) := by omega
      by_cases hc1 : cap = 1
      ·subst hc1
       have hr0 : rest.length = 0 := by omega
       have HQ := hide (HQ1.out rfl)
       rw [hr0] at d15 hL0 HF
       rw [hr0]
       go_region
       all_goals
        go_wp2_with fail
        go_meet
        exact HW.out.front HF.out HQ.out
      ·have HQ := hide (HQ2.out hc1)
       have hcI : ¬ (cap : Int) = 1 := by omega
       go_region
       all_goals
        go_wp2_with fail
        go_meet
        exact HW.out.front HF.out HQ.out
     case rest =>
      obtain ⟨hW2, hb2⟩ := hcut
      obtain ⟨kn, hkn0⟩ := HI.out.row i List.mem_cons_self
      have hkn : come i = some kn := hkn0
      clear hkn0
      obtain ⟨hil, hok⟩ := HI.out.come i kn hkn
      obtain ⟨x, hx⟩ : ∃ x, c.u.code[i]? = some x := ⟨_, List.getElem?_eq_getElem hil⟩
      have HX := hide hx
      have HOK := hide hok
      have HKN := hide hkn
      have HB2 : Hid (Below B w wc) := HB.out.trans hb2
      have HI2 : Hid (Inv c.m c.u ⟨come, rest⟩) := ⟨HI.out.come, fun j hj => HI.out.row j (List.mem_cons_of_mem _ hj)⟩
      have hil4 : i < 4000 := by omega
      obtain ⟨r, hrr⟩ : ∃ r, r = Vf.look c.m c.u i ⟨come, rest⟩ := ⟨_, rfl⟩
      have HRR : Hid (r = Vf.andThen (Vf.reck c.m c.u x kn) fun k' => Vf.goAll c.u.code.length k' (Vf.goes x i) ⟨come, rest⟩) := by
       unfold Hid
       rw [hrr, Vf.look]
       simp only [hkn, hx]
      have HNZ : Hid (NZ r) := by rw [hrr]; exact look_nz _ _ _ _
      have HLM : Hid (∀ s', r = .ok s' → Vf.mu c.u.code.length s' ≤ Vf.mu c.u.code.length ⟨come, rest⟩) := fun s' e => Vf.look_mu hfo.out (hrr.symm.trans e)
      have HFX : Hid (Vf.formE c.m c.u x = 0) := hfo.out x (List.mem_of_getElem? hx)
      have HMR : Hid (Vf.mu c.u.code.length ⟨come, i :: rest⟩ = Vf.mu c.u.code.length ⟨come, rest⟩ + 1) := Vf.mu_row
      obtain ⟨f, rfl⟩ : ∃ f, gk = f + 1 := ⟨gk - 1, by have := HMU.out; omega⟩
      have HFE : Hid (∀ er', r = .error er' → er = er' ∧ num = (i : Int)) := fun er' e => by
       have h1 := HFL.out
       have h2 : Vf.flow c.m c.u (f + 1) ⟨come, i :: rest⟩ = (er', i) := by
        unfold Vf.flow
        simp only
        rw [← hrr, e]
       rw [h2] at h1
       cases h1
       exact ⟨rfl, rfl⟩
      have HFO : Hid (∀ s', r = .ok s' → (er, num) = ((Vf.flow c.m c.u f s').1, ((Vf.flow c.m c.u f s').2 : Int))) := fun s' e => by
       have h1 := HFL.out
       have h2 : Vf.flow c.m c.u (f + 1) ⟨come, i :: rest⟩ = Vf.flow c.m c.u f s' := by
        conv => lhs; unfold Vf.flow
        simp only
        rw [← hrr, e]
       rw [h2] at h1
       exact h1
      clear hx hok hkn hrr hb2 HFL HQ1 HQ2 cx d14 d15 d16 z14 z15 HW HF HI HB hgF
      obtain ⟨top2, rv2, hF2, hq2⟩ := hW2.fl
      obtain ⟨e14, e15, e16, y14, y15⟩ := fl_cells4 hF2.blk
      obtain ⟨e8, e9, y8, y9⟩ := fl_cells2 hF2.blk
      obtain ⟨e10, e11, e12, e13, y10, y11, y12, y13⟩ := fl_cells3 hF2.blk
      obtain ⟨tk, hsk, hlk, _⟩ := run_has hW2.come.drew HKN.out
      have HLD := hide (hW2.load hF2 (hsk.keep fun _ _ hb => hb))
      have HB3 := hide (HB2.out.trans HLD.out.2)
      clear hF2 hq2 hsk hW2
      go_upto_region 8 with fail
      go_cut [] (fun wx => WF c B F wx kn (i : Int) ⟨come, rest⟩ ∧ Below B w wx)
      case first =>
       go_region
       all_goals
        go_wp2_with fail
        go_meet
        exact ⟨HLD.out.1, HB3.out⟩
      case rest =>
       obtain ⟨hW4, hb4⟩ := hcut
       clear e8 e9 e10 e11 e12 e13 e14 e15 e16 y8 y9 y10 y11 y12 y13 y14 y15 hlk HLD HB3 HB2
       have HW4 := hide hW4
       have HB4 := hide hb4
       obtain ⟨top4, rv4, hF4, hq4⟩ := hW4.fl
       have HF4 := hide hF4
       obtain ⟨_, _, _, bc, oc, hac, hbc, i0, i1, i2⟩ := hW4.env.un.code i x HX.out
       have HSC : Hid (∀ w', Low B wc w' → (∃ top st f rv, FlIn c w' F top st f (i : Int) rv) → (w'.cell? ⟨F, 7, none⟩ = some (.slice (some ⟨bc, oc, none⟩) c.u.code.length c.cc) ∧ w'.cell? ⟨F, 14, none⟩ = some (.int .i64 (i : Int)) ∧ w'.cell? ⟨bc, oc + i * 3, none⟩ = some (.int .i64 x.op) ∧ w'.cell? ⟨bc, oc + i * 3 + 1, none⟩ = some (.int .i64 x.a) ∧ w'.cell? ⟨bc, oc + i * 3 + 2, none⟩ = some (.int .i64 x.n))) := fun w' hlow ⟨tp, st, f', rv', hF'⟩ => by
        have c7 := (fl_cells hF'.blk).2.2.2.2.2.2.2
        rw [hac] at c7
        exact ⟨c7, (fl_cells4 hF'.blk).1, (cell_eq (hlow bc hbc) _).trans i0, (cell_eq (hlow bc hbc) _).trans i1, (cell_eq (hlow bc hbc) _).trans i2⟩
       have hiI : (i : Int) < (c.u.code.length : Int) := by omega
       have q4 := HSC.out wc (fun _ _ => rfl) ⟨_, _, _, _, hF4⟩
       obtain ⟨rS, hrS⟩ : ∃ rS, rS = Vf.reckS c.m c.u x kn := ⟨_, rfl⟩
       have HRS := hide hrS
       have HR5 : Hid (r = Vf.andThen rS fun st' => Vf.goAll c.u.code.length ⟨st', Vf.reckF x kn.fl⟩ (Vf.goes x i) ⟨come, rest⟩) := by
        unfold Hid
        rw [HRR.out, Vf.reck, ← hrS]
        cases rS <;> rfl
       have HOK2 : Hid (Ok (OkS c.m) rS) := by rw [hrS]; exact reckS_ok hR.out hu.out HFX.out HOK.out
       have HBl : Hid (∀ w', wc.grownBy w' (some F) → Below B wc w') := fun w' hg => below_grown hg (by have := hW4.env.base; have := hW4.env.lt; omega) (fun j e => by cases e; exact hW4.env.base)
       clear hW4 hb4 hF4 hq4 i0 i1 i2 hrS HRR
       go_wp2_with fail
       refine wp_region_held_drew (S := fun w' => w'.cell? ⟨F, 7, none⟩ = some (.slice (some ⟨bc, oc, none⟩) c.u.code.length c.cc) ∧ w'.cell? ⟨F, 14, none⟩ = some (.int .i64 (i : Int)) ∧ w'.cell? ⟨bc, oc + i * 3, none⟩ = some (.int .i64 x.op) ∧ w'.cell? ⟨bc, oc + i * 3 + 1, none⟩ = some (.int .i64 x.a) ∧ w'.cell? ⟨bc, oc + i * 3 + 2, none⟩ = some (.int .i64 x.n)) (by kernel_rfl) q4 (fun hHeld => ?_)
       refine wpAnyH_take (i := 0) (oi := _) (v := ?_) rfl (by kernel_rfl) (by kernel_rfl) (by kernel_rfl) (fun _ _ _ h => h) (Or.inl ⟨by rfl, ?_⟩) (by assumption) ?_
       rotate_left
       ·intro w hSw
        (try dsimp only at hSw)
        go_simp
        (try with_reducible rfl)
       (try go_frame)
       refine wpAnyH_take (i := 1) (oi := _) (v := ?_) rfl (by kernel_rfl) (by kernel_rfl) (by kernel_rfl) (fun _ _ _ h => h) (Or.inl ⟨by rfl, ?_⟩) (by assumption) ?_
       rotate_left
       ·intro w hSw
        (try dsimp only at hSw)
        go_simp
        (try with_reducible rfl)
       (try go_frame)
       refine wpAnyH_take (i := 2) (oi := _) (v := ?_) rfl (by kernel_rfl) (by kernel_rfl) (by kernel_rfl) (fun _ _ _ h => h) (Or.inl ⟨by rfl, ?_⟩) (by assumption) ?_
       rotate_left
       ·intro w hSw
        (try dsimp only at hSw)
        go_simp
        (try with_reducible rfl)
       (try go_frame)
       refine wpAnyH_take (i := 3) (oi := _) (v := ?_) rfl (by kernel_rfl) (by kernel_rfl) (by kernel_rfl) (fun _ _ _ h => h) (Or.inl ⟨by rfl, ?_⟩) (by assumption) ?_
       rotate_left
       ·intro w hSw
        (try dsimp only at hSw)
        go_simp
        (try with_reducible rfl)
       (try go_frame)
       refine wpAnyH_take (i := 4) (oi := _) (v := ?_) rfl (by kernel_rfl) (by kernel_rfl) (by kernel_rfl) (fun _ _ _ h => h) (Or.inl ⟨by rfl, ?_⟩) (by assumption) ?_
       rotate_left
       ·intro w hSw
        (try dsimp only at hSw)
        go_simp
        (try with_reducible rfl)
       (try go_frame)
       refine wpAnyH_take (i := 5) (oi := _) (v := ?_) rfl (by kernel_rfl) (by kernel_rfl) (by kernel_rfl) (fun _ _ _ h => h) (Or.inl ⟨by rfl, ?_⟩) (by assumption) ?_
       rotate_left
       ·intro w hSw
        (try dsimp only at hSw)
        go_simp
        (try with_reducible rfl)
       (try go_frame)
       refine wpAnyH_take (i := 6) (oi := _) (v := ?_) rfl (by kernel_rfl) (by kernel_rfl) (by kernel_rfl) (fun _ _ _ h => h) (Or.inl ⟨by rfl, ?_⟩) (by assumption) ?_
       rotate_left
       ·intro w hSw
        (try dsimp only at hSw)
        go_simp
        (try with_reducible rfl)
       (try go_frame)
       refine wpAnyH_take (i := 7) (oi := _) (v := ?_) rfl (by kernel_rfl) (by kernel_rfl) (by kernel_rfl) (fun _ _ _ h => h) (Or.inl ⟨by rfl, ?_⟩) (by assumption) ?_
       rotate_left
       ·intro w hSw
        (try dsimp only at hSw)
        go_simp
        (try with_reducible rfl)
       (try go_frame)
       refine wpAnyH_take (i := 8) (oi := _) (v := ?_) rfl (by kernel_rfl) (by kernel_rfl) (by kernel_rfl) (fun _ _ _ h => h) (Or.inl ⟨by rfl, ?_⟩) (by assumption) ?_
       rotate_left
       ·intro w hSw
        (try dsimp only at hSw)
        go_simp
        (try with_reducible rfl)
       (try go_frame)
       refine wpAnyH_take (i := 9) (oi := _) (v := ?_) rfl (by kernel_rfl) (by kernel_rfl) (by kernel_rfl) (fun _ _ _ h => h) (Or.inl ⟨by rfl, ?_⟩) (by assumption) ?_
       rotate_left
       ·intro w hSw
        (try dsimp only at hSw)
        go_simp
        (try with_reducible rfl)
       (try go_frame)
       refine wpAnyH_take (i := 10) (oi := _) (v := ?_) rfl (by kernel_rfl) (by kernel_rfl) (by kernel_rfl) (fun _ _ _ h => h) (Or.inl ⟨by rfl, ?_⟩) (by assumption) ?_
       rotate_left
       ·intro w hSw
        (try dsimp only at hSw)
        go_simp
        (try with_reducible rfl)
       (try go_frame)
       refine wpAnyH_take (i := 11) (oi := _) (v := ?_) rfl (by kernel_rfl) (by kernel_rfl) (by kernel_rfl) (fun _ _ _ h => h) (Or.inl ⟨by rfl, ?_⟩) (by assumption) ?_
       rotate_left
       ·intro w hSw
        (try dsimp only at hSw)
        go_simp
        (try with_reducible rfl)
       (try go_frame)
       refine wpAnyH_take (i := 12) (oi := _) (v := ?_) rfl (by kernel_rfl) (by kernel_rfl) (by kernel_rfl) (fun _ _ _ h => h) (Or.inl ⟨by rfl, ?_⟩) (by assumption) ?_
       rotate_left
       ·intro w hSw
        (try dsimp only at hSw)
        go_simp
        (try with_reducible rfl)
       (try go_frame)
       refine wpAnyH_ready (rs := [13]) (by kernel_rfl) (by simp) ?_
       refine AllReadyH.cons (o := _) rfl (fun K hK => ?_) AllReadyH.nil
       go_simp
       refine (reckon_any c F B top4 kn.st kn.fl (i : Int) rv4 x.op x.a x.n _ (hide HF4.out.drew) (hide HW4.out.env.drew) HOK.out.2 (hide HOK.out.1) hR HFX hz1 rS HRS).mono ?_
       rintro e w5 hS
       have hg5 : wc.grownBy w5 (some F) := grown_drew hS.grown
       cases rS with
       | error er' =>
        obtain rfl := hS.no er' rfl
        have HE := hide (HFE.out er' HR5.out)
        have HE0 : Hid (er' ≠ 0) := HNZ.out er' HR5.out
        have HB5 : Hid (Below B w w5) := HB4.out.trans (HBl.out w5 hg5)
        clear hS hK hg5
        go_wp2
        rw [HE.out.1, HE.out.2]
        exact ⟨rfl, HB5.out, thrown_no HE0.out⟩
       | ok st5 =>
        obtain ⟨rfl, top5, hF5⟩ := hS.yes st5 rfl
        have HW5 : Hid (WF c B F w5 ⟨st5, Vf.reckF x kn.fl⟩ (i : Int) ⟨come, rest⟩) := HW4.out.own (k' := ⟨st5, Vf.reckF x kn.fl⟩) hg5 hF5 (fun tp rv' h' => by
         have := HF4.out.blk.symm.trans h'.blk
         simp at this
         exact this.2)
        have HOK5 : Hid (OkS c.m st5) := HOK2.out st5 rfl
        have HR6 : Hid (r = Vf.goAll c.u.code.length ⟨st5, Vf.reckF x kn.fl⟩ (Vf.goes x i) ⟨come, rest⟩) := HR5.out
        have q5 := HSC.out w5 (fun j hj => (HBl.out w5 hg5).block j hj) ⟨_, _, _, _, hF5⟩
        have HB5 : Hid (Below B w w5) := HB4.out.trans (HBl.out w5 hg5)
        have HF5 := hide hF5
        have HS5 : Hid (∀ w', Below B w5 w' → (∃ top st f rv, FlIn c w' F top st f (i : Int) rv) → (w'.cell? ⟨F, 7, none⟩ = some (.slice (some ⟨bc, oc, none⟩) c.u.code.length c.cc) ∧ w'.cell? ⟨F, 14, none⟩ = some (.int .i64 (i : Int)) ∧ w'.cell? ⟨bc, oc + i * 3, none⟩ = some (.int .i64 x.op) ∧ w'.cell? ⟨bc, oc + i * 3 + 1, none⟩ = some (.int .i64 x.a) ∧ w'.cell? ⟨bc, oc + i * 3 + 2, none⟩ = some (.int .i64 x.n))) := fun w' hb hF' => HSC.out w' (fun j hj => (hb.block j hj).trans ((HBl.out w5 hg5).block j hj)) hF'
        refine hK.out _ _ q5 (fun hHeld => ?_)
        clear hK hS hg5 hF5 hHeld q4
        refine wpAnyH_done (by kernel_rfl) ?_ _
        have hrow5 : rest.length ≤ 99999999 := by have h1 := HM3.out; have h2 : rest.length ≤ Vf.mu c.u.code.length ⟨come, rest⟩ := Vf.row_few (s := ⟨come, rest⟩); have h3 := HMR.out; omega
        go_wp2_with fail
        refine wp_region_held_drew (S := fun w' => w'.cell? ⟨F, 7, none⟩ = some (.slice (some ⟨bc, oc, none⟩) c.u.code.length c.cc) ∧ w'.cell? ⟨F, 14, none⟩ = some (.int .i64 (i : Int)) ∧ w'.cell? ⟨bc, oc + i * 3, none⟩ = some (.int .i64 x.op) ∧ w'.cell? ⟨bc, oc + i * 3 + 1, none⟩ = some (.int .i64 x.a) ∧ w'.cell? ⟨bc, oc + i * 3 + 2, none⟩ = some (.int .i64 x.n)) (by kernel_rfl) q5 (fun hHeld => ?_)
        refine wpAnyH_take (i := 0) (oi := _) (v := ?_) rfl (by kernel_rfl) (by kernel_rfl) (by kernel_rfl) (fun _ _ _ h => h) (Or.inl ⟨by rfl, ?_⟩) (by assumption) ?_
        rotate_left
        ·intro w hSw
         (try dsimp only at hSw)
         go_simp
         (try with_reducible rfl)
        (try go_frame)
        refine wpAnyH_take (i := 1) (oi := _) (v := ?_) rfl (by kernel_rfl) (by kernel_rfl) (by kernel_rfl) (fun _ _ _ h => h) (Or.inl ⟨by rfl, ?_⟩) (by assumption) ?_
        rotate_left
        ·intro w hSw
         (try dsimp only at hSw)
         go_simp
         (try with_reducible rfl)
        (try go_frame)
        refine wpAnyH_take (i := 2) (oi := _) (v := ?_) rfl (by kernel_rfl) (by kernel_rfl) (by kernel_rfl) (fun _ _ _ h => h) (Or.inl ⟨by rfl, ?_⟩) (by assumption) ?_
        rotate_left
        ·intro w hSw
         (try dsimp only at hSw)
         go_simp
         (try with_reducible rfl)
        (try go_frame)
        refine wpAnyH_take (i := 3) (oi := _) (v := ?_) rfl (by kernel_rfl) (by kernel_rfl) (by kernel_rfl) (fun _ _ _ h => h) (Or.inl ⟨by rfl, ?_⟩) (by assumption) ?_
        rotate_left
        ·intro w hSw
         (try dsimp only at hSw)
         go_simp
         (try with_reducible rfl)
        (try go_frame)
        refine wpAnyH_take (i := 4) (oi := _) (v := ?_) rfl (by kernel_rfl) (by kernel_rfl) (by kernel_rfl) (fun _ _ _ h => h) (Or.inl ⟨by rfl, ?_⟩) (by assumption) ?_
        rotate_left
        ·intro w hSw
         (try dsimp only at hSw)
         go_simp
         (try with_reducible rfl)
        (try go_frame)
        refine wpAnyH_take (i := 5) (oi := _) (v := ?_) rfl (by kernel_rfl) (by kernel_rfl) (by kernel_rfl) (fun _ _ _ h => h) (Or.inl ⟨by rfl, ?_⟩) (by assumption) ?_
        rotate_left
        ·intro w hSw
         (try dsimp only at hSw)
         go_simp
         (try with_reducible rfl)
        (try go_frame)
        refine wpAnyH_take (i := 6) (oi := _) (v := ?_) rfl (by kernel_rfl) (by kernel_rfl) (by kernel_rfl) (fun _ _ _ h => h) (Or.inl ⟨by rfl, ?_⟩) (by assumption) ?_
        rotate_left
        ·intro w hSw
         (try dsimp only at hSw)
         go_simp
         (try with_reducible rfl)
        (try go_frame)
        refine wpAnyH_take (i := 7) (oi := _) (v := ?_) rfl (by kernel_rfl) (by kernel_rfl) (by kernel_rfl) (fun _ _ _ h => h) (Or.inl ⟨by rfl, ?_⟩) (by assumption) ?_
        rotate_left
        ·intro w hSw
         (try dsimp only at hSw)
         go_simp
         (try with_reducible rfl)
        (try go_frame)
        refine wpAnyH_take (i := 8) (oi := _) (v := ?_) rfl (by kernel_rfl) (by kernel_rfl) (by kernel_rfl) (fun _ _ _ h => h) (Or.inl ⟨by rfl, ?_⟩) (by assumption) ?_
        rotate_left
        ·intro w hSw
         (try dsimp only at hSw)
         go_simp
         (try with_reducible rfl)
        (try go_frame)
        refine wpAnyH_take (i := 9) (oi := _) (v := ?_) rfl (by kernel_rfl) (by kernel_rfl) (by kernel_rfl) (fun _ _ _ h => h) (Or.inl ⟨by rfl, ?_⟩) (by assumption) ?_
        rotate_left
        ·intro w hSw
         (try dsimp only at hSw)
         go_simp
         (try with_reducible rfl)
        (try go_frame)
        refine wpAnyH_take (i := 10) (oi := _) (v := ?_) rfl (by kernel_rfl) (by kernel_rfl) (by kernel_rfl) (fun _ _ _ h => h) (Or.inl ⟨by rfl, ?_⟩) (by assumption) ?_
        rotate_left
        ·intro w hSw
         (try dsimp only at hSw)
         go_simp
         (try with_reducible rfl)
        (try go_frame)
        refine wpAnyH_take (i := 11) (oi := _) (v := ?_) rfl (by kernel_rfl) (by kernel_rfl) (by kernel_rfl) (fun _ _ _ h => h) (Or.inl ⟨by rfl, ?_⟩) (by assumption) ?_
        rotate_left
        ·intro w hSw
         (try dsimp only at hSw)
         go_simp
         (try with_reducible rfl)
        (try go_frame)
        refine wpAnyH_take (i := 12) (oi := _) (v := ?_) rfl (by kernel_rfl) (by kernel_rfl) (by kernel_rfl) (fun _ _ _ h => h) (Or.inl ⟨by rfl, ?_⟩) (by assumption) ?_
        rotate_left
        ·intro w hSw
         (try dsimp only at hSw)
         go_simp
         (try with_reducible rfl)
        (try go_frame)
        refine wpAnyH_ready (rs := [13]) (by kernel_rfl) (by simp) ?_
        refine AllReadyH.cons (o := _) rfl (fun K hK => ?_) AllReadyH.nil
        go_simp
        refine (leave_any c B F ⟨st5, Vf.reckF x kn.fl⟩ i ⟨come, rest⟩ x.op x.a x.n _ (hide (HW5.out.quiet (grown0_drew (World.grownBy.refl _ _)))) hrow5 (by omega) HFX HI2 HOK5 r HR6).mono ?_
        rintro e w6 hS
        have HB6 : Hid (Below B w w6) := HB5.out.trans (by have := hS.below; exact ⟨this.os, this.tape, this.output, this.size, this.block⟩)
        cases r with
        | error er' =>
         obtain rfl := hS.no er' rfl
         have HE := hide (HFE.out er' rfl)
         have HE0 : Hid (er' ≠ 0) := HNZ.out er' rfl
         clear hS hK
         go_wp2
         rw [HE.out.1, HE.out.2]
         exact ⟨rfl, HB6.out, thrown_no HE0.out⟩
        | ok s6 =>
         obtain ⟨rfl, hW6⟩ := hS.yes s6 rfl
         have HI6 : Hid (Inv c.m c.u s6) := goAll_inv (k := ⟨st5, Vf.reckF x kn.fl⟩) HOK5.out HI2.out (Vf.goes_nn HFX.out i) HR6.out.symm
         have HM6 := hide (HLM.out s6 rfl)
         have HF6 := hide (HFO.out s6 rfl)
         have HW6 := hide hW6
         obtain ⟨top6, rv6, hF6, _⟩ := hW6.fl
         refine hK.out _ _ (HS5.out w6 (by have := hS.below; exact ⟨this.os, this.tape, this.output, this.size, this.block⟩) ⟨_, _, _, _, hF6⟩) (fun hHeld => ?_)
         clear hK hS hW6 hF6 hHeld q5
         refine wpAnyH_done (by kernel_rfl) ?_ _
         go_wp2
         go_roundg f
         case measure => omega
         case rel =>
          have h1 := HMU.out
          have h2 := HMR.out
          have h3 := HM6.out
          have h4 := HM3.out
          exact ⟨_, _, s6, HW6.out, HB6.out, HI6.out, by omega, by omega, HF6.out⟩
theorem two_new (w : World) (a b : Obj) : w.grownBy ((w.alloc a).alloc b) none := grown0_new (grown0_new (World.grownBy.refl _ _) _) _
theorem ranged2 (c : FC) (a nn : Int) (w : World) (b : Bool) (hb : Hid (b = (a == 0 || a == 1))) :
  Calls Tryz.prog 64 #[utV c, .agg #[.int .i64 2, .int .i64 a, .int .i64 nn]] w fun e w' => e = .returned (.bool b) ∧ w.grownBy w' none := by
 go_enter Tryz.func64, Tryz.ntmps64
 go_wp2
 all_goals
  go_ret
  refine ⟨bool_ret ?_, two_new _ _ _⟩
  rw [hb.out]
  (try simp [*])
  (try omega)
theorem ranged3 (c : FC) (a nn : Int) (w : World) (b : Bool) (hb : Hid (b = (decide (0 ≤ a) && decide (a < c.u.locals.length)))) :
  Calls Tryz.prog 64 #[utV c, .agg #[.int .i64 3, .int .i64 a, .int .i64 nn]] w fun e w' => e = .returned (.bool b) ∧ w.grownBy w' none := by
 go_enter Tryz.func64, Tryz.ntmps64
 go_wp2
 all_goals
  go_ret
  refine ⟨bool_ret ?_, two_new _ _ _⟩
  rw [hb.out]
  (try simp [*])
  (try omega)
theorem ranged4 (c : FC) (a nn : Int) (w : World) (b : Bool) (hb : Hid (b = (decide (0 ≤ a) && decide (a < c.u.locals.length)))) :
  Calls Tryz.prog 64 #[utV c, .agg #[.int .i64 4, .int .i64 a, .int .i64 nn]] w fun e w' => e = .returned (.bool b) ∧ w.grownBy w' none := by
 go_enter Tryz.func64, Tryz.ntmps64
 go_wp2
 all_goals
  go_ret
  refine ⟨bool_ret ?_, two_new _ _ _⟩
  rw [hb.out]
  (try simp [*])
  (try omega)
theorem ranged21 (c : FC) (a nn : Int) (w : World) (b : Bool) (hb : Hid (b = (decide (0 ≤ a) && decide (a < c.u.code.length)))) :
  Calls Tryz.prog 64 #[utV c, .agg #[.int .i64 21, .int .i64 a, .int .i64 nn]] w fun e w' => e = .returned (.bool b) ∧ w.grownBy w' none := by
 go_enter Tryz.func64, Tryz.ntmps64
 go_wp2
 all_goals
  go_ret
  refine ⟨bool_ret ?_, two_new _ _ _⟩
  rw [hb.out]
  (try simp [*])
  (try omega)
theorem ranged22 (c : FC) (a nn : Int) (w : World) (b : Bool) (hb : Hid (b = (decide (0 ≤ a) && decide (a < c.u.code.length)))) :
  Calls Tryz.prog 64 #[utV c, .agg #[.int .i64 22, .int .i64 a, .int .i64 nn]] w fun e w' => e = .returned (.bool b) ∧ w.grownBy w' none := by
 go_enter Tryz.func64, Tryz.ntmps64
 go_wp2
 all_goals
  go_ret
  refine ⟨bool_ret ?_, two_new _ _ _⟩
  rw [hb.out]
  (try simp [*])
  (try omega)
theorem ranged26 (c : FC) (a nn : Int) (w : World) (b : Bool) (hb : Hid (b = (decide (0 ≤ a) && decide (a < c.m.boxes.length)))) :
  Calls Tryz.prog 64 #[utV c, .agg #[.int .i64 26, .int .i64 a, .int .i64 nn]] w fun e w' => e = .returned (.bool b) ∧ w.grownBy w' none := by
 go_enter Tryz.func64, Tryz.ntmps64
 go_wp2
 all_goals
  go_ret
  refine ⟨bool_ret ?_, two_new _ _ _⟩
  rw [hb.out]
  (try simp [*])
  (try omega)
theorem ranged27 (c : FC) (a nn : Int) (w : World) (b : Bool) (hb : Hid (b = (decide (0 ≤ a) && decide (a < c.m.boxes.length)))) :
  Calls Tryz.prog 64 #[utV c, .agg #[.int .i64 27, .int .i64 a, .int .i64 nn]] w fun e w' => e = .returned (.bool b) ∧ w.grownBy w' none := by
 go_enter Tryz.func64, Tryz.ntmps64
 go_wp2
 all_goals
  go_ret
  refine ⟨bool_ret ?_, two_new _ _ _⟩
  rw [hb.out]
  (try simp [*])
  (try omega)
theorem ranged23 (c : FC) (B : Nat) (a nn : Int) (w : World) (hmd : Hid (ModIn B w c.m c.ab c.au)) (hB : B ≤ w.heap.size) (b : Bool) (hb : Hid (b = Vf.is c.m 2 a)) :
  Calls Tryz.prog 64 #[utV c, .agg #[.int .i64 23, .int .i64 a, .int .i64 nn]] w fun e w' => e = .returned (.bool b) ∧ w.grownBy w' none := by
 have HM : Hid (ModIn B ((w.alloc (utO c)).alloc (insO 23 a nn)) c.m c.ab c.au) := hmd.out.low (low0 (two_new _ _ _) hB)
 go_enter Tryz.func64, Tryz.ntmps64
 go_wp2_with fail
 refine (is_any c.m c.ab c.au c.cb c.cu B 2 a _ HM (by simp; omega) b hb).mono ?_
 rintro e w2 ⟨rfl, rfl⟩
 go_wp2
 go_ret
 exact ⟨rfl, grown0_new (two_new _ _ _) _⟩
theorem ranged29 (c : FC) (B : Nat) (a nn : Int) (w : World) (hmd : Hid (ModIn B w c.m c.ab c.au)) (hB : B ≤ w.heap.size) (b : Bool) (hb : Hid (b = Vf.is c.m 3 a)) :
  Calls Tryz.prog 64 #[utV c, .agg #[.int .i64 29, .int .i64 a, .int .i64 nn]] w fun e w' => e = .returned (.bool b) ∧ w.grownBy w' none := by
 have HM : Hid (ModIn B ((w.alloc (utO c)).alloc (insO 29 a nn)) c.m c.ab c.au) := hmd.out.low (low0 (two_new _ _ _) hB)
 go_enter Tryz.func64, Tryz.ntmps64
 go_wp2_with fail
 refine (is_any c.m c.ab c.au c.cb c.cu B 3 a _ HM (by simp; omega) b hb).mono ?_
 rintro e w2 ⟨rfl, rfl⟩
 go_wp2
 go_ret
 exact ⟨rfl, grown0_new (two_new _ _ _) _⟩
theorem rangedD (c : FC) (op a nn : Int) (hop : Hid (op ≠ 2 ∧ op ≠ 3 ∧ op ≠ 4 ∧ op ≠ 21 ∧ op ≠ 22 ∧ op ≠ 23 ∧ op ≠ 26 ∧ op ≠ 27 ∧ op ≠ 29)) (w : World) :
  Calls Tryz.prog 64 #[utV c, .agg #[.int .i64 op, .int .i64 a, .int .i64 nn]] w fun e w' => e = .returned (.bool true) ∧ w.grownBy w' none := by
 have g2 : (op == 2) = false := by have := hop.out; simp; omega
 have g3 : (op == 3) = false := by have := hop.out; simp; omega
 have g4 : (op == 4) = false := by have := hop.out; simp; omega
 have g21 : (op == 21) = false := by have := hop.out; simp; omega
 have g22 : (op == 22) = false := by have := hop.out; simp; omega
 have g23 : (op == 23) = false := by have := hop.out; simp; omega
 have g26 : (op == 26) = false := by have := hop.out; simp; omega
 have g27 : (op == 27) = false := by have := hop.out; simp; omega
 have g29 : (op == 29) = false := by have := hop.out; simp; omega
 go_enter Tryz.func64, Tryz.ntmps64
 go_wp2
 go_ret
 exact ⟨rfl, two_new _ _ _⟩
theorem ranged_any (c : FC) (B : Nat) (op a nn : Int) (w : World) (hmd : Hid (ModIn B w c.m c.ab c.au)) (hB : B ≤ w.heap.size) (b : Bool) (hb : Hid (b = Vf.ranged c.m c.u ⟨op, a, nn⟩)) :
  Calls Tryz.prog 64 #[utV c, .agg #[.int .i64 op, .int .i64 a, .int .i64 nn]] w fun e w' => e = .returned (.bool b) ∧ w.grownBy w' none := by
 by_cases h2 : op = 2
 ·subst h2; exact ranged2 c a nn w b (hide hb.out)
 by_cases h3 : op = 3
 ·subst h3; exact ranged3 c a nn w b (hide hb.out)
 by_cases h4 : op = 4
 ·subst h4; exact ranged4 c a nn w b (hide hb.out)
 by_cases h21 : op = 21
 ·subst h21; exact ranged21 c a nn w b (hide hb.out)
 by_cases h22 : op = 22
 ·subst h22; exact ranged22 c a nn w b (hide hb.out)
 by_cases h23 : op = 23
 ·subst h23; exact ranged23 c B a nn w hmd hB b (hide hb.out)
 by_cases h29 : op = 29
 ·subst h29; exact ranged29 c B a nn w hmd hB b (hide hb.out)
 by_cases h26 : op = 26
 ·subst h26; exact ranged26 c a nn w b (hide hb.out)
 by_cases h27 : op = 27
 ·subst h27; exact ranged27 c a nn w b (hide hb.out)
 have e : b = true := by
  rw [hb.out, Vf.ranged, if_neg h2, if_neg (by rintro (h | h); exact h3 h; exact h4 h), if_neg (by rintro (h | h); exact h21 h; exact h22 h), if_neg h23, if_neg h29, if_neg (by rintro (h | h); exact h26 h; exact h27 h)]
 rw [e]
 exact rangedD c op a nn (hide ⟨h2, h3, h4, h21, h22, h23, h26, h27, h29⟩) w
def HE (er num : Int) (w : World) (e : Ending) (w' : World) : Prop := w.grownBy w' none ∧ e = if er = 0 then .returned (.tuple #[]) else .panicked [fltE er num]
theorem head_any (c : FC) (B : Nat) (w : World) (hmd : Hid (ModIn B w c.m c.ab c.au)) (hun : Hid (UnIn B w c.u c.al c.ac c.cl c.cc)) (hB : B ≤ w.heap.size) (hmu : c.m.units.length ≤ 30) (er : Int) (hr : Hid (er = Vf.headE c.m c.u)) :
  Calls Tryz.prog 48 #[utV c] w fun e w' => HE er 0 w e w' := by
 obtain ⟨b1, hb1⟩ : ∃ b, b = Vf.kindly c.u := ⟨_, rfl⟩
 obtain ⟨b2, hb2⟩ : ∃ b, b = Vf.sized c.u := ⟨_, rfl⟩
 obtain ⟨b3, hb3⟩ : ∃ b, b = Vf.typed c.m c.u := ⟨_, rfl⟩
 have HR : Hid (er = if b1 = false then 1 else if b2 = false then 5 else if b3 = false then 9 else 0) := by unfold Hid; rw [hr.out, hb1, hb2, hb3]; rfl
 have H1 := hide hb1
 have H2 := hide hb2
 have H3 := hide hb3
 have HM2 : Hid (ModIn B (((w.alloc (utO c)).alloc (utO c)).alloc (utO c)) c.m c.ab c.au) := hmd.out.low (low0 (grown0_new (two_new _ _ _) _) hB)
 have HU2 : Hid (UnIn B (((w.alloc (utO c)).alloc (utO c)).alloc (utO c)) c.u c.al c.ac c.cl c.cc) := hun.out.low (low0 (grown0_new (two_new _ _ _) _) hB)
 clear hr hb1 hb2 hb3
 go_enter Tryz.func48, Tryz.ntmps48
 go_wp2_with fail
 refine (kindly_any c _ b1 H1).mono ?_
 rintro e w1 ⟨rfl, rfl⟩
 cases b1 with
 | false =>
  have HE1 : Hid (er = 1) := HR.out
  go_wp2_with fail
  refine (throw_any 0 1 _).mono ?_
  rintro e w2 ⟨rfl, rfl⟩
  go_wp2
  rw [HE1.out]
  exact ⟨rfl, two_new _ _ _, rfl⟩
 | true =>
  go_wp2_with fail
  refine (sized_any c _ b2 H2).mono ?_
  rintro e w2 ⟨rfl, rfl⟩
  cases b2 with
  | false =>
   have HE1 : Hid (er = 5) := HR.out
   go_wp2_with fail
   refine (throw_any 0 5 _).mono ?_
   rintro e w2 ⟨rfl, rfl⟩
   go_wp2
   rw [HE1.out]
   exact ⟨rfl, grown0_new (two_new _ _ _) _, rfl⟩
  | true =>
   go_wp2_with fail
   refine (typed_any c B _ HM2 HU2 (by simp; omega) hmu b3 H3).mono ?_
   rintro e w3 ⟨rfl, hg3⟩
   have HG3 : Hid (w.grownBy w3 none) := grown0_tr' (grown0_new (two_new _ _ _) _) hg3
   clear hg3
   cases b3 with
   | false =>
    have HE1 : Hid (er = 9) := HR.out
    go_wp2_with fail
    refine (throw_any 0 9 _).mono ?_
    rintro e w2 ⟨rfl, rfl⟩
    go_wp2
    rw [HE1.out]
    exact ⟨rfl, HG3.out, rfl⟩
   | true =>
    have HE1 : Hid (er = 0) := HR.out
    go_wp2
    go_end0
    rw [HE1.out]
    exact ⟨HG3.out, rfl⟩
theorem firstE_drop {α : Type} (f : α → Int) {l : List α} {k : Nat} {x : α} (h : l[k]? = some x) : Vf.firstE f (l.drop k) k = if f x = 0 then Vf.firstE f (l.drop (k + 1)) (k + 1) else (f x, k) := by
 obtain ⟨hk, rfl⟩ := List.getElem?_eq_some_iff.1 h
 rw [List.drop_eq_getElem_cons hk]
 rfl
structure FmAt (c : FC) (w : World) (er num : Int) (k : Nat) (W : World) : Prop where
 le : k ≤ c.u.code.length
 grown : (w.alloc (utO c)).grownBy W none
 rest : (er, num) = ((Vf.firstE (Vf.formE c.m c.u) (c.u.code.drop k) k).1, ((Vf.firstE (Vf.formE c.m c.u) (c.u.code.drop k) k).2 : Int))
theorem forms_any (c : FC) (B : Nat) (w : World) (hmd : Hid (ModIn B w c.m c.ab c.au)) (hun : Hid (UnIn B w c.u c.al c.ac c.cl c.cc)) (hB : B ≤ w.heap.size) (er num : Int) (hr : Hid ((er, num) = ((Vf.firstE (Vf.formE c.m c.u) c.u.code 0).1, ((Vf.firstE (Vf.formE c.m c.u) c.u.code 0).2 : Int)))) :
  Calls Tryz.prog 49 #[utV c] w fun e w' => HE er num w e w' := by
 have hlo : c.u.code.length ≤ 9223372036854775807 := hun.out.few.2
 go_enter Tryz.func49, Tryz.ntmps49
 go_wp2
 go_loopw [8] (fun v wr => ∃ k : Nat, v = .int .i64 k ∧ FmAt c w er num k wr) (fun v _ => c.u.code.length - (intOf v).toNat)
 case atStart => exact ⟨0, rfl, Nat.zero_le _, World.grownBy.refl _ _, hr.out⟩
 case round =>
  obtain ⟨k, rfl, hA⟩ := hrel
  have HA := hide hA
  have hk := hA.le
  clear hA
  by_cases hlt : k < c.u.code.length
  ·obtain ⟨x, hx⟩ : ∃ x, c.u.code[k]? = some x := ⟨_, List.getElem?_eq_getElem hlt⟩
   have hlow : Low B w wr := fun j hj => (kept0 HA.out.grown (by simp; omega)).trans (Below.heap_alloc _ _ _ (by omega))
   obtain ⟨_, _, _, bl, ol, hal, hbl, i0, i1, i2⟩ := (hun.out.code.low hlow) k x hx
   have hub : wr.heap[w.heap.size]? = some (utO c) := (kept0 HA.out.grown (by simp)).trans (heap_alloc_new w _)
   obtain ⟨y0, y1, y2, y3, y4, y5, y6, y7⟩ := ut_cells hub
   have hwr : w.heap.size < wr.heap.size := lt_of_block hub
   have HMr : Hid (ModIn B (wr.alloc (insO x.op x.a x.n)) c.m c.ab c.au) := (hmd.out.low hlow).low (low0 (grown0_new (World.grownBy.refl _ _) _) (by omega))
   have HN : Hid ((er, num) = if Vf.formE c.m c.u x = 0 then ((Vf.firstE (Vf.formE c.m c.u) (c.u.code.drop (k + 1)) (k + 1)).1, ((Vf.firstE (Vf.formE c.m c.u) (c.u.code.drop (k + 1)) (k + 1)).2 : Int)) else (Vf.formE c.m c.u x, (k : Int))) := by
    unfold Hid
    rw [HA.out.rest, firstE_drop _ hx]
    split <;> rfl
   have HG : Hid (w.grownBy wr none) := grown0_tr' (grown0_new (World.grownBy.refl _ _) _) HA.out.grown
   have HAL := hide hal
   clear hx hub hlow hal
   rw [HAL.out]
   by_cases hop : x.op < 1 ∨ 32 < x.op
   ·have HE1 : Hid (er = 1 ∧ num = (k : Int)) := by
     have h1 : Vf.formE c.m c.u x = 1 := by unfold Vf.formE; rw [if_pos hop]
     have := HN.out
     rw [h1] at this
     cases this
     exact ⟨rfl, rfl⟩
    rcases hop with hop | hop
    ·have d1 : decide (x.op < 1) = true := by simpa using hop
     go_wp2_with fail
     refine (throw_any (k : Int) 1 _).mono ?_
     rintro e w2 ⟨rfl, rfl⟩
     go_wp2
     rw [HE1.out.1, HE1.out.2]
     exact ⟨rfl, grown0_new HG.out _, rfl⟩
    ·have d1 : decide (x.op < 1) = false := by simp; omega
     have d2 : decide (32 < x.op) = true := by simpa using hop
     go_wp2_with fail
     refine (throw_any (k : Int) 1 _).mono ?_
     rintro e w2 ⟨rfl, rfl⟩
     go_wp2
     rw [HE1.out.1, HE1.out.2]
     exact ⟨rfl, grown0_new HG.out _, rfl⟩
   ·have d1 : decide (x.op < 1) = false := by simp; omega
    have d2 : decide (32 < x.op) = false := by simp; omega
    obtain ⟨b, hb⟩ : ∃ b, b = Vf.ranged c.m c.u ⟨x.op, x.a, x.n⟩ := ⟨_, rfl⟩
    have HB := hide hb
    have HFE : Hid (Vf.formE c.m c.u x = if b = false then 3 else 0) := by unfold Hid; unfold Vf.formE; rw [if_neg hop, hb]
    clear hb hop
    go_wp2_with fail
    refine (ranged_any c B x.op x.a x.n _ HMr (by simp; omega) b HB).mono ?_
    rintro e w2 ⟨rfl, hg2⟩
    have HG2 : Hid ((w.alloc (utO c)).grownBy w2 none) := grown0_tr' (grown0_new HA.out.grown _) hg2
    have HG3 : Hid (w.grownBy w2 none) := grown0_tr' (grown0_new HG.out _) hg2
    clear hg2 y0 y1 y2 y3 y4 y5 y6 y7 i0 i1 i2
    cases b with
    | false =>
     have HE1 : Hid (er = 3 ∧ num = (k : Int)) := by
      have := HN.out
      rw [HFE.out] at this
      cases this
      exact ⟨rfl, rfl⟩
     go_wp2_with fail
     refine (throw_any (k : Int) 3 _).mono ?_
     rintro e w3 ⟨rfl, rfl⟩
     go_wp2
     rw [HE1.out.1, HE1.out.2]
     exact ⟨rfl, HG3.out, rfl⟩
    | true =>
     have HN2 : Hid ((er, num) = ((Vf.firstE (Vf.formE c.m c.u) (c.u.code.drop (k + 1)) (k + 1)).1, ((Vf.firstE (Vf.formE c.m c.u) (c.u.code.drop (k + 1)) (k + 1)).2 : Int))) := by
      have := HN.out
      rw [HFE.out] at this
      exact this
     go_wp2
     go_roundw
     case rel => exact ⟨k + 1, by go_num, hlt, HG2.out, HN2.out⟩
     case measure => simp [intOf]; omega
  ·have HE1 : Hid (er = 0 ∧ num = 0) := by
    have := HA.out.rest
    rw [List.drop_eq_nil_of_le (by omega)] at this
    cases this
    exact ⟨rfl, rfl⟩
   have HG : Hid (w.grownBy wr none) := grown0_tr' (grown0_new (World.grownBy.refl _ _) _) HA.out.grown
   go_wp2
   go_end0
   rw [HE1.out.1, HE1.out.2]
   exact ⟨HG.out, rfl⟩
end Go.Proofs.YtekjhefmhhcboaaGreat
