/- The walks of is, kindly, sized, typed, ranged, head, forms. -/
import Derived.Test.YtekjhefmhhcboaaGreatM20
import Derived.MapKept
import Derived.Maps.RangeRun
import Derived.Test.YtekjhefmhhcboaaGreatM3
set_option maxRecDepth 100000
set_option maxHeartbeats 4000000
namespace Go.Proofs.YtekjhefmhhcboaaGreat
open Go.RowKit
abbrev mdV (m : Vf.Md) (ab au : Option Addr) (cb cu : Nat) : Value := .agg #[.slice ab m.boxes.length cb, .slice au m.units.length cu]
abbrev mdO (m : Vf.Md) (ab au : Option Addr) (cb cu : Nat) : Obj := .cells #[.slice ab m.boxes.length cb, .slice au m.units.length cu] 87 (0, 0)
abbrev utV (c : FC) : Value := .agg #[.slice c.ab c.m.boxes.length c.cb, .slice c.au c.m.units.length c.cu, .int .i64 c.u.kind, .int .i64 c.u.params, .slice c.al c.u.locals.length c.cl, .int .i64 c.u.result, .int .i64 c.u.takes, .slice c.ac c.u.code.length c.cc]
abbrev utO (c : FC) : Obj := .cells #[.slice c.ab c.m.boxes.length c.cb, .slice c.au c.m.units.length c.cu, .int .i64 c.u.kind, .int .i64 c.u.params, .slice c.al c.u.locals.length c.cl, .int .i64 c.u.result, .int .i64 c.u.takes, .slice c.ac c.u.code.length c.cc] 107 (0, 0)
theorem is_neg {m : Vf.Md} {k n : Int} (h : ¬ 0 ≤ n) : Vf.is m k n = false := by unfold Vf.is; simp [h]
theorem is_out {m : Vf.Md} {k n : Int} (h : (m.units.length : Int) ≤ n) : Vf.is m k n = false := by
 unfold Vf.is
 rw [List.getElem?_eq_none (by omega)]
 simp
theorem is_in {m : Vf.Md} {k : Int} {n : Nat} {u : Vf.Un} (h : m.units[n]? = some u) : Vf.is m k (n : Int) = (u.kind == k) := by
 unfold Vf.is
 simp [h]
theorem is_any (m : Vf.Md) (ab au : Option Addr) (cb cu B : Nat) (k n : Int) (w : World) (hm : Hid (ModIn B w m ab au)) (hB : B ≤ w.heap.size) (b : Bool) (hb : Hid (b = Vf.is m k n)) :
  Calls Tryz.prog 82 #[mdV m ab au cb cu, .int .i64 k, .int .i64 n] w fun e w' => e = .returned (.bool b) ∧ w' = w.alloc (mdO m ab au cb cu) := by
 by_cases h0 : 0 ≤ n
 ·obtain ⟨j, rfl⟩ := nn_of h0
  by_cases h1 : j < m.units.length
  ·obtain ⟨u, hu⟩ : ∃ u, m.units[j]? = some u := ⟨_, List.getElem?_eq_getElem h1⟩
   obtain ⟨bu, off, al, cl, ac, cc, ha, hbu, _, u0, _⟩ := hm.out.units j u hu
   have HR : Hid (b = (u.kind == k)) := by rw [hb.out, is_in hu]; rfl
   have hd : (0 : Int) ≤ (j : Int) := by omega
   have hd1 : (j : Int) < (m.units.length : Int) := by omega
   have hbl : bu < w.heap.size := by omega
   subst ha
   clear hu hb
   go_enter Tryz.func82, Tryz.ntmps82
   go_wp2
   go_ret
   rw [HR.out]
   exact ⟨rfl, rfl⟩
  ·have HR : Hid (b = false) := by rw [hb.out, is_out (by omega)]; rfl
   have hd : (0 : Int) ≤ (j : Int) := by omega
   have hd1 : decide (j < m.units.length) = false := by simpa using h1
   go_enter Tryz.func82, Tryz.ntmps82
   go_wp2
   go_ret
   rw [HR.out]
   exact ⟨rfl, rfl⟩
 ·have HR : Hid (b = false) := by rw [hb.out, is_neg h0]; rfl
  have hd : decide (0 ≤ n) = false := by simpa using h0
  go_enter Tryz.func82, Tryz.ntmps82
  go_wp2
  go_ret
  rw [HR.out]
  exact ⟨rfl, rfl⟩
theorem ut_cells {w : World} {N : Nat} {c : FC} (h : w.heap[N]? = some (utO c)) : w.cell? ⟨N, 0, none⟩ = some (.slice c.ab c.m.boxes.length c.cb) ∧ w.cell? ⟨N, 1, none⟩ = some (.slice c.au c.m.units.length c.cu) ∧ w.cell? ⟨N, 2, none⟩ = some (.int .i64 c.u.kind) ∧ w.cell? ⟨N, 3, none⟩ = some (.int .i64 c.u.params) ∧ w.cell? ⟨N, 4, none⟩ = some (.slice c.al c.u.locals.length c.cl) ∧ w.cell? ⟨N, 5, none⟩ = some (.int .i64 c.u.result) ∧ w.cell? ⟨N, 6, none⟩ = some (.int .i64 c.u.takes) ∧ w.cell? ⟨N, 7, none⟩ = some (.slice c.ac c.u.code.length c.cc) := by
 simp [World.cell?, h]
theorem bool_ret {b b' : Bool} (h : b' = b) : Ending.returned (Value.bool b') = Ending.returned (Value.bool b) := by rw [h]
theorem kindly_any (c : FC) (w : World) (b : Bool) (hb : Hid (b = Vf.kindly c.u)) :
  Calls Tryz.prog 60 #[utV c] w fun e w' => e = .returned (.bool b) ∧ w' = w.alloc (utO c) := by
 have HB : Hid (b = (c.u.kind == 2 || c.u.kind == 3 || c.u.kind == 4)) := hb.out
 clear hb
 cases e2 : (c.u.kind == 2)
 ·cases e3 : (c.u.kind == 3)
  ·have HT : Hid (b = (c.u.kind == 4)) := by rw [HB.out, e2, e3]; rfl
   go_enter Tryz.func60, Tryz.ntmps60
   go_wp2
   go_ret
   rw [HT.out]
   exact ⟨rfl, rfl⟩
  ·have HT : Hid (b = true) := by rw [HB.out, e2, e3]; rfl
   go_enter Tryz.func60, Tryz.ntmps60
   go_wp2
   go_ret
   rw [HT.out]
   exact ⟨rfl, rfl⟩
 ·have HT : Hid (b = true) := by rw [HB.out, e2]; rfl
  go_enter Tryz.func60, Tryz.ntmps60
  go_wp2
  go_ret
  rw [HT.out]
  exact ⟨rfl, rfl⟩
theorem sized_any (c : FC) (w : World) (b : Bool) (hb : Hid (b = Vf.sized c.u)) :
  Calls Tryz.prog 62 #[utV c] w fun e w' => e = .returned (.bool b) ∧ w' = w.alloc (utO c) := by
 go_enter Tryz.func62, Tryz.ntmps62
 go_wp2
 all_goals
  go_ret
  refine ⟨bool_ret ?_, rfl⟩
  rw [hb.out]
  unfold Vf.sized
  rw [Bool.eq_iff_iff]
  simp only [Bool.and_eq_true, decide_eq_true_eq]
  first | (simp [*] <;> omega) | (simp [*]; done) | (split <;> simp <;> omega)
structure TyAt (c : FC) (w : World) (b : Bool) (k : Nat) (W : World) : Prop where
 le : k ≤ c.u.locals.length
 grown : w.grownBy W none
 rest : b = (c.u.locals.drop k).all (fun t => Vf.plain t || Vf.is c.m 3 (t - 10))
theorem grown0_new {w w' : World} (h : w.grownBy w' none) (o : Obj) : w.grownBy (w'.alloc o) none :=
 ⟨h.os, h.tape, h.output, by have := h.size; simp; omega, fun k hk hne => (Below.heap_alloc _ _ _ (by have := h.size; omega)).trans (h.block k hk hne)⟩
theorem kept0 {w w' : World} {b : Nat} (hg : w.grownBy w' none) (hb : b < w.heap.size) : w'.heap[b]? = w.heap[b]? := hg.block b hb (by simp)
theorem low0 {B : Nat} {w w' : World} (h : w.grownBy w' none) (hB : B ≤ w.heap.size) : Low B w w' := fun k hk => h.block k (by omega) (by simp)
theorem grown0_tr' {a b c : World} (h : a.grownBy b none) (k : b.grownBy c none) : a.grownBy c none := ⟨k.os.trans h.os, k.tape.trans h.tape, k.output.trans h.output, Nat.le_trans h.size k.size, fun x hx hne => (k.block x (by have := h.size; omega) hne).trans (h.block x hx hne)⟩
theorem is_wrap {m : Vf.Md} (hmu : m.units.length ≤ 30) {t : Int} (h : I64 t) : Vf.is m 3 (t - 10) = Vf.is m 3 (IntKind.i64.wrap (t - 10)) := by
 by_cases h0 : -9223372036854775808 ≤ t - 10
 ·have e : IntKind.i64.wrap (t - 10) = t - 10 := by
   have := h.2
   simp [IntKind.wrap, IntKind.bits, IntKind.signed]
   omega
  rw [e]
 ·have e : (m.units.length : Int) ≤ IntKind.i64.wrap (t - 10) := by
   have := h.1
   simp [IntKind.wrap, IntKind.bits, IntKind.signed]
   omega
  rw [is_out e, is_neg (by omega)]
theorem typed_any (c : FC) (B : Nat) (w : World) (hmd : Hid (ModIn B w c.m c.ab c.au)) (hun : Hid (UnIn B w c.u c.al c.ac c.cl c.cc)) (hB : B ≤ w.heap.size) (hmu : c.m.units.length ≤ 30) (b : Bool) (hb : Hid (b = Vf.typed c.m c.u)) :
  Calls Tryz.prog 63 #[utV c] w fun e w' => e = .returned (.bool b) ∧ w.grownBy w' none := by
 obtain ⟨y0, y1, y2, y3, y4, y5, y6, y7⟩ := ut_cells (heap_alloc_new w (utO c))
 have hlo : c.u.locals.length ≤ 9223372036854775807 := hun.out.few.1
 have HB : Hid (b = (((c.u.kind == 4 || Vf.plain c.u.result) && (c.u.kind != 3 || Vf.plain c.u.takes)) && c.u.locals.all (fun t => Vf.plain t || Vf.is c.m 3 (t - 10)))) := hb.out
 obtain ⟨p1, hp1⟩ : ∃ p, p = Vf.plain c.u.result := ⟨_, rfl⟩
 obtain ⟨p2, hp2⟩ : ∃ p, p = Vf.plain c.u.takes := ⟨_, rfl⟩
 rw [← hp1, ← hp2] at HB
 have HP1 := hide hp1
 have HP2 := hide hp2
 clear hb hp1 hp2
 cases e4 : (c.u.kind == 4) with
 | true =>
  have e4' : (c.u.kind != 4) = false := by simp at e4; simp [e4]
  have e3 : (c.u.kind == 3) = false := by simp at e4; simp [e4]
  have e3' : (c.u.kind != 3) = true := by simp at e4; simp [e4]
  have HT : Hid (b = (c.u.locals.drop 0).all (fun t => Vf.plain t || Vf.is c.m 3 (t - 10))) := by unfold Hid; rw [HB.out, e4, e3']; simp
  go_enter Tryz.func63, Tryz.ntmps63
  go_wp2_with fail
  go_loopw [33] (fun v wr => ∃ k : Nat, v = .int .i64 k ∧ TyAt c (w.alloc (utO c)) b k wr) (fun v _ => c.u.locals.length - (intOf v).toNat)
  case atStart => exact ⟨0, rfl, Nat.zero_le _, World.grownBy.refl _ _, HT.out⟩
  case round =>
   obtain ⟨k, rfl, hA⟩ := hrel
   have HA := hide hA
   have hk := hA.le
   clear hA
   by_cases hlt : k < c.u.locals.length
   ·obtain ⟨t, ht⟩ : ∃ t, c.u.locals[k]? = some t := ⟨_, List.getElem?_eq_getElem hlt⟩
    have hlow : Low B w wr := fun j hj => (kept0 HA.out.grown (by simp; omega)).trans (Below.heap_alloc _ _ _ (by omega))
    obtain ⟨h64, bl, ol, hal, hbl, ct⟩ := (hun.out.locals.low hlow) k t ht
    have hub : wr.heap[w.heap.size]? = some (utO c) := (kept0 HA.out.grown (by simp)).trans (heap_alloc_new w _)
    obtain ⟨y0, y1, _⟩ := ut_cells hub
    have HMr : Hid (ModIn B wr c.m c.ab c.au) := hmd.out.low hlow
    have hwr : w.heap.size < wr.heap.size := lt_of_block hub
    have HN : Hid (b = ((Vf.plain t || Vf.is c.m 3 (t - 10)) && (c.u.locals.drop (k + 1)).all (fun t => Vf.plain t || Vf.is c.m 3 (t - 10)))) := by
     unfold Hid
     obtain ⟨hk', hte⟩ := List.getElem?_eq_some_iff.1 ht
     rw [HA.out.rest, List.drop_eq_getElem_cons hk', hte, List.all_cons]
    obtain ⟨p, hp⟩ : ∃ p, p = Vf.plain t := ⟨_, rfl⟩
    rw [← hp] at HN
    have HPP := hide hp
    have H64 := hide h64
    have HAL := hide hal
    clear ht hub hlow h64 hp
    rw [HAL.out]
    cases p with
    | true =>
     have HN2 : Hid (b = (c.u.locals.drop (k + 1)).all (fun t => Vf.plain t || Vf.is c.m 3 (t - 10))) := by rw [HN.out]; rfl
     go_wp2_with fail
     refine (plain_any t _ true HPP).mono ?_
     rintro e w2 ⟨rfl, rfl⟩
     go_wp2
     go_roundw
     case rel => exact ⟨k + 1, by go_num, hlt, HA.out.grown, HN2.out⟩
     case measure => simp [intOf]; omega
    | false =>
     obtain ⟨q, hq⟩ : ∃ q, q = Vf.is c.m 3 (t - 10) := ⟨_, rfl⟩
     have HN2 : Hid (b = (q && (c.u.locals.drop (k + 1)).all (fun t => Vf.plain t || Vf.is c.m 3 (t - 10)))) := by rw [HN.out, hq]; rfl
     obtain ⟨d, hd⟩ : ∃ d : Int, d = IntKind.i64.wrap (t - 10) := ⟨_, rfl⟩
     have HQ : Hid (q = Vf.is c.m 3 d) := by
      unfold Hid
      rw [hq, hd]
      exact is_wrap hmu H64.out
     have hd' := hd.symm
     clear hd hq
     go_wp2_with fail
     refine (plain_any t _ false HPP).mono ?_
     rintro e w2 ⟨rfl, rfl⟩
     go_wp2_with fail
     refine (is_any c.m c.ab c.au c.cb c.cu B 3 d _ HMr (by omega) q HQ).mono ?_
     rintro e w3 ⟨rfl, rfl⟩
     cases q with
     | true =>
      have HN3 : Hid (b = (c.u.locals.drop (k + 1)).all (fun t => Vf.plain t || Vf.is c.m 3 (t - 10))) := by rw [HN2.out]; rfl
      go_wp2
      go_roundw
      case rel => exact ⟨k + 1, by go_num, hlt, grown0_new HA.out.grown _, HN3.out⟩
      case measure => simp [intOf]; omega
     | false =>
      have HN3 : Hid (b = false) := by rw [HN2.out]; rfl
      go_wp2
      go_ret
      rw [HN3.out]
      exact ⟨rfl, grown0_new (grown0_tr' (grown0_new (World.grownBy.refl _ _) _) HA.out.grown) _⟩
   ·have HN : Hid (b = true) := by unfold Hid; rw [HA.out.rest, List.drop_eq_nil_of_le (by omega)]; rfl
    go_wp2
    go_ret
    rw [HN.out]
    exact ⟨rfl, grown0_tr' (grown0_new (World.grownBy.refl _ _) _) HA.out.grown⟩
 | false =>
  have e4' : (c.u.kind != 4) = true := by simp at e4; simp [e4]
  cases p1 with
  | false =>
   have HN : Hid (b = false) := by rw [HB.out, e4]; rfl
   go_enter Tryz.func63, Tryz.ntmps63
   go_wp2_with fail
   refine (plain_any c.u.result _ false HP1).mono ?_
   rintro e w2 ⟨rfl, rfl⟩
   go_wp2
   go_ret
   rw [HN.out]
   exact ⟨rfl, grown0_new (World.grownBy.refl _ _) _⟩
  | true =>
   cases e3 : (c.u.kind == 3) with
   | false =>
    have e3' : (c.u.kind != 3) = true := by simp at e3; simp [e3]
    have HT : Hid (b = (c.u.locals.drop 0).all (fun t => Vf.plain t || Vf.is c.m 3 (t - 10))) := by unfold Hid; rw [HB.out, e4, e3']; simp
    go_enter Tryz.func63, Tryz.ntmps63
    go_wp2_with fail
    refine (plain_any c.u.result _ true HP1).mono ?_
    rintro e w2 ⟨rfl, rfl⟩
    go_wp2_with fail
    go_loopw [33] (fun v wr => ∃ k : Nat, v = .int .i64 k ∧ TyAt c (w.alloc (utO c)) b k wr) (fun v _ => c.u.locals.length - (intOf v).toNat)
    case atStart => exact ⟨0, rfl, Nat.zero_le _, World.grownBy.refl _ _, HT.out⟩
    case round =>
     obtain ⟨k, rfl, hA⟩ := hrel
     have HA := hide hA
     have hk := hA.le
     clear hA
     by_cases hlt : k < c.u.locals.length
     ·obtain ⟨t, ht⟩ : ∃ t, c.u.locals[k]? = some t := ⟨_, List.getElem?_eq_getElem hlt⟩
      have hlow : Low B w wr := fun j hj => (kept0 HA.out.grown (by simp; omega)).trans (Below.heap_alloc _ _ _ (by omega))
      obtain ⟨h64, bl, ol, hal, hbl, ct⟩ := (hun.out.locals.low hlow) k t ht
      have hub : wr.heap[w.heap.size]? = some (utO c) := (kept0 HA.out.grown (by simp)).trans (heap_alloc_new w _)
      obtain ⟨y0, y1, _⟩ := ut_cells hub
      have HMr : Hid (ModIn B wr c.m c.ab c.au) := hmd.out.low hlow
      have hwr : w.heap.size < wr.heap.size := lt_of_block hub
      have HN : Hid (b = ((Vf.plain t || Vf.is c.m 3 (t - 10)) && (c.u.locals.drop (k + 1)).all (fun t => Vf.plain t || Vf.is c.m 3 (t - 10)))) := by
       unfold Hid
       obtain ⟨hk', hte⟩ := List.getElem?_eq_some_iff.1 ht
       rw [HA.out.rest, List.drop_eq_getElem_cons hk', hte, List.all_cons]
      obtain ⟨p, hp⟩ : ∃ p, p = Vf.plain t := ⟨_, rfl⟩
      rw [← hp] at HN
      have HPP := hide hp
      have H64 := hide h64
      have HAL := hide hal
      clear ht hub hlow h64 hp
      rw [HAL.out]
      cases p with
      | true =>
       have HN2 : Hid (b = (c.u.locals.drop (k + 1)).all (fun t => Vf.plain t || Vf.is c.m 3 (t - 10))) := by rw [HN.out]; rfl
       go_wp2_with fail
       refine (plain_any t _ true HPP).mono ?_
       rintro e w2 ⟨rfl, rfl⟩
       go_wp2
       go_roundw
       case rel => exact ⟨k + 1, by go_num, hlt, HA.out.grown, HN2.out⟩
       case measure => simp [intOf]; omega
      | false =>
       obtain ⟨q, hq⟩ : ∃ q, q = Vf.is c.m 3 (t - 10) := ⟨_, rfl⟩
       have HN2 : Hid (b = (q && (c.u.locals.drop (k + 1)).all (fun t => Vf.plain t || Vf.is c.m 3 (t - 10)))) := by rw [HN.out, hq]; rfl
       obtain ⟨d, hd⟩ : ∃ d : Int, d = IntKind.i64.wrap (t - 10) := ⟨_, rfl⟩
       have HQ : Hid (q = Vf.is c.m 3 d) := by
        unfold Hid
        rw [hq, hd]
        exact is_wrap hmu H64.out
       have hd' := hd.symm
       clear hd hq
       go_wp2_with fail
       refine (plain_any t _ false HPP).mono ?_
       rintro e w2 ⟨rfl, rfl⟩
       go_wp2_with fail
       refine (is_any c.m c.ab c.au c.cb c.cu B 3 d _ HMr (by omega) q HQ).mono ?_
       rintro e w3 ⟨rfl, rfl⟩
       cases q with
       | true =>
        have HN3 : Hid (b = (c.u.locals.drop (k + 1)).all (fun t => Vf.plain t || Vf.is c.m 3 (t - 10))) := by rw [HN2.out]; rfl
        go_wp2
        go_roundw
        case rel => exact ⟨k + 1, by go_num, hlt, grown0_new HA.out.grown _, HN3.out⟩
        case measure => simp [intOf]; omega
       | false =>
        have HN3 : Hid (b = false) := by rw [HN2.out]; rfl
        go_wp2
        go_ret
        rw [HN3.out]
        exact ⟨rfl, grown0_new (grown0_tr' (grown0_new (World.grownBy.refl _ _) _) HA.out.grown) _⟩
     ·have HN : Hid (b = true) := by unfold Hid; rw [HA.out.rest, List.drop_eq_nil_of_le (by omega)]; rfl
      go_wp2
      go_ret
      rw [HN.out]
      exact ⟨rfl, grown0_tr' (grown0_new (World.grownBy.refl _ _) _) HA.out.grown⟩
   | true =>
    have e3' : (c.u.kind != 3) = false := by simp at e3; simp [e3]
    cases p2 with
    | false =>
     have HN : Hid (b = false) := by rw [HB.out, e4, e3']; rfl
     go_enter Tryz.func63, Tryz.ntmps63
     go_wp2_with fail
     refine (plain_any c.u.result _ true HP1).mono ?_
     rintro e w2 ⟨rfl, rfl⟩
     go_wp2_with fail
     refine (plain_any c.u.takes _ false HP2).mono ?_
     rintro e w3 ⟨rfl, rfl⟩
     go_wp2
     go_ret
     rw [HN.out]
     exact ⟨rfl, grown0_new (World.grownBy.refl _ _) _⟩
    | true =>
     have HT : Hid (b = (c.u.locals.drop 0).all (fun t => Vf.plain t || Vf.is c.m 3 (t - 10))) := by unfold Hid; rw [HB.out, e4, e3']; simp
     go_enter Tryz.func63, Tryz.ntmps63
     go_wp2_with fail
     refine (plain_any c.u.result _ true HP1).mono ?_
     rintro e w2 ⟨rfl, rfl⟩
     go_wp2_with fail
     refine (plain_any c.u.takes _ true HP2).mono ?_
     rintro e w3 ⟨rfl, rfl⟩
     go_wp2_with fail
     go_loopw [33] (fun v wr => ∃ k : Nat, v = .int .i64 k ∧ TyAt c (w.alloc (utO c)) b k wr) (fun v _ => c.u.locals.length - (intOf v).toNat)
     case atStart => exact ⟨0, rfl, Nat.zero_le _, World.grownBy.refl _ _, HT.out⟩
     case round =>
      obtain ⟨k, rfl, hA⟩ := hrel
      have HA := hide hA
      have hk := hA.le
      clear hA
      by_cases hlt : k < c.u.locals.length
      ·obtain ⟨t, ht⟩ : ∃ t, c.u.locals[k]? = some t := ⟨_, List.getElem?_eq_getElem hlt⟩
       have hlow : Low B w wr := fun j hj => (kept0 HA.out.grown (by simp; omega)).trans (Below.heap_alloc _ _ _ (by omega))
       obtain ⟨h64, bl, ol, hal, hbl, ct⟩ := (hun.out.locals.low hlow) k t ht
       have hub : wr.heap[w.heap.size]? = some (utO c) := (kept0 HA.out.grown (by simp)).trans (heap_alloc_new w _)
       obtain ⟨y0, y1, _⟩ := ut_cells hub
       have HMr : Hid (ModIn B wr c.m c.ab c.au) := hmd.out.low hlow
       have hwr : w.heap.size < wr.heap.size := lt_of_block hub
       have HN : Hid (b = ((Vf.plain t || Vf.is c.m 3 (t - 10)) && (c.u.locals.drop (k + 1)).all (fun t => Vf.plain t || Vf.is c.m 3 (t - 10)))) := by
        unfold Hid
        obtain ⟨hk', hte⟩ := List.getElem?_eq_some_iff.1 ht
        rw [HA.out.rest, List.drop_eq_getElem_cons hk', hte, List.all_cons]
       obtain ⟨p, hp⟩ : ∃ p, p = Vf.plain t := ⟨_, rfl⟩
       rw [← hp] at HN
       have HPP := hide hp
       have H64 := hide h64
       have HAL := hide hal
       clear ht hub hlow h64 hp
       rw [HAL.out]
       cases p with
       | true =>
        have HN2 : Hid (b = (c.u.locals.drop (k + 1)).all (fun t => Vf.plain t || Vf.is c.m 3 (t - 10))) := by rw [HN.out]; rfl
        go_wp2_with fail
        refine (plain_any t _ true HPP).mono ?_
        rintro e w2 ⟨rfl, rfl⟩
        go_wp2
        go_roundw
        case rel => exact ⟨k + 1, by go_num, hlt, HA.out.grown, HN2.out⟩
        case measure => simp [intOf]; omega
       | false =>
        obtain ⟨q, hq⟩ : ∃ q, q = Vf.is c.m 3 (t - 10) := ⟨_, rfl⟩
        have HN2 : Hid (b = (q && (c.u.locals.drop (k + 1)).all (fun t => Vf.plain t || Vf.is c.m 3 (t - 10)))) := by rw [HN.out, hq]; rfl
        obtain ⟨d, hd⟩ : ∃ d : Int, d = IntKind.i64.wrap (t - 10) := ⟨_, rfl⟩
        have HQ : Hid (q = Vf.is c.m 3 d) := by
         unfold Hid
         rw [hq, hd]
         exact is_wrap hmu H64.out
        have hd' := hd.symm
        clear hd hq
        go_wp2_with fail
        refine (plain_any t _ false HPP).mono ?_
        rintro e w2 ⟨rfl, rfl⟩
        go_wp2_with fail
        refine (is_any c.m c.ab c.au c.cb c.cu B 3 d _ HMr (by omega) q HQ).mono ?_
        rintro e w3 ⟨rfl, rfl⟩
        cases q with
        | true =>
         have HN3 : Hid (b = (c.u.locals.drop (k + 1)).all (fun t => Vf.plain t || Vf.is c.m 3 (t - 10))) := by rw [HN2.out]; rfl
         go_wp2
         go_roundw
         case rel => exact ⟨k + 1, by go_num, hlt, grown0_new HA.out.grown _, HN3.out⟩
         case measure => simp [intOf]; omega
        | false =>
         have HN3 : Hid (b = false) := by rw [HN2.out]; rfl
         go_wp2
         go_ret
         rw [HN3.out]
         exact ⟨rfl, grown0_new (grown0_tr' (grown0_new (World.grownBy.refl _ _) _) HA.out.grown) _⟩
      ·have HN : Hid (b = true) := by unfold Hid; rw [HA.out.rest, List.drop_eq_nil_of_le (by omega)]; rfl
       go_wp2
       go_ret
       rw [HN.out]
       exact ⟨rfl, grown0_tr' (grown0_new (World.grownBy.refl _ _) _) HA.out.grown⟩
abbrev Lk : Type := Int × Int
abbrev LL : Type := List (Lk × Int)
namespace Vf
def idx (k : Lk) : LL → Nat
 | [] => 0
 | p :: r => if k = p.1 then 0 else idx k r + 1
def cnt (k : Lk) (l : LL) : Int := ((l[idx k l]?).map (·.2)).getD 0
def ent0 (k : Lk) (l : LL) : LL := if idx k l < l.length then l else l ++ [(k, 0)]
def setv (j : Nat) (v : Int) (l : LL) : LL := l.modify j (fun p => (p.1, v))
def bump (k : Lk) (l : LL) : LL := setv (idx k l) (cnt k l + 1) (ent0 k l)
theorem idx_le (k : Lk) : ∀ l : LL, idx k l ≤ l.length
 | [] => Nat.le_refl _
 | p :: r => by
  unfold idx
  split
  ·exact Nat.zero_le _
  ·have := idx_le k r; simp; omega
theorem idx_at {k : Lk} : ∀ {l : LL}, idx k l < l.length → ∃ v, l[idx k l]? = some (k, v)
 | [], h => by simp at h
 | p :: r, h => by
  unfold idx at h ⊢
  split
  ·rename_i hk
   exact ⟨p.2, by rw [hk]; rfl⟩
  ·rename_i hk
   rw [if_neg hk] at h
   obtain ⟨v, hv⟩ := idx_at (k := k) (l := r) (by simp at h; omega)
   exact ⟨v, by simpa using hv⟩
theorem idx_app {k : Lk} {v : Int} : ∀ {l : LL}, ¬ idx k l < l.length → idx k (l ++ [(k, v)]) = l.length
 | [], _ => by simp [idx]
 | p :: r, h => by
  unfold idx at h
  by_cases hk : k = p.1
  ·rw [if_pos hk] at h; simp at h
  ·rw [if_neg hk] at h
   have := idx_app (k := k) (v := v) (l := r) (by simp at h; omega)
   show (if k = p.1 then 0 else idx k (r ++ [(k, v)]) + 1) = _
   rw [if_neg hk, this]
   rfl
theorem ent0_idx (k : Lk) (l : LL) : idx k (ent0 k l) = idx k l ∧ idx k l < (ent0 k l).length ∧ (ent0 k l)[idx k l]? = some (k, cnt k l) := by
 unfold ent0
 by_cases h : idx k l < l.length
 ·rw [if_pos h]
  obtain ⟨v, hv⟩ := idx_at h
  exact ⟨rfl, h, by unfold cnt; rw [hv]; rfl⟩
 ·rw [if_neg h]
  have e : idx k l = l.length := by have := idx_le k l; omega
  refine ⟨(idx_app h).trans e.symm, by simp; omega, ?_⟩
  unfold cnt
  rw [e]
  simp
end Vf
abbrev lkV (k : Lk) : Value := .agg #[.int .i64 k.1, .int .i64 k.2]
def ents : LL → Nat → List MapEntry
 | [], _ => []
 | p :: r, i => { key := lkV p.1, val := .int .i64 p.2, born := i } :: ents r (i + 1)
theorem ents_get : ∀ (l : LL) (i j : Nat), (ents l i)[j]? = (l[j]?).map (fun p => { key := lkV p.1, val := .int .i64 p.2, born := i + j })
 | [], _, _ => by simp [ents]
 | p :: r, i, 0 => by simp [ents]
 | p :: r, i, j + 1 => by
  have := ents_get r (i + 1) j
  simp only [ents, List.getElem?_cons_succ]
  rw [this]
  congr 2
  funext p
  congr 1
  omega
theorem ents_app (k : Lk) (v : Int) : ∀ (l : LL) (i : Nat), ents (l ++ [(k, v)]) i = ents l i ++ [{ key := lkV k, val := .int .i64 v, born := i + l.length }]
 | [], i => rfl
 | p :: r, i => by
  simp only [ents, List.cons_append]
  rw [ents_app k v r (i + 1)]
  congr 4
  simp
  omega
theorem ents_set (v : Int) : ∀ (l : LL) (i j : Nat), (ents l i).modify j (fun e => { e with val := .int .i64 v }) = ents (Vf.setv j v l) i
 | [], i, j => by cases j <;> rfl
 | p :: r, i, 0 => rfl
 | p :: r, i, j + 1 => by
  show _ :: (ents r (i + 1)).modify j _ = _
  rw [ents_set v r (i + 1) j]
  rfl
theorem ents_key {k : Lk} : ∀ (l : LL) (i j : Nat) (v : Int), l[j]? = some (k, v) → (ents l i).modify j (fun e => { e with key := lkV k }) = ents l i
 | [], i, j, v, h => by simp at h
 | p :: r, i, 0, v, h => by simp at h; subst h; rfl
 | p :: r, i, j + 1, v, h => by
  show _ :: (ents r (i + 1)).modify j _ = _
  rw [ents_key r (i + 1) j v (by simpa using h)]
  rfl
def LkIn (w : World) (M : Nat) (l : LL) : Prop := w.heap[M]? = some (.map (ents l 0).toArray l.length)
theorem Tryz.infolink : (Tryz.prog.info? 3).map (fun i => i.size) = some 1 := by kernel_rfl
theorem eq_int (d : Nat) (x y : Int) (w : World) : (Op.equalIn (d + 1) 3 (.int .i64 x) (.int .i64 y)).run Tryz.prog w = .ok (x == y) w := by
 simp [Op.equalIn, run_underlying Tryz.underlying3]
theorem eq_link (k k' : Lk) (w : World) : (Op.equal 123 (lkV k) (lkV k')).run Tryz.prog w = .ok (decide (k = k')) w := by
 have hu := run_underlying (P := Tryz.prog) (w := w) Tryz.underlying123
 obtain ⟨j, hj, hj2⟩ := Option.map_eq_some_iff.1 Tryz.infolink
 have p0 : ∀ (a b : Value) (w : World), (part 3 #[a, b] 0).run Tryz.prog w = .ok a w := fun _ _ _ => by simp [part, sizeOf, typeInfo, hj, hj2]
 have p1 : ∀ (a b : Value) (w : World), (part 3 #[a, b] 1).run Tryz.prog w = .ok b w := fun _ _ _ => by simp [part, sizeOf, typeInfo, hj, hj2]
 have hst : Tryz.prog.stoodInHeld 123 = false := by kernel_rfl
 have h : ∀ d : Nat, (Op.equalIn (d + 2) 123 (lkV k) (lkV k')).run Tryz.prog w = .ok (decide (k = k')) w := fun d => by
  rw [Op.equalIn]
  have hp : (Sem.program Sem.pure).run Tryz.prog w = .ok Tryz.prog w := rfl
  simp [hu, program, hp, hst, p0, p1, eq_int]
  obtain ⟨a, b⟩ := k
  obtain ⟨a', b'⟩ := k'
  by_cases ha : a = a'
  ·by_cases hb : b = b'
   ·simp [ha, hb]
   ·simp [ha, hb]
  ·simp [ha]
 exact h 9998
def fndL (k : Lk) : LL → Nat → Option (Nat × Value)
 | [], _ => none
 | p :: r, i => if k = p.1 then some (i, .int .i64 p.2) else fndL k r (i + 1)
theorem run_asking (k : Lk) (w : World) : ∀ (l : LL) (i : Nat), (Instr.findAsking 123 (lkV k) (ents l i) i).run Tryz.prog w = .ok (fndL k l i) w
 | [], i => rfl
 | (k', v) :: r, i => by
  have h := eq_link k k' w
  have hr := run_asking k w r (i + 1)
  unfold ents Instr.findAsking fndL
  by_cases hk : k = k'
  ·subst hk
   simp [h]
  ·simp [h, hk, hr]
theorem fndL_eq (k : Lk) : ∀ (l : LL) (i : Nat), fndL k l i = if Vf.idx k l < l.length then some (i + Vf.idx k l, .int .i64 (Vf.cnt k l)) else none
 | [], i => rfl
 | p :: r, i => by
  unfold fndL
  by_cases hk : k = p.1
  ·have e : Vf.idx k (p :: r) = 0 := by unfold Vf.idx; rw [if_pos hk]
   rw [if_pos hk, e, if_pos (by simp)]
   unfold Vf.cnt
   rw [e]
   rfl
  ·have e : Vf.idx k (p :: r) = Vf.idx k r + 1 := by rw [Vf.idx, if_neg hk]
   have ec : Vf.cnt k (p :: r) = Vf.cnt k r := by unfold Vf.cnt; rw [e]; rfl
   rw [if_neg hk, fndL_eq k r (i + 1), e, ec]
   by_cases h : Vf.idx k r < r.length
   ·rw [if_pos h, if_pos (by simp; omega), show i + 1 + Vf.idx k r = i + (Vf.idx k r + 1) by omega]
   ·rw [if_neg h, if_neg (by simp; omega)]
theorem run_find (k : Lk) (l : LL) (w : World) : (Instr.findKey 123 (lkV k) (ents l 0)).run Tryz.prog w = .ok (fndL k l 0) w := by
 have hu := run_underlying (P := Tryz.prog) (w := w) Tryz.underlying123
 have hr := run_asking k w l 0
 cases l with
 | nil => simp [Instr.findKey, hu, ents, Instr.findNow, fndL]
 | cons p r =>
  have hn : ∀ fs, Instr.findNow (.struct fs) (lkV k) (ents (p :: r) 0) 0 = none := fun fs => by
   unfold ents Instr.findNow
   rfl
  simp [Instr.findKey, hu, hn, hr]
theorem run_keyL (k : Lk) (b : Bool) (w : World) : (Instr.checkKey b 10000 123 (lkV k)).run Tryz.prog w = .ok () w := by
 have hu := run_underlying (P := Tryz.prog) (w := w) Tryz.underlying123
 obtain ⟨j, hj, hj2⟩ := Option.map_eq_some_iff.1 Tryz.infolink
 have p0 : ∀ (a b : Value) (w : World), (part 3 #[a, b] 0).run Tryz.prog w = .ok a w := fun _ _ _ => by simp [part, sizeOf, typeInfo, hj, hj2]
 have p1 : ∀ (a b : Value) (w : World), (part 3 #[a, b] 1).run Tryz.prog w = .ok b w := fun _ _ _ => by simp [part, sizeOf, typeInfo, hj, hj2]
 have hk : ∀ (x : Int), (Instr.checkKey b 9999 3 (.int .i64 x)).run Tryz.prog w = .ok () w := fun x => MapKept.run_checkKey (n := 9998) Tryz.underlying3 (by simp [MapKept.IsKey]) b
 rw [show (10000 : Nat) = 9999 + 1 from rfl, Instr.checkKey]
 simp [hu, p0, p1, hk]
theorem cnt_out {k : Lk} {l : LL} (h : ¬ Vf.idx k l < l.length) : Vf.cnt k l = 0 := by
 unfold Vf.cnt
 rw [List.getElem?_eq_none (by omega)]
 rfl
theorem run_lookL {w : World} {M : Nat} {l : LL} (h : LkIn w M l) (k : Lk) : (Instr.lookup 120 (.map (some M)) (lkV k) false).run Tryz.prog w = .ok (.int .i64 (Vf.cnt k l)) w := by
 unfold LkIn at h
 have hg : (getObj M).run Tryz.prog w = .ok (.map (ents l 0).toArray l.length) w := MapKept.run_getObj_map h
 have hu := run_underlying (P := Tryz.prog) (w := w) Tryz.underlying120
 have hf := run_find k l w
 rw [fndL_eq] at hf
 by_cases hi : Vf.idx k l < l.length
 ·rw [if_pos hi] at hf
  simp [Instr.lookup, hu, hg, run_keyL, hf]
 ·rw [if_neg hi] at hf
  simp [Instr.lookup, hu, hg, run_keyL, hf, cnt_out hi]
theorem lk_set {w : World} {M : Nat} {l : LL} (h : LkIn w M l) (l' : LL) : LkIn { w with heap := w.heap.setIfInBounds M (.map (ents l' 0).toArray l'.length) } M l' ∧ w.grownBy { w with heap := w.heap.setIfInBounds M (.map (ents l' 0).toArray l'.length) } (some M) := by
 obtain ⟨m1, m2⟩ := MapKept.heap_set (o' := .map (ents l' 0).toArray l'.length) h
 exact ⟨m1, rfl, rfl, rfl, by simp, fun k _ hne => m2 k (fun e => hne (by rw [e]))⟩
theorem run_entL {w : World} {M : Nat} {l : LL} (h : LkIn w M l) (k : Lk) : ∃ w1, (Instr.mapEntry 120 (.map (some M)) (lkV k)).run Tryz.prog w = .ok (.tuple #[.int .i64 (Vf.cnt k l), goInt (Vf.idx k l)]) w1 ∧ LkIn w1 M (Vf.ent0 k l) ∧ w.grownBy w1 (some M) := by
 have h0 := h
 unfold LkIn at h
 have hg : (getObj M).run Tryz.prog w = .ok (.map (ents l 0).toArray l.length) w := MapKept.run_getObj_map h
 have hu := run_underlying (P := Tryz.prog) (w := w) Tryz.underlying120
 have hf := run_find k l w
 rw [fndL_eq] at hf
 by_cases hi : Vf.idx k l < l.length
 ·rw [if_pos hi] at hf
  obtain ⟨v, hv⟩ := Vf.idx_at hi
  have hes : (ents l 0)[Vf.idx k l]? = some { key := lkV k, val := .int .i64 v, born := 0 + Vf.idx k l } := by
   rw [ents_get, hv]
   rfl
  have hst : (Instr.keyThatStays (lkV k) (lkV k)).run Tryz.prog w = .ok (lkV k) w := by
   unfold Instr.keyThatStays
   simp [Instr.sameBits]
  have hmod := ents_key l 0 _ v hv
  have hset := MapKept.run_setObj_map (P := Tryz.prog) (.map (ents l 0).toArray l.length) h
  have he : Vf.ent0 k l = l := by unfold Vf.ent0; rw [if_pos hi]
  refine ⟨_, ?_, by rw [he]; exact (lk_set h0 l).1, (lk_set h0 l).2⟩
  simp only [Nat.zero_add] at hf hes
  simp [Instr.mapEntry, hu, hg, run_keyL, hf, hes, hst, hmod, hset]
 ·rw [if_neg hi] at hf
  have hset := MapKept.run_setObj_map (P := Tryz.prog) (.map (ents (l ++ [(k, 0)]) 0).toArray (l ++ [(k, 0)]).length) h
  have he : Vf.ent0 k l = l ++ [(k, 0)] := by unfold Vf.ent0; rw [if_neg hi]
  have hpush := ents_app k 0 l 0
  rw [Nat.zero_add] at hpush
  have hlen : (l ++ [(k, 0)]).length = l.length + 1 := by simp
  have hix : Vf.idx k l = l.length := by have := Vf.idx_le k l; omega
  rw [hlen] at hset
  refine ⟨_, ?_, by rw [he]; exact (lk_set h0 (l ++ [(k, 0)])).1, (lk_set h0 (l ++ [(k, 0)])).2⟩
  rw [cnt_out hi, hix, hlen]
  simp [Instr.mapEntry, hu, hg, run_keyL, hf, ← hpush, hset]
theorem find_born : ∀ (l : LL) (i j : Nat), j < l.length → (ents l i).findIdx? (fun e => ((e.born : Int) == ((i + j : Nat) : Int))) = some j
 | [], i, j, h => by simp at h
 | p :: r, i, 0, h => by simp [ents, List.findIdx?_cons]
 | p :: r, i, j + 1, h => by
  have := find_born r (i + 1) j (by simp at h; omega)
  rw [show i + 1 + j = i + (j + 1) by omega] at this
  simp only [ents, List.findIdx?_cons]
  rw [if_neg (by simp; omega), this]
  rfl
theorem run_stoL {w : World} {M : Nat} {l : LL} (h : LkIn w M l) {j : Nat} (hj : j < l.length) (v : Int) : ∃ w1, (Instr.entryStore 120 (.map (some M)) (goInt j) (.int .i64 v)).run Tryz.prog w = .ok () w1 ∧ LkIn w1 M (Vf.setv j v l) ∧ w.grownBy w1 (some M) := by
 have h0 := h
 unfold LkIn at h
 have hg : (getObj M).run Tryz.prog w = .ok (.map (ents l 0).toArray l.length) w := MapKept.run_getObj_map h
 have hlen : (Vf.setv j v l).length = l.length := by unfold Vf.setv; simp
 have hset := MapKept.run_setObj_map (P := Tryz.prog) (.map (ents (Vf.setv j v l) 0).toArray l.length) h
 have hfi := find_born l 0 j hj
 rw [Nat.zero_add] at hfi
 have hmod := ents_set v l 0 j
 have hs := lk_set h0 (Vf.setv j v l)
 rw [hlen] at hs
 refine ⟨_, ?_, hs.1, hs.2⟩
 simp [Instr.entryStore, hg, goInt, asInt, asIntOf, hfi, hmod, hset]
theorem run_bump {w : World} {M : Nat} {l : LL} (h : LkIn w M l) (k : Lk) : ∃ w1 w2, (Instr.mapEntry 120 (.map (some M)) (lkV k)).run Tryz.prog w = .ok (.tuple #[.int .i64 (Vf.cnt k l), goInt (Vf.idx k l)]) w1 ∧ (Instr.lookup 120 (.map (some M)) (lkV k) false).run Tryz.prog w1 = .ok (.int .i64 (Vf.cnt k l)) w1 ∧
  (Instr.entryStore 120 (.map (some M)) (.int .i64 ((Vf.idx k l : Nat) : Int)) (.int .i64 (Vf.cnt k l + 1))).run Tryz.prog w1 = .ok () w2 ∧ LkIn w2 M (Vf.bump k l) ∧ w.grownBy w1 (some M) ∧ w.grownBy w2 (some M) := by
 obtain ⟨w1, h1, h2, h3⟩ := run_entL h k
 obtain ⟨e1, e2, e3⟩ := Vf.ent0_idx k l
 obtain ⟨w2, h4, h5, h6⟩ := run_stoL h2 e2 (Vf.cnt k l + 1)
 have hl := run_lookL h2 k
 have ec : Vf.cnt k (Vf.ent0 k l) = Vf.cnt k l := by
  conv => lhs; unfold Vf.cnt
  rw [e1, e3]
  rfl
 rw [ec] at hl
 exact ⟨w1, w2, h1, hl, h4, h5, h3, ⟨h6.os.trans h3.os, h6.tape.trans h3.tape, h6.output.trans h3.output, Nat.le_trans h3.size h6.size, fun j hj hne => (h6.block j (by have := h3.size; omega) hne).trans (h3.block j hj hne)⟩⟩
end Go.Proofs.YtekjhefmhhcboaaGreat
namespace Go.Proofs.YtekjhefmhhcboaaGreat
namespace Vf
theorem idx_keys (k : Lk) : ∀ (l l' : LL), l.map (·.1) = l'.map (·.1) → idx k l = idx k l'
 | [], [], _ => rfl
 | [], _ :: _, h => by cases h
 | _ :: _, [], h => by cases h
 | p :: r, p' :: r', h => by
  simp only [List.map_cons, List.cons.injEq] at h
  unfold idx
  rw [h.1, idx_keys k r r' h.2]
theorem setv_keys (j : Nat) (v : Int) : ∀ l : LL, (setv j v l).map (·.1) = l.map (·.1) := by
 induction j with
 | zero => intro l; cases l <;> rfl
 | succ j ih =>
  intro l
  cases l with
  | nil => rfl
  | cons p r =>
   show p.1 :: (setv j v r).map (·.1) = _
   rw [ih r]
   rfl
theorem setv_get (j : Nat) (v : Int) : ∀ (l : LL) (i : Nat), (setv j v l)[i]? = if i = j then (l[i]?).map (fun p => (p.1, v)) else l[i]? := by
 intro l i
 unfold setv
 rw [List.getElem?_modify]
 by_cases h : j = i
 ·subst h; simp
 ·rw [if_neg (fun e => h e.symm)]
  cases l[i]? <;> simp [h]
theorem idx_other {k k' : Lk} (hk : k' ≠ k) (v : Int) : ∀ l : LL, (idx k' (l ++ [(k, v)]) < l.length ↔ idx k' l < l.length) ∧ (idx k' l < l.length → idx k' (l ++ [(k, v)]) = idx k' l) ∧ (¬ idx k' l < l.length → idx k' (l ++ [(k, v)]) = l.length + 1)
 | [] => by simp [idx, hk]
 | p :: r => by
  have ih := idx_other hk v r
  show ((if k' = p.1 then 0 else idx k' (r ++ [(k, v)]) + 1) < _ ↔ (if k' = p.1 then 0 else idx k' r + 1) < _) ∧ _
  by_cases hp : k' = p.1
  ·refine ⟨by simp [hp], fun _ => ?_, fun h => ?_⟩
   ·show (if k' = p.1 then 0 else idx k' (r ++ [(k, v)]) + 1) = (if k' = p.1 then 0 else idx k' r + 1)
    rw [if_pos hp, if_pos hp]
   ·exfalso
    apply h
    show (if k' = p.1 then 0 else idx k' r + 1) < _
    rw [if_pos hp]; simp
  ·refine ⟨?_, fun h => ?_, fun h => ?_⟩
   ·rw [if_neg hp, if_neg hp]
    simp only [List.length_cons]
    have := ih.1
    omega
   ·show (if k' = p.1 then 0 else idx k' (r ++ [(k, v)]) + 1) = (if k' = p.1 then 0 else idx k' r + 1)
    have h' : (if k' = p.1 then 0 else idx k' r + 1) < (p :: r).length := h
    rw [if_neg hp] at h' ⊢
    rw [if_neg hp, ih.2.1 (by simp at h'; omega)]
   ·show (if k' = p.1 then 0 else idx k' (r ++ [(k, v)]) + 1) = _
    have h' : ¬ (if k' = p.1 then 0 else idx k' r + 1) < (p :: r).length := h
    rw [if_neg hp] at h' ⊢
    rw [ih.2.2 (by simp at h'; omega)]
    rfl
theorem cnt_none {k : Lk} {l : LL} (h : ¬ idx k l < l.length) : cnt k l = 0 := cnt_out h
theorem cnt_bump (k k' : Lk) (l : LL) : cnt k' (bump k l) = if k' = k then cnt k l + 1 else cnt k' l := by
 obtain ⟨e1, e2, e3⟩ := ent0_idx k l
 have hi : ∀ q, idx q (bump k l) = idx q (ent0 k l) := fun q => idx_keys q _ _ (setv_keys _ _ _)
 by_cases hk : k' = k
 ·subst hk
  rw [if_pos rfl]
  conv => lhs; unfold cnt
  rw [hi, e1]
  unfold bump
  rw [setv_get, if_pos rfl, e3]
  rfl
 ·rw [if_neg hk]
  conv => lhs; unfold cnt
  rw [hi]
  unfold bump
  unfold ent0 at e2 e3 ⊢
  by_cases h : idx k l < l.length
  ·rw [if_pos h] at e2 e3 ⊢
   by_cases h' : idx k' l < l.length
   ·obtain ⟨v, hv⟩ := idx_at h
    obtain ⟨v', hv'⟩ := idx_at h'
    have hne : idx k' l ≠ idx k l := fun e => by rw [e, hv] at hv'; cases hv'; exact hk rfl
    rw [setv_get, if_neg hne]
    rfl
   ·rw [List.getElem?_eq_none (by unfold setv; simp; omega), cnt_none h']
    rfl
  ·rw [if_neg h] at e2 e3 ⊢
   obtain ⟨o1, o2, o3⟩ := idx_other hk 0 l
   have hkl : idx k l = l.length := by have := idx_le k l; omega
   by_cases h' : idx k' l < l.length
   ·rw [o2 h', setv_get, if_neg (by omega), List.getElem?_append_left h']
    rfl
   ·rw [o3 h', List.getElem?_eq_none (by unfold setv; simp), cnt_none h']
    rfl
structure Wl (l : LL) : Prop where
 nodup : (l.map (·.1)).Nodup
 pos : ∀ p ∈ l, 1 ≤ p.2
theorem mem_idx {p : Lk × Int} : ∀ {l : LL}, (l.map (·.1)).Nodup → p ∈ l → cnt p.1 l = p.2 ∧ idx p.1 l < l.length
 | [], _, h => by cases h
 | q :: r, hn, h => by
  simp only [List.map_cons, List.nodup_cons] at hn
  by_cases hq : p.1 = q.1
  ·have hpq : p = q := by
    rcases List.mem_cons.1 h with h1 | h1
    ·exact h1
    ·exact absurd (List.mem_map.2 ⟨p, h1, hq⟩) hn.1
   subst hpq
   have e : idx p.1 (p :: r) = 0 := by unfold idx; rw [if_pos rfl]
   unfold cnt
   rw [e]
   exact ⟨rfl, by simp⟩
  ·have hr : p ∈ r := by
    rcases List.mem_cons.1 h with h1 | h1
    ·exact absurd (by rw [h1]) hq
    ·exact h1
   obtain ⟨h1, h2⟩ := mem_idx hn.2 hr
   have e : idx p.1 (q :: r) = idx p.1 r + 1 := by rw [idx, if_neg hq]
   unfold cnt at h1 ⊢
   rw [e]
   exact ⟨h1, by simp; omega⟩
theorem idx_mem {k : Lk} {l : LL} (h : idx k l < l.length) : (k, cnt k l) ∈ l := by
 obtain ⟨v, hv⟩ := idx_at h
 have e : cnt k l = v := by unfold cnt; rw [hv]; rfl
 rw [e]
 exact List.mem_of_getElem? hv
theorem cnt_nn {l : LL} (h : Wl l) (k : Lk) : 0 ≤ cnt k l := by
 by_cases hi : idx k l < l.length
 ·have := h.pos _ (idx_mem hi); simp at this; omega
 ·rw [cnt_none hi]; omega
theorem cnt_pos {l : LL} (h : Wl l) {k : Lk} : idx k l < l.length ↔ 1 ≤ cnt k l := by
 constructor
 ·intro hi; exact h.pos _ (idx_mem hi)
 ·intro hc
  by_cases hi : idx k l < l.length
  ·exact hi
  ·rw [cnt_none hi] at hc; omega
theorem bump_keys (k : Lk) (l : LL) : (bump k l).map (·.1) = (ent0 k l).map (·.1) := setv_keys _ _ _
theorem Wl.bump {l : LL} (h : Wl l) (k : Lk) : Wl (Vf.bump k l) := by
 have hnd : ((Vf.bump k l).map (·.1)).Nodup := by
  rw [bump_keys]
  unfold ent0
  split
  ·exact h.nodup
  ·rename_i hi
   rw [List.map_append, List.nodup_append]
   refine ⟨h.nodup, by simp, fun a ha b hb e => ?_⟩
   simp at hb
   subst hb
   subst e
   obtain ⟨p, hp, hpk⟩ := List.mem_map.1 ha
   have := (mem_idx h.nodup hp).2
   rw [hpk] at this
   exact hi this
 refine ⟨hnd, fun p hp => ?_⟩
 have h1 := (mem_idx hnd hp).1
 rw [← h1, cnt_bump]
 split
 ·have := cnt_nn h k; omega
 ·rename_i hne
  have h2 := (mem_idx hnd hp).2
  -- it was there ahead
  have h3 : p.1 ∈ (Vf.bump k l).map (·.1) := List.mem_map.2 ⟨p, hp, rfl⟩
  rw [bump_keys] at h3
  unfold ent0 at h3
  split at h3
  ·obtain ⟨q, hq, hqk⟩ := List.mem_map.1 h3
   have := h.pos q hq
   have h4 := (mem_idx h.nodup hq).1
   rw [hqk] at h4
   omega
  ·rw [List.map_append] at h3
   rcases List.mem_append.1 h3 with h5 | h5
   ·obtain ⟨q, hq, hqk⟩ := List.mem_map.1 h5
    have := h.pos q hq
    have h4 := (mem_idx h.nodup hq).1
    rw [hqk] at h4
    omega
   ·simp at h5; exact absurd h5 hne
theorem Wl.nil : Wl [] := ⟨by simp, fun p hp => by cases hp⟩
def tot (l : LL) : Int := (l.map (·.2)).sum
theorem tot_app (l : LL) (p : Lk × Int) : tot (l ++ [p]) = tot l + p.2 := by unfold tot; simp
theorem tot_set {v : Int} : ∀ (l : LL) (j : Nat) (p : Lk × Int), l[j]? = some p → tot (setv j v l) = tot l - p.2 + v
 | [], j, p, h => by simp at h
 | q :: r, 0, p, h => by
  simp at h
  subst h
  show ((v :: r.map (·.2)).sum : Int) = (q.2 :: r.map (·.2)).sum - q.2 + v
  simp
  omega
 | q :: r, j + 1, p, h => by
  have := tot_set (v := v) r j p (by simpa using h)
  have e1 : tot (setv (j + 1) v (q :: r)) = q.2 + tot (setv j v r) := by show (q.2 :: (setv j v r).map (·.2)).sum = _; simp [tot]
  have e2 : tot (q :: r) = q.2 + tot r := by simp [tot]
  omega
theorem tot_bump (k : Lk) (l : LL) : tot (bump k l) = tot l + 1 := by
 obtain ⟨e1, e2, e3⟩ := ent0_idx k l
 unfold bump
 rw [tot_set _ _ _ e3]
 have : tot (ent0 k l) = tot l := by
  unfold ent0
  split
  ·rfl
  ·rw [tot_app]; simp
 simp only
 omega
def univ : List Lk := (List.range 30).flatMap fun (a : Nat) => [((23 : Int), (a : Int)), ((29 : Int), (a : Int))]
theorem univ_mem {op : Int} {a : Nat} (ho : op = 23 ∨ op = 29) (ha : a < 30) : (op, (a : Int)) ∈ univ := by
 unfold univ
 rw [List.mem_flatMap]
 exact ⟨a, List.mem_range.2 ha, by rcases ho with rfl | rfl <;> simp⟩
theorem univ_len : univ.length = 60 := by decide
def mus (l : LL) : Nat := univ.countP (fun k => decide (cnt k l = 0))
theorem count_lt {α : Type} {p q : α → Bool} (h : ∀ x, q x = true → p x = true) : ∀ {l : List α} {x : α}, x ∈ l → p x = true → q x = false → l.countP q + 1 ≤ l.countP p
 | y :: l, x, hx, hp, hq => by
  have hle : l.countP q ≤ l.countP p := List.countP_mono_left (fun z _ => h z)
  rcases List.mem_cons.1 hx with rfl | hx
  ·rw [List.countP_cons_of_neg (by rw [hq]; decide), List.countP_cons_of_pos hp]
   omega
  ·have := count_lt h hx hp hq
   rw [List.countP_cons, List.countP_cons]
   have h1 := h y
   cases hqy : q y
   ·simp; omega
   ·rw [h1 hqy]; simp; omega
theorem mus_bump {l : LL} (h : Wl l) (k : Lk) : mus (bump k l) ≤ mus l := List.countP_mono_left (fun q _ hq => by
 simp only [decide_eq_true_eq] at hq ⊢
 rw [cnt_bump] at hq
 split at hq
 ·have := cnt_nn h k; omega
 ·exact hq)
theorem mus_new {l : LL} (h : Wl l) {k : Lk} (hk : k ∈ univ) (h0 : cnt k l = 0) : mus (bump k l) + 1 ≤ mus l := count_lt (fun q hq => by
 simp only [decide_eq_true_eq] at hq ⊢
 rw [cnt_bump] at hq
 split at hq
 ·have := cnt_nn h k; omega
 ·exact hq) hk (by simpa using h0) (by simp [cnt_bump, h0])
def gstep (rec' : Int → LL → LL) (c : Ins) (l : LL) : LL :=
 if c.op = 26 ∨ c.op = 27 then bump (c.op, c.a) l
 else if c.op = 23 ∨ c.op = 29 then (if cnt (c.op, c.a) l = 0 then rec' c.a (bump (c.op, c.a) l) else bump (c.op, c.a) l)
 else l
def gatC (rec' : Int → LL → LL) (cs : List Ins) (l : LL) : LL := cs.foldl (fun l c => gstep rec' c l) l
def gat (m : Md) : Nat → Int → LL → LL
 | 0, _, l => l
 | f + 1, n, l => gatC (gat m f) (unit m n).code l
structure Gd (d : Int) (l l' : LL) : Prop where
 wl : Wl l'
 mus : Vf.mus l' ≤ Vf.mus l
 tot : Vf.tot l' + 4000 * Vf.mus l' ≤ Vf.tot l + 4000 * Vf.mus l + d
theorem gstep_gd {m : Md} {u : Un} {c : Ins} {l : LL} {rec' : Int → LL → LL} (hmu : m.units.length ≤ 30) (hf : formE m u c = 0) (hl : Wl l) (hrec : ∀ n l, Wl l → Gd 4000 l (rec' n l)) : Gd 1 l (gstep rec' c l) := by
 have hb : Gd 1 l (bump (c.op, c.a) l) := ⟨hl.bump _, mus_bump hl _, by have := mus_bump hl (c.op, c.a); rw [tot_bump]; omega⟩
 unfold gstep
 split
 ·exact hb
 ·split
  ·rename_i h1 h2
   split
   ·rename_i h0
    have hr := hrec c.a _ hb.wl
    obtain ⟨_, _, hrg⟩ := formE_zero hf
    have hk : ∃ k : Nat, c.a = k ∧ k < 30 := by
     have : ∃ kd, is m kd c.a = true := by
      rcases h2 with h | h
      ·refine ⟨2, ?_⟩
       rw [← hrg]
       unfold ranged
       rw [if_neg (by omega), if_neg (by omega), if_neg (by omega), if_pos h]
      ·refine ⟨3, ?_⟩
       rw [← hrg]
       unfold ranged
       rw [if_neg (by omega), if_neg (by omega), if_neg (by omega), if_neg (by omega), if_pos h]
     obtain ⟨kd, this⟩ := this
     obtain ⟨x, h3, _, h4⟩ := is_some this
     have := (List.getElem?_eq_some_iff.1 h3).1
     exact ⟨c.a.toNat, by omega, by omega⟩
    obtain ⟨k, hka, hk30⟩ := hk
    have hn := mus_new hl (k := (c.op, c.a)) (by rw [hka]; exact univ_mem h2 hk30) h0
    have ht := hr.tot
    rw [tot_bump] at ht
    exact ⟨hr.wl, Nat.le_trans hr.mus hb.mus, by omega⟩
   ·exact hb
  ·exact ⟨hl, Nat.le_refl _, by omega⟩
theorem gatC_gd {m : Md} {u : Un} {rec' : Int → LL → LL} (hmu : m.units.length ≤ 30) (hrec : ∀ n l, Wl l → Gd 4000 l (rec' n l)) : ∀ (cs : List Ins) (l : LL), (∀ c ∈ cs, formE m u c = 0) → Wl l → Gd cs.length l (gatC rec' cs l)
 | [], l, _, hl => ⟨hl, Nat.le_refl _, by show tot l + 4000 * (mus l : Int) ≤ tot l + 4000 * (mus l : Int) + ((0 : Nat) : Int); omega⟩
 | c :: cs, l, hf, hl => by
  have h1 := gstep_gd hmu (hf c List.mem_cons_self) hl hrec
  have h2 := gatC_gd hmu hrec cs (gstep rec' c l) (fun c hc => hf c (List.mem_cons_of_mem _ hc)) h1.wl
  have e : gatC rec' (c :: cs) l = gatC rec' cs (gstep rec' c l) := rfl
  rw [e]
  have t1 := h1.tot
  have t2 := h2.tot
  exact ⟨h2.wl, Nat.le_trans h2.mus h1.mus, by simp only [List.length_cons]; omega⟩
theorem unit_in {m : Md} (hR : Rt m) (n : Int) : (unit m n).code.length ≤ 4000 ∧ ∀ c ∈ (unit m n).code, formE m (unit m n) c = 0 := by
 unfold unit
 cases h : m.units[n.toNat]? with
 | none => exact ⟨by simp, fun c hc => by cases hc⟩
 | some u => exact ⟨(sized_true (headE_zero (hR.heads _ u h).1).2.1).2.2.2.2.2, (hR.heads _ u h).2⟩
theorem gat_gd {m : Md} (hR : Rt m) : ∀ (f : Nat) (n : Int) (l : LL), Wl l → Gd 4000 l (gat m f n l)
 | 0, _, l, hl => ⟨hl, Nat.le_refl _, by show tot l + 4000 * (mus l : Int) ≤ tot l + 4000 * (mus l : Int) + 4000; omega⟩
 | f + 1, n, l, hl => by
  have hu := unit_in hR n
  have h := gatC_gd (u := unit m n) hR.units (gat_gd hR f) (unit m n).code l hu.2 hl
  exact ⟨h.wl, h.mus, by have := h.tot; show tot (gatC _ _ _) + 4000 * ((mus (gatC _ _ _) : Nat) : Int) ≤ _; omega⟩
end Vf
end Go.Proofs.YtekjhefmhhcboaaGreat
