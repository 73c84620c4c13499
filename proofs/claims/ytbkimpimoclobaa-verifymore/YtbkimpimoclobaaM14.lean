/- The walks of is, kindly, sized, typed, ranged, head, forms. -/
import Derived.Test.YtbkimpimoclobaaM13
namespace Go.Proofs.Ytbkimpimoclobaa
open Go.RowKit

abbrev mdV (m : Vf.Md) (ab au : Option Addr) (cb cu : Nat) : Value := .agg #[.slice ab m.boxes.length cb, .slice au m.units.length cu]
abbrev mdO (m : Vf.Md) (ab au : Option Addr) (cb cu : Nat) : Obj := .cells #[.slice ab m.boxes.length cb, .slice au m.units.length cu] 44 (0, 0)
abbrev utV (c : FC) : Value := .agg #[.slice c.ab c.m.boxes.length c.cb, .slice c.au c.m.units.length c.cu, .int .i64 c.u.kind, .int .i64 c.u.params, .slice c.al c.u.locals.length c.cl, .int .i64 c.u.result, .int .i64 c.u.takes, .slice c.ac c.u.code.length c.cc]
abbrev utO (c : FC) : Obj := .cells #[.slice c.ab c.m.boxes.length c.cb, .slice c.au c.m.units.length c.cu, .int .i64 c.u.kind, .int .i64 c.u.params, .slice c.al c.u.locals.length c.cl, .int .i64 c.u.result, .int .i64 c.u.takes, .slice c.ac c.u.code.length c.cc] 53 (0, 0)

theorem is_neg {m : Vf.Md} {k n : Int} (h : ¬ 0 ≤ n) : Vf.is m k n = false := by unfold Vf.is; simp [h]
theorem is_out {m : Vf.Md} {k n : Int} (h : (m.units.length : Int) ≤ n) : Vf.is m k n = false := by
  unfold Vf.is
  rw [List.getElem?_eq_none (by omega)]
  simp
theorem is_in {m : Vf.Md} {k : Int} {n : Nat} {u : Vf.Un} (h : m.units[n]? = some u) : Vf.is m k (n : Int) = (u.kind == k) := by
  unfold Vf.is
  simp [h]

set_option maxRecDepth 100000 in
set_option maxHeartbeats 1000000 in
theorem is_any (m : Vf.Md) (ab au : Option Addr) (cb cu B : Nat) (k n : Int) (w : World) (hm : Hid (ModIn B w m ab au)) (hB : B ≤ w.heap.size) (b : Bool) (hb : Hid (b = Vf.is m k n)) :
    Calls Try.prog 50 #[mdV m ab au cb cu, .int .i64 k, .int .i64 n] w fun e w' => e = .returned (.bool b) ∧ w' = w.alloc (mdO m ab au cb cu) := by
  by_cases h0 : 0 ≤ n
  · obtain ⟨j, rfl⟩ := nn_of h0
    by_cases h1 : j < m.units.length
    · obtain ⟨u, hu⟩ : ∃ u, m.units[j]? = some u := ⟨_, List.getElem?_eq_getElem h1⟩
      obtain ⟨bu, off, al, cl, ac, cc, ha, hbu, _, u0, _⟩ := hm.out.units j u hu
      have HR : Hid (b = (u.kind == k)) := by rw [hb.out, is_in hu]; rfl
      have hd : (0 : Int) ≤ (j : Int) := by omega
      have hd1 : (j : Int) < (m.units.length : Int) := by omega
      have hbl : bu < w.heap.size := by omega
      subst ha
      clear hu hb
      go_enter Try.func50, Try.ntmps50
      go_wp2
      go_ret
      rw [HR.out]
      exact ⟨rfl, rfl⟩
    · have HR : Hid (b = false) := by rw [hb.out, is_out (by omega)]; rfl
      have hd : (0 : Int) ≤ (j : Int) := by omega
      have hd1 : decide (j < m.units.length) = false := by simpa using h1
      go_enter Try.func50, Try.ntmps50
      go_wp2
      go_ret
      rw [HR.out]
      exact ⟨rfl, rfl⟩
  · have HR : Hid (b = false) := by rw [hb.out, is_neg h0]; rfl
    have hd : decide (0 ≤ n) = false := by simpa using h0
    go_enter Try.func50, Try.ntmps50
    go_wp2
    go_ret
    rw [HR.out]
    exact ⟨rfl, rfl⟩

theorem ut_cells {w : World} {N : Nat} {c : FC} (h : w.heap[N]? = some (utO c)) : w.cell? ⟨N, 0, none⟩ = some (.slice c.ab c.m.boxes.length c.cb) ∧ w.cell? ⟨N, 1, none⟩ = some (.slice c.au c.m.units.length c.cu) ∧ w.cell? ⟨N, 2, none⟩ = some (.int .i64 c.u.kind) ∧ w.cell? ⟨N, 3, none⟩ = some (.int .i64 c.u.params) ∧ w.cell? ⟨N, 4, none⟩ = some (.slice c.al c.u.locals.length c.cl) ∧ w.cell? ⟨N, 5, none⟩ = some (.int .i64 c.u.result) ∧ w.cell? ⟨N, 6, none⟩ = some (.int .i64 c.u.takes) ∧ w.cell? ⟨N, 7, none⟩ = some (.slice c.ac c.u.code.length c.cc) := by
  simp [World.cell?, h]

theorem bool_ret {b b' : Bool} (h : b' = b) : Ending.returned (Value.bool b') = Ending.returned (Value.bool b) := by rw [h]

set_option maxHeartbeats 1000000 in
theorem kindly_any (c : FC) (w : World) (b : Bool) (hb : Hid (b = Vf.kindly c.u)) :
    Calls Try.prog 38 #[utV c] w fun e w' => e = .returned (.bool b) ∧ w' = w.alloc (utO c) := by
  have HB : Hid (b = (c.u.kind == 2 || c.u.kind == 3 || c.u.kind == 4)) := hb.out
  clear hb
  cases e2 : (c.u.kind == 2)
  · cases e3 : (c.u.kind == 3)
    · have HT : Hid (b = (c.u.kind == 4)) := by rw [HB.out, e2, e3]; rfl
      go_enter Try.func38, Try.ntmps38
      go_wp2
      go_ret
      rw [HT.out]
      exact ⟨rfl, rfl⟩
    · have HT : Hid (b = true) := by rw [HB.out, e2, e3]; rfl
      go_enter Try.func38, Try.ntmps38
      go_wp2
      go_ret
      rw [HT.out]
      exact ⟨rfl, rfl⟩
  · have HT : Hid (b = true) := by rw [HB.out, e2]; rfl
    go_enter Try.func38, Try.ntmps38
    go_wp2
    go_ret
    rw [HT.out]
    exact ⟨rfl, rfl⟩

set_option maxRecDepth 100000 in
set_option maxHeartbeats 2000000 in
theorem sized_any (c : FC) (w : World) (b : Bool) (hb : Hid (b = Vf.sized c.u)) :
    Calls Try.prog 40 #[utV c] w fun e w' => e = .returned (.bool b) ∧ w' = w.alloc (utO c) := by
  go_enter Try.func40, Try.ntmps40
  go_wp2
  all_goals
    go_ret
    refine ⟨bool_ret ?_, rfl⟩
    rw [hb.out]
    unfold Vf.sized
    rw [Bool.eq_iff_iff]
    simp only [Bool.and_eq_true, decide_eq_true_eq]
    first | (simp [*] <;> omega) | (simp [*]; done) | (split <;> simp <;> omega)

/-- What a look at the locals has come to. -/
structure TyAt (c : FC) (w : World) (b : Bool) (k : Nat) (W : World) : Prop where
  le : k ≤ c.u.locals.length
  grown : w.grownBy W none
  rest : b = (c.u.locals.drop k).all (fun t => Vf.plain t || Vf.is c.m 3 (t - 10))
theorem grown0_new {w w' : World} (h : w.grownBy w' none) (o : Obj) : w.grownBy (w'.alloc o) none :=
  ⟨h.os, h.tape, h.output, by have := h.size; simp; omega, fun k hk hne => (Below.heap_alloc _ _ _ (by have := h.size; omega)).trans (h.block k hk hne)⟩
theorem kept0 {w w' : World} {b : Nat} (hg : w.grownBy w' none) (hb : b < w.heap.size) : w'.heap[b]? = w.heap[b]? := hg.block b hb (by simp)
theorem low0 {B : Nat} {w w' : World} (h : w.grownBy w' none) (hB : B ≤ w.heap.size) : Low B w w' := fun k hk => h.block k (by omega) (by simp)


theorem grown0_tr' {a b c : World} (h : a.grownBy b none) (k : b.grownBy c none) : a.grownBy c none := ⟨k.os.trans h.os, k.tape.trans h.tape, k.output.trans h.output, Nat.le_trans h.size k.size, fun x hx hne => (k.block x (by have := h.size; omega) hne).trans (h.block x hx hne)⟩
theorem is_wrap {m : Vf.Md} (hmu : m.units.length ≤ 30) {t : Int} (h : I64 t) : Vf.is m 3 (t - 10) = Vf.is m 3 (IntKind.i64.wrap (t - 10)) := by
  by_cases h0 : -9223372036854775808 ≤ t - 10
  · have e : IntKind.i64.wrap (t - 10) = t - 10 := by
      have := h.2
      simp [IntKind.wrap, IntKind.bits, IntKind.signed]
      omega
    rw [e]
  · have e : (m.units.length : Int) ≤ IntKind.i64.wrap (t - 10) := by
      have := h.1
      simp [IntKind.wrap, IntKind.bits, IntKind.signed]
      omega
    rw [is_out e, is_neg (by omega)]

set_option maxRecDepth 100000 in
set_option maxHeartbeats 4000000 in
theorem typed_any (c : FC) (B : Nat) (w : World) (hmd : Hid (ModIn B w c.m c.ab c.au)) (hun : Hid (UnIn B w c.u c.al c.ac c.cl c.cc)) (hB : B ≤ w.heap.size) (hmu : c.m.units.length ≤ 30) (b : Bool) (hb : Hid (b = Vf.typed c.m c.u)) :
    Calls Try.prog 41 #[utV c] w fun e w' => e = .returned (.bool b) ∧ w.grownBy w' none := by
  obtain ⟨y0, y1, y2, y3, y4, y5, y6, y7⟩ := ut_cells (heap_alloc_new w (utO c))
  have hlo : c.u.locals.length ≤ 9223372036854775807 := hun.out.few.1
  have HB : Hid (b = (((c.u.kind == 4 || Vf.plain c.u.result) && (c.u.kind != 3 || Vf.plain c.u.takes)) && c.u.locals.all (fun t => Vf.plain t || Vf.is c.m 3 (t - 10)))) := hb.out
  obtain ⟨p1, hp1⟩ : ∃ p, p = Vf.plain c.u.result := ⟨_, rfl⟩
  obtain ⟨p2, hp2⟩ : ∃ p, p = Vf.plain c.u.takes := ⟨_, rfl⟩
  rw [← hp1, ← hp2] at HB
  have HP1 := hide hp1
  have HP2 := hide hp2
  clear hb hp1 hp2
  cases e4 : (c.u.kind == 4) with
  | true =>
    have e4' : (c.u.kind != 4) = false := by simp at e4; simp [e4]
    have e3 : (c.u.kind == 3) = false := by simp at e4; simp [e4]
    have e3' : (c.u.kind != 3) = true := by simp at e4; simp [e4]
    have HT : Hid (b = (c.u.locals.drop 0).all (fun t => Vf.plain t || Vf.is c.m 3 (t - 10))) := by unfold Hid; rw [HB.out, e4, e3']; simp
    go_enter Try.func41, Try.ntmps41
    go_wp2_with fail
    go_loopw [33] (fun v wr => ∃ k : Nat, v = .int .i64 k ∧ TyAt c (w.alloc (utO c)) b k wr) (fun v _ => c.u.locals.length - (intOf v).toNat)
    case atStart => exact ⟨0, rfl, Nat.zero_le _, World.grownBy.refl _ _, HT.out⟩
    case round =>
      obtain ⟨k, rfl, hA⟩ := hrel
      have HA := hide hA
      have hk := hA.le
      clear hA
      by_cases hlt : k < c.u.locals.length
      · obtain ⟨t, ht⟩ : ∃ t, c.u.locals[k]? = some t := ⟨_, List.getElem?_eq_getElem hlt⟩
        have hlow : Low B w wr := fun j hj => (kept0 HA.out.grown (by simp; omega)).trans (Below.heap_alloc _ _ _ (by omega))
        obtain ⟨h64, bl, ol, hal, hbl, ct⟩ := (hun.out.locals.low hlow) k t ht
        have hub : wr.heap[w.heap.size]? = some (utO c) := (kept0 HA.out.grown (by simp)).trans (heap_alloc_new w _)
        obtain ⟨y0, y1, _⟩ := ut_cells hub
        have HMr : Hid (ModIn B wr c.m c.ab c.au) := hmd.out.low hlow
        have hwr : w.heap.size < wr.heap.size := lt_of_block hub
        have HN : Hid (b = ((Vf.plain t || Vf.is c.m 3 (t - 10)) && (c.u.locals.drop (k + 1)).all (fun t => Vf.plain t || Vf.is c.m 3 (t - 10)))) := by
          unfold Hid
          obtain ⟨hk', hte⟩ := List.getElem?_eq_some_iff.1 ht
          rw [HA.out.rest, List.drop_eq_getElem_cons hk', hte, List.all_cons]
        obtain ⟨p, hp⟩ : ∃ p, p = Vf.plain t := ⟨_, rfl⟩
        rw [← hp] at HN
        have HPP := hide hp
        have H64 := hide h64
        have HAL := hide hal
        clear ht hub hlow h64 hp
        rw [HAL.out]
        cases p with
        | true =>
          have HN2 : Hid (b = (c.u.locals.drop (k + 1)).all (fun t => Vf.plain t || Vf.is c.m 3 (t - 10))) := by rw [HN.out]; rfl
          go_wp2_with fail
          refine (plain_any t _ true HPP).mono ?_
          rintro e w2 ⟨rfl, rfl⟩
          go_wp2
          go_roundw
          case rel => exact ⟨k + 1, by go_num, hlt, HA.out.grown, HN2.out⟩
          case measure => simp [intOf]; omega
        | false =>
          obtain ⟨q, hq⟩ : ∃ q, q = Vf.is c.m 3 (t - 10) := ⟨_, rfl⟩
          have HN2 : Hid (b = (q && (c.u.locals.drop (k + 1)).all (fun t => Vf.plain t || Vf.is c.m 3 (t - 10)))) := by rw [HN.out, hq]; rfl
          obtain ⟨d, hd⟩ : ∃ d : Int, d = IntKind.i64.wrap (t - 10) := ⟨_, rfl⟩
          have HQ : Hid (q = Vf.is c.m 3 d) := by
            unfold Hid
            rw [hq, hd]
            exact is_wrap hmu H64.out
          have hd' := hd.symm
          clear hd hq
          go_wp2_with fail
          refine (plain_any t _ false HPP).mono ?_
          rintro e w2 ⟨rfl, rfl⟩
          go_wp2_with fail
          refine (is_any c.m c.ab c.au c.cb c.cu B 3 d _ HMr (by omega) q HQ).mono ?_
          rintro e w3 ⟨rfl, rfl⟩
          cases q with
          | true =>
            have HN3 : Hid (b = (c.u.locals.drop (k + 1)).all (fun t => Vf.plain t || Vf.is c.m 3 (t - 10))) := by rw [HN2.out]; rfl
            go_wp2
            go_roundw
            case rel => exact ⟨k + 1, by go_num, hlt, grown0_new HA.out.grown _, HN3.out⟩
            case measure => simp [intOf]; omega
          | false =>
            have HN3 : Hid (b = false) := by rw [HN2.out]; rfl
            go_wp2
            go_ret
            rw [HN3.out]
            exact ⟨rfl, grown0_new (grown0_tr' (grown0_new (World.grownBy.refl _ _) _) HA.out.grown) _⟩
      · have HN : Hid (b = true) := by unfold Hid; rw [HA.out.rest, List.drop_eq_nil_of_le (by omega)]; rfl
        go_wp2
        go_ret
        rw [HN.out]
        exact ⟨rfl, grown0_tr' (grown0_new (World.grownBy.refl _ _) _) HA.out.grown⟩
  | false =>
    have e4' : (c.u.kind != 4) = true := by simp at e4; simp [e4]
    cases p1 with
    | false =>
      have HN : Hid (b = false) := by rw [HB.out, e4]; rfl
      go_enter Try.func41, Try.ntmps41
      go_wp2_with fail
      refine (plain_any c.u.result _ false HP1).mono ?_
      rintro e w2 ⟨rfl, rfl⟩
      go_wp2
      go_ret
      rw [HN.out]
      exact ⟨rfl, grown0_new (World.grownBy.refl _ _) _⟩
    | true =>
      cases e3 : (c.u.kind == 3) with
      | false =>
        have e3' : (c.u.kind != 3) = true := by simp at e3; simp [e3]
        have HT : Hid (b = (c.u.locals.drop 0).all (fun t => Vf.plain t || Vf.is c.m 3 (t - 10))) := by unfold Hid; rw [HB.out, e4, e3']; simp
        go_enter Try.func41, Try.ntmps41
        go_wp2_with fail
        refine (plain_any c.u.result _ true HP1).mono ?_
        rintro e w2 ⟨rfl, rfl⟩
        go_wp2_with fail
        go_loopw [33] (fun v wr => ∃ k : Nat, v = .int .i64 k ∧ TyAt c (w.alloc (utO c)) b k wr) (fun v _ => c.u.locals.length - (intOf v).toNat)
        case atStart => exact ⟨0, rfl, Nat.zero_le _, World.grownBy.refl _ _, HT.out⟩
        case round =>
          obtain ⟨k, rfl, hA⟩ := hrel
          have HA := hide hA
          have hk := hA.le
          clear hA
          by_cases hlt : k < c.u.locals.length
          · obtain ⟨t, ht⟩ : ∃ t, c.u.locals[k]? = some t := ⟨_, List.getElem?_eq_getElem hlt⟩
            have hlow : Low B w wr := fun j hj => (kept0 HA.out.grown (by simp; omega)).trans (Below.heap_alloc _ _ _ (by omega))
            obtain ⟨h64, bl, ol, hal, hbl, ct⟩ := (hun.out.locals.low hlow) k t ht
            have hub : wr.heap[w.heap.size]? = some (utO c) := (kept0 HA.out.grown (by simp)).trans (heap_alloc_new w _)
            obtain ⟨y0, y1, _⟩ := ut_cells hub
            have HMr : Hid (ModIn B wr c.m c.ab c.au) := hmd.out.low hlow
            have hwr : w.heap.size < wr.heap.size := lt_of_block hub
            have HN : Hid (b = ((Vf.plain t || Vf.is c.m 3 (t - 10)) && (c.u.locals.drop (k + 1)).all (fun t => Vf.plain t || Vf.is c.m 3 (t - 10)))) := by
              unfold Hid
              obtain ⟨hk', hte⟩ := List.getElem?_eq_some_iff.1 ht
              rw [HA.out.rest, List.drop_eq_getElem_cons hk', hte, List.all_cons]
            obtain ⟨p, hp⟩ : ∃ p, p = Vf.plain t := ⟨_, rfl⟩
            rw [← hp] at HN
            have HPP := hide hp
            have H64 := hide h64
            have HAL := hide hal
            clear ht hub hlow h64 hp
            rw [HAL.out]
            cases p with
            | true =>
              have HN2 : Hid (b = (c.u.locals.drop (k + 1)).all (fun t => Vf.plain t || Vf.is c.m 3 (t - 10))) := by rw [HN.out]; rfl
              go_wp2_with fail
              refine (plain_any t _ true HPP).mono ?_
              rintro e w2 ⟨rfl, rfl⟩
              go_wp2
              go_roundw
              case rel => exact ⟨k + 1, by go_num, hlt, HA.out.grown, HN2.out⟩
              case measure => simp [intOf]; omega
            | false =>
              obtain ⟨q, hq⟩ : ∃ q, q = Vf.is c.m 3 (t - 10) := ⟨_, rfl⟩
              have HN2 : Hid (b = (q && (c.u.locals.drop (k + 1)).all (fun t => Vf.plain t || Vf.is c.m 3 (t - 10)))) := by rw [HN.out, hq]; rfl
              obtain ⟨d, hd⟩ : ∃ d : Int, d = IntKind.i64.wrap (t - 10) := ⟨_, rfl⟩
              have HQ : Hid (q = Vf.is c.m 3 d) := by
                unfold Hid
                rw [hq, hd]
                exact is_wrap hmu H64.out
              have hd' := hd.symm
              clear hd hq
              go_wp2_with fail
              refine (plain_any t _ false HPP).mono ?_
              rintro e w2 ⟨rfl, rfl⟩
              go_wp2_with fail
              refine (is_any c.m c.ab c.au c.cb c.cu B 3 d _ HMr (by omega) q HQ).mono ?_
              rintro e w3 ⟨rfl, rfl⟩
              cases q with
              | true =>
                have HN3 : Hid (b = (c.u.locals.drop (k + 1)).all (fun t => Vf.plain t || Vf.is c.m 3 (t - 10))) := by rw [HN2.out]; rfl
                go_wp2
                go_roundw
                case rel => exact ⟨k + 1, by go_num, hlt, grown0_new HA.out.grown _, HN3.out⟩
                case measure => simp [intOf]; omega
              | false =>
                have HN3 : Hid (b = false) := by rw [HN2.out]; rfl
                go_wp2
                go_ret
                rw [HN3.out]
                exact ⟨rfl, grown0_new (grown0_tr' (grown0_new (World.grownBy.refl _ _) _) HA.out.grown) _⟩
          · have HN : Hid (b = true) := by unfold Hid; rw [HA.out.rest, List.drop_eq_nil_of_le (by omega)]; rfl
            go_wp2
            go_ret
            rw [HN.out]
            exact ⟨rfl, grown0_tr' (grown0_new (World.grownBy.refl _ _) _) HA.out.grown⟩
      | true =>
        have e3' : (c.u.kind != 3) = false := by simp at e3; simp [e3]
        cases p2 with
        | false =>
          have HN : Hid (b = false) := by rw [HB.out, e4, e3']; rfl
          go_enter Try.func41, Try.ntmps41
          go_wp2_with fail
          refine (plain_any c.u.result _ true HP1).mono ?_
          rintro e w2 ⟨rfl, rfl⟩
          go_wp2_with fail
          refine (plain_any c.u.takes _ false HP2).mono ?_
          rintro e w3 ⟨rfl, rfl⟩
          go_wp2
          go_ret
          rw [HN.out]
          exact ⟨rfl, grown0_new (World.grownBy.refl _ _) _⟩
        | true =>
          have HT : Hid (b = (c.u.locals.drop 0).all (fun t => Vf.plain t || Vf.is c.m 3 (t - 10))) := by unfold Hid; rw [HB.out, e4, e3']; simp
          go_enter Try.func41, Try.ntmps41
          go_wp2_with fail
          refine (plain_any c.u.result _ true HP1).mono ?_
          rintro e w2 ⟨rfl, rfl⟩
          go_wp2_with fail
          refine (plain_any c.u.takes _ true HP2).mono ?_
          rintro e w3 ⟨rfl, rfl⟩
          go_wp2_with fail
          go_loopw [33] (fun v wr => ∃ k : Nat, v = .int .i64 k ∧ TyAt c (w.alloc (utO c)) b k wr) (fun v _ => c.u.locals.length - (intOf v).toNat)
          case atStart => exact ⟨0, rfl, Nat.zero_le _, World.grownBy.refl _ _, HT.out⟩
          case round =>
            obtain ⟨k, rfl, hA⟩ := hrel
            have HA := hide hA
            have hk := hA.le
            clear hA
            by_cases hlt : k < c.u.locals.length
            · obtain ⟨t, ht⟩ : ∃ t, c.u.locals[k]? = some t := ⟨_, List.getElem?_eq_getElem hlt⟩
              have hlow : Low B w wr := fun j hj => (kept0 HA.out.grown (by simp; omega)).trans (Below.heap_alloc _ _ _ (by omega))
              obtain ⟨h64, bl, ol, hal, hbl, ct⟩ := (hun.out.locals.low hlow) k t ht
              have hub : wr.heap[w.heap.size]? = some (utO c) := (kept0 HA.out.grown (by simp)).trans (heap_alloc_new w _)
              obtain ⟨y0, y1, _⟩ := ut_cells hub
              have HMr : Hid (ModIn B wr c.m c.ab c.au) := hmd.out.low hlow
              have hwr : w.heap.size < wr.heap.size := lt_of_block hub
              have HN : Hid (b = ((Vf.plain t || Vf.is c.m 3 (t - 10)) && (c.u.locals.drop (k + 1)).all (fun t => Vf.plain t || Vf.is c.m 3 (t - 10)))) := by
                unfold Hid
                obtain ⟨hk', hte⟩ := List.getElem?_eq_some_iff.1 ht
                rw [HA.out.rest, List.drop_eq_getElem_cons hk', hte, List.all_cons]
              obtain ⟨p, hp⟩ : ∃ p, p = Vf.plain t := ⟨_, rfl⟩
              rw [← hp] at HN
              have HPP := hide hp
              have H64 := hide h64
              have HAL := hide hal
              clear ht hub hlow h64 hp
              rw [HAL.out]
              cases p with
              | true =>
                have HN2 : Hid (b = (c.u.locals.drop (k + 1)).all (fun t => Vf.plain t || Vf.is c.m 3 (t - 10))) := by rw [HN.out]; rfl
                go_wp2_with fail
                refine (plain_any t _ true HPP).mono ?_
                rintro e w2 ⟨rfl, rfl⟩
                go_wp2
                go_roundw
                case rel => exact ⟨k + 1, by go_num, hlt, HA.out.grown, HN2.out⟩
                case measure => simp [intOf]; omega
              | false =>
                obtain ⟨q, hq⟩ : ∃ q, q = Vf.is c.m 3 (t - 10) := ⟨_, rfl⟩
                have HN2 : Hid (b = (q && (c.u.locals.drop (k + 1)).all (fun t => Vf.plain t || Vf.is c.m 3 (t - 10)))) := by rw [HN.out, hq]; rfl
                obtain ⟨d, hd⟩ : ∃ d : Int, d = IntKind.i64.wrap (t - 10) := ⟨_, rfl⟩
                have HQ : Hid (q = Vf.is c.m 3 d) := by
                  unfold Hid
                  rw [hq, hd]
                  exact is_wrap hmu H64.out
                have hd' := hd.symm
                clear hd hq
                go_wp2_with fail
                refine (plain_any t _ false HPP).mono ?_
                rintro e w2 ⟨rfl, rfl⟩
                go_wp2_with fail
                refine (is_any c.m c.ab c.au c.cb c.cu B 3 d _ HMr (by omega) q HQ).mono ?_
                rintro e w3 ⟨rfl, rfl⟩
                cases q with
                | true =>
                  have HN3 : Hid (b = (c.u.locals.drop (k + 1)).all (fun t => Vf.plain t || Vf.is c.m 3 (t - 10))) := by rw [HN2.out]; rfl
                  go_wp2
                  go_roundw
                  case rel => exact ⟨k + 1, by go_num, hlt, grown0_new HA.out.grown _, HN3.out⟩
                  case measure => simp [intOf]; omega
                | false =>
                  have HN3 : Hid (b = false) := by rw [HN2.out]; rfl
                  go_wp2
                  go_ret
                  rw [HN3.out]
                  exact ⟨rfl, grown0_new (grown0_tr' (grown0_new (World.grownBy.refl _ _) _) HA.out.grown) _⟩
            · have HN : Hid (b = true) := by unfold Hid; rw [HA.out.rest, List.drop_eq_nil_of_le (by omega)]; rfl
              go_wp2
              go_ret
              rw [HN.out]
              exact ⟨rfl, grown0_tr' (grown0_new (World.grownBy.refl _ _) _) HA.out.grown⟩

end Go.Proofs.Ytbkimpimoclobaa

