/- The walk of Comes, whatever is told. -/
import Derived.Test.YtbkimpimoclobaaM24
import Derived.Test.YtbkimpimoclobaaM32
import Derived.Deep.QuietTactic
import Derived.BigQuiet
namespace Go.Proofs.Ytbkimpimoclobaa
open Go.RowKit


set_option maxRecDepth 100000 in
set_option maxHeartbeats 4000000 in
theorem comes_any (m : Vf.Md) (ab au : Option Addr) (cb cu B n M : Nat) (g : FuncId) (caps : Array Value) (I : List Lk → World → Prop) (w : World) (hmd : Hid (ModIn B w m ab au)) (hB : B ≤ w.heap.size) (hR : Hid (Rt m)) (hn : n < m.units.length) (hBM : B ≤ M) (hM : M < w.heap.size)
    (hcf : ∀ (vs : Array Value) (w : World), (callFunc g vs).run Try.prog w = .ok (.enter g vs) w) (hT : Hid (Teller g caps w.heap.size M I)) (hI : Hid (I [] w)) :
    Calls Try.prog 27 #[mdV m ab au cb cu, .int .i64 (n : Int), .func (.func g) #[] caps] w fun e w' => e = .returned (.tuple #[]) ∧ w.grownBy w' (some M) ∧ ∃ ts, I ts w' ∧ ∀ q, q ∈ ts ↔ (q.1 = 26 ∨ q.1 = 27) ∧ Vf.comes m n q = true := by
  have hmm : ∀ w : World, (Instr.makeMap 94 Option.none).run Try.prog w = .ok (.map (some w.heap.size)) (w.alloc (.map #[] 0)) := fun _ => rfl
  have hmu : m.units.length ≤ 30 := hR.out.units
  obtain ⟨t0, t1, t2, _⟩ := three_new w (maO m ab au cb cu) (.cells #[.int .i64 (n : Int)] 3 (0, 0)) (.map #[] 0)
  have hM0 := MtIn.new ((w.alloc (maO m ab au cb cu)).alloc (.cells #[.int .i64 (n : Int)] 3 (0, 0)))
  rw [World.size_alloc, World.size_alloc] at hM0
  obtain ⟨w1, hup, hM1, hg1⟩ := run_meet hM0 n 1
  have k1 : ∀ q, q < w.heap.size + 1 + 1 → w1.heap[q]? = (((w.alloc (maO m ab au cb cu)).alloc (.cells #[.int .i64 (n : Int)] 3 (0, 0))).alloc (.map #[] 0)).heap[q]? := fun q hq => hg1.block q (by simp; omega) (by simp; omega)
  have HST : Hid (ComAt m ab au cb cu n M w I 0 0 (.slice (some ⟨w.heap.size + 1, 0, none⟩) 1 1) [n] [] (fun a => if a = (n : Int) then 1 else 0) w1) :=
    ⟨Vf.Wkr.start hn, .inr ⟨w.heap.size + 1, 0, 1, [.int .i64 (n : Int)], rfl, by omega, (k1 _ (by omega)).trans t2, by simp, by simp, fun i x hx => by
      cases i with
      | zero => simp at hx; subst hx; rfl
      | succ i => simp at hx⟩, hM1, hT.out.keep _ _ _ hI.out (fun q hq => (k1 q (by omega)).trans (t0.block q hq (by simp))), (k1 _ (by omega)).trans t1, grownT (grownT0 (grown_refl _ _) t0) hg1 (.inl (by omega))⟩
  clear t0 t1 t2 hM0 hM1 hg1 k1
  go_enter Try.func27, Try.ntmps27
  go_wp2
  go_loopw [6, 8] (fun v i wr => ∃ (k : Nat) (R : List Nat) (ts : List Lk) (f : Int → Int), i = .int .i64 k ∧ ComAt m ab au cb cu n M w I k 0 v R ts f wr) (fun _ i _ => 31 - (intOf i).toNat)
  case atStart => exact ⟨0, [n], [], _, rfl, HST.out⟩
  case round =>
    obtain ⟨k, R, ts, f, rfl, hA⟩ := hrel
    clear HST hup
    have HA := hide hA
    obtain ⟨a, c, rfl⟩ := hA.row.form
    have hrl := hA.wk.len
    have hr30 : R.length ≤ 30 := by omega
    clear hA
    by_cases hlt : k < R.length
    · obtain ⟨x, hx⟩ : ∃ x, R[k]? = some x := ⟨_, List.getElem?_eq_getElem hlt⟩
      have hxu : x < m.units.length := HA.out.wk.lt x (List.mem_of_getElem? hx)
      obtain ⟨u, hu⟩ : ∃ u, m.units[x]? = some u := ⟨_, List.getElem?_eq_getElem hxu⟩
      have hMr : ModIn B wr m ab au := hmd.out.low (lowM HA.out.grown hBM hB)
      obtain ⟨b, off, al, cl, ac, cc, ha, hb, hui, u0, u1, u2, u3, u4, u5⟩ := hMr.units x u hu
      have HUI : Hid (UnIn B w u al ac cl cc) := hui.low (fun q hq => (lowM HA.out.grown hBM hB q hq).symm)
      obtain ⟨g', off2, cap', hv, hgl, hc⟩ := HA.out.row.at hx
      cases hv
      obtain ⟨x0, x1⟩ := ma_cells HA.out.md
      have HUN : Hid (Vf.unit m (x : Int) = u) := unit_of hu
      have hc4 : u.code.length ≤ 4000 := (sized_true (headE_zero (hR.out.heads x u hu).1).2.1).2.2.2.2.2
      have HFO : Hid (Vf.Forms m u) := (hR.out.heads x u hu).2
      have HX := hide hx
      have k1 : (k : Int) < (R.length : Int) := by omega
      have x2 : (x : Int) < (m.units.length : Int) := by omega
      subst ha
      clear hx hu hMr hui
      have hbw : b < wr.heap.size := by have := HA.out.grown.size; omega
      go_wp2_with fail
      go_quiet (fail)
      clear u0 u1 u2 u3 u4 u5 x0 x1 hc
      go_wp2
      go_loopw [6, 32] (fun v i wi => ∃ (j : Nat) (R2 : List Nat) (ts2 : List Lk) (f2 : Int → Int), i = .int .i64 j ∧ j ≤ u.code.length ∧ R2[k]? = some x ∧ ComAt m ab (some ⟨b, off, none⟩) cb cu n M w I k j v R2 ts2 f2 wi) (fun _ i _ => u.code.length - (intOf i).toNat)
      case atStart => exact ⟨0, R, ts, f, rfl, Nat.zero_le _, HX.out, ⟨HA.out.wk, HA.out.row, HA.out.met, hT.out.keep _ _ _ HA.out.tell (fun _ _ => rfl), HA.out.md, ⟨HA.out.grown.os, HA.out.grown.tape, HA.out.grown.output, HA.out.grown.size, HA.out.grown.block⟩⟩⟩
      case round =>
        clear HA HX
        obtain ⟨j, R2, ts2, f2, rfl, hj, hx2, hA2⟩ := hrel
        have HA2 := hide hA2
        have HX2 := hide hx2
        obtain ⟨a2, c2, rfl⟩ := hA2.row.form
        have hrl2 : R2.length ≤ 30 := by have := hA2.wk.len; omega
        have hgz := hA2.grown.size
        have hk30 : k < 30 := by have := (List.getElem?_eq_some_iff.1 hx2).1; omega
        have hts : ts2.length ≤ 130000 := by have := hA2.wk.few; omega
        clear hA2 hx2
        by_cases hjl : j < u.code.length
        · obtain ⟨y, hy⟩ : ∃ y, u.code[j]? = some y := ⟨_, List.getElem?_eq_getElem hjl⟩
          have HY : Hid ((Vf.unit m (x : Int)).code[j]? = some y) := by rw [HUN.out]; exact hy
          obtain ⟨_, _, _, bc, oc, hac, hbc, i0, i1, i2⟩ := (HUI.out.low (lowM HA2.out.grown hBM hB)).code j y hy
          have HFX : Hid (Vf.formE m u y = 0) := HFO.out y (List.mem_of_getElem? hy)
          have H2 : Hid (wr.grownBy (wr.alloc (insO y.op y.a y.n)) none) := grown0_new (World.grownBy.refl _ _) _
          have HI2 : Hid (I ts2 (wr.alloc (insO y.op y.a y.n))) := hT.out.keep _ _ _ HA2.out.tell (fun q hq => Below.heap_alloc _ _ _ (by omega))
          have HM2 : Hid (MtIn (wr.alloc (insO y.op y.a y.n)) (w.heap.size + 1 + 1) f2) := HA2.out.met.keep (Below.heap_alloc _ _ _ HA2.out.met.lt)
          have hj1 : (j : Int) < (u.code.length : Int) := by omega
          subst hac
          clear hy
          by_cases h26 : Vf.Tks y
          · have HO := hide h26
            rcases h26 with h | h
            · have e26 : (y.op == 26) = true := by simpa using h
              clear h
              go_wp2_with fail
              refine (hT.out.call ts2 y.op y.a _ HI2.out hts).mono ?_
              rintro e w3 ⟨rfl, hI3, hg3⟩
              have HN : Hid (ComAt m ab (some ⟨b, off, none⟩) cb cu n M w I k (j + 1) (.slice a2 R2.length c2) R2 (ts2 ++ [(y.op, y.a)]) f2 w3) :=
                HA2.out.step (H2.out) hg3 (.inl rfl) hM (HA2.out.wk.talk HX2.out HY.out HO.out) (HM2.out.keep (hg3.block _ (HM2.out.lt) (by simp; omega))) hI3
              clear hI3 hg3
              go_wp2
              go_roundw
              case rel => exact ⟨j + 1, R2, _, f2, by go_num, hjl, HX2.out, HN.out⟩
              case measure => simp [intOf]; omega
            · have e26 : (y.op == 26) = false := by simp; omega
              have e27 : (y.op == 27) = true := by simpa using h
              clear h
              go_wp2_with fail
              refine (hT.out.call ts2 y.op y.a _ HI2.out hts).mono ?_
              rintro e w3 ⟨rfl, hI3, hg3⟩
              have HN : Hid (ComAt m ab (some ⟨b, off, none⟩) cb cu n M w I k (j + 1) (.slice a2 R2.length c2) R2 (ts2 ++ [(y.op, y.a)]) f2 w3) :=
                HA2.out.step (H2.out) hg3 (.inl rfl) hM (HA2.out.wk.talk HX2.out HY.out HO.out) (HM2.out.keep (hg3.block _ (HM2.out.lt) (by simp; omega))) hI3
              clear hI3 hg3
              go_wp2
              go_roundw
              case rel => exact ⟨j + 1, R2, _, f2, by go_num, hjl, HX2.out, HN.out⟩
              case measure => simp [intOf]; omega
          · have e26 : (y.op == 26) = false := by unfold Vf.Tks at h26; simp; omega
            have e27 : (y.op == 27) = false := by unfold Vf.Tks at h26; simp; omega
            by_cases h23 : Vf.Cls y
            · have HO := hide h23
              obtain ⟨ka, hka, hku⟩ : ∃ ka : Nat, y.a = ka ∧ ka < m.units.length := by
                obtain ⟨kd, _, hi⟩ := Vf.call_is HFX.out h23
                obtain ⟨z, h3, _, h4⟩ := is_some hi
                exact ⟨y.a.toNat, by omega, (List.getElem?_eq_some_iff.1 h3).1⟩
              have HKA := hide hka
              have hl2 := run_met HM2.out ka
              obtain ⟨w3, hup, hM3, hg3⟩ := run_meet HM2.out ka (f2 ka + 1)
              have hl3 := run_met hM3 ka
              simp only [if_true] at hl3
              have hf0 := HA2.out.wk.met ka
              obtain ⟨n0, hn0⟩ : ∃ n0, n0 = f2 ka := ⟨_, rfl⟩
              have HN0 := hide hn0
              rw [← hn0] at hl2 hup hM3 hl3 hf0
              have f0 : 0 ≤ n0 := hf0.1
              have f1 : n0 ≤ 200000 := by have := hf0.2.1; omega
              have hi3 : w3.heap[wr.heap.size]? = some (insO y.op y.a y.n) := (hg3.block _ (by simp) (by have := HA2.out.met.lt; simp; omega)).trans (heap_alloc_new _ _)
              obtain ⟨s0, s1, s2⟩ := ins_cells hi3
              rw [← HKA.out] at hl2 hup
              rw [HKA.out] at s1
              have hwz3 : wr.heap.size < w3.heap.size := lt_of_block hi3
              clear hka hf0 h26 hi3 hn0
              rcases h23 with h | h
              · have e23 : (y.op == 23) = true := by simpa using h
                clear h
                by_cases hin : ka ∈ R2
                · have HWN : Hid (ComAt m ab (some ⟨b, off, none⟩) cb cu n M w I k (j + 1) (.slice a2 R2.length c2) R2 ts2 (fun q => if q = (ka : Int) then n0 + 1 else f2 q) w3) :=
                    HA2.out.step H2.out hg3 (.inr rfl) hM (by rw [HN0.out]; exact HA2.out.wk.old HX2.out HY.out HO.out HKA.out hin) hM3 (hT.out.keep _ _ _ HI2.out (fun q hq => hg3.block q (by have := HA2.out.grown.size; simp; omega) (by simp; omega)))
                  have e1 : (n0 + 1 == 1) = false := by have := ((HA2.out.wk.met ka).2.2).2 hin; have h0 := HN0.out; simp; omega
                  clear hM3 hg3 hin
                  go_wp2
                  go_roundw
                  case rel => exact ⟨j + 1, R2, ts2, _, by go_num, hjl, HX2.out, HWN.out⟩
                  case measure => simp [intOf]; omega
                · have e1 : (n0 + 1 == 1) = true := by have := HA2.out.wk.met ka; have h0 : ¬ 1 ≤ f2 ka := fun h => hin (this.2.2.1 h); have h1 := HN0.out; simp; omega
                  have HIN := hide hin
                  have HM3 := hide hM3
                  have HG3 := hide hg3
                  have HQ3 : Hid (QR w3 w.heap.size (.slice a2 R2.length c2) R2) := (HA2.out.row.alloc _).keep fun q hq => hg3.block q ((HA2.out.row.alloc _).lt q hq).2 (by simp only [ne_eq, Option.some.injEq]; intro e; obtain ⟨o, ho, hno⟩ := (HM2.out).obj; exact (HA2.out.row.alloc _).ty ho hno (e ▸ hq))
                  have hz3 := hg3.size
                  clear hM3 hg3 hin
                  go_wp2_with (at_builtin; refine wpList_append_q rfl _ _ rfl w.heap.size _ R2 ka rfl (HQ3.out.alloc _) ⟨w3.heap.size, 0, none⟩ rfl (one_news _ _ _) (by omega) (by have := HA2.out.grown.size; simp at hz3 ⊢; omega) ?_; intro v' w4 hq4 hg4; have HQ4 := hide hq4; have HG4 := hide hg4; clear hq4 hg4)
                  have HWN : Hid (ComAt m ab (some ⟨b, off, none⟩) cb cu n M w I k (j + 1) v' (R2 ++ [ka]) ts2 (fun q => if q = (ka : Int) then n0 + 1 else f2 q) w4) :=
                    HA2.out.more hT.out (grownT0 (grown_tr (grownM_of0 H2.out) HG3.out) (grown0_new (World.grownBy.refl _ _) _)) HG4.out (HQ3.out.alloc _) (by rw [HN0.out]; exact HA2.out.wk.new HX2.out HY.out HO.out HKA.out hku HIN.out) (HM3.out.keep (Below.heap_alloc _ _ _ HM3.out.lt)) HQ4.out
                  have HX3 : Hid ((R2 ++ [ka])[k]? = some x) := by unfold Hid; rw [List.getElem?_append_left (List.getElem?_eq_some_iff.1 HX2.out).1]; exact HX2.out
                  go_roundw
                  case rel => exact ⟨j + 1, R2 ++ [ka], ts2, _, by go_num, hjl, HX3.out, HWN.out⟩
                  case measure => simp [intOf]; omega
              · have e23 : (y.op == 23) = false := by simp; omega
                have e29 : (y.op == 29) = true := by simpa using h
                clear h
                by_cases hin : ka ∈ R2
                · have HWN : Hid (ComAt m ab (some ⟨b, off, none⟩) cb cu n M w I k (j + 1) (.slice a2 R2.length c2) R2 ts2 (fun q => if q = (ka : Int) then n0 + 1 else f2 q) w3) :=
                    HA2.out.step H2.out hg3 (.inr rfl) hM (by rw [HN0.out]; exact HA2.out.wk.old HX2.out HY.out HO.out HKA.out hin) hM3 (hT.out.keep _ _ _ HI2.out (fun q hq => hg3.block q (by have := HA2.out.grown.size; simp; omega) (by simp; omega)))
                  have e1 : (n0 + 1 == 1) = false := by have := ((HA2.out.wk.met ka).2.2).2 hin; have h0 := HN0.out; simp; omega
                  clear hM3 hg3 hin
                  go_wp2
                  go_roundw
                  case rel => exact ⟨j + 1, R2, ts2, _, by go_num, hjl, HX2.out, HWN.out⟩
                  case measure => simp [intOf]; omega
                · have e1 : (n0 + 1 == 1) = true := by have := HA2.out.wk.met ka; have h0 : ¬ 1 ≤ f2 ka := fun h => hin (this.2.2.1 h); have h1 := HN0.out; simp; omega
                  have HIN := hide hin
                  have HM3 := hide hM3
                  have HG3 := hide hg3
                  have HQ3 : Hid (QR w3 w.heap.size (.slice a2 R2.length c2) R2) := (HA2.out.row.alloc _).keep fun q hq => hg3.block q ((HA2.out.row.alloc _).lt q hq).2 (by simp only [ne_eq, Option.some.injEq]; intro e; obtain ⟨o, ho, hno⟩ := (HM2.out).obj; exact (HA2.out.row.alloc _).ty ho hno (e ▸ hq))
                  have hz3 := hg3.size
                  clear hM3 hg3 hin
                  go_wp2_with (at_builtin; refine wpList_append_q rfl _ _ rfl w.heap.size _ R2 ka rfl (HQ3.out.alloc _) ⟨w3.heap.size, 0, none⟩ rfl (one_news _ _ _) (by omega) (by have := HA2.out.grown.size; simp at hz3 ⊢; omega) ?_; intro v' w4 hq4 hg4; have HQ4 := hide hq4; have HG4 := hide hg4; clear hq4 hg4)
                  have HWN : Hid (ComAt m ab (some ⟨b, off, none⟩) cb cu n M w I k (j + 1) v' (R2 ++ [ka]) ts2 (fun q => if q = (ka : Int) then n0 + 1 else f2 q) w4) :=
                    HA2.out.more hT.out (grownT0 (grown_tr (grownM_of0 H2.out) HG3.out) (grown0_new (World.grownBy.refl _ _) _)) HG4.out (HQ3.out.alloc _) (by rw [HN0.out]; exact HA2.out.wk.new HX2.out HY.out HO.out HKA.out hku HIN.out) (HM3.out.keep (Below.heap_alloc _ _ _ HM3.out.lt)) HQ4.out
                  have HX3 : Hid ((R2 ++ [ka])[k]? = some x) := by unfold Hid; rw [List.getElem?_append_left (List.getElem?_eq_some_iff.1 HX2.out).1]; exact HX2.out
                  go_roundw
                  case rel => exact ⟨j + 1, R2 ++ [ka], ts2, _, by go_num, hjl, HX3.out, HWN.out⟩
                  case measure => simp [intOf]; omega
            · have HN : Hid (ComAt m ab (some ⟨b, off, none⟩) cb cu n M w I k (j + 1) (.slice a2 R2.length c2) R2 ts2 f2 (wr.alloc (insO y.op y.a y.n))) :=
                HA2.out.step H2.out (World.grownBy.refl _ (some M)) (.inl rfl) hM (HA2.out.wk.quiet HX2.out HY.out h26 h23) HM2.out HI2.out
              have e23 : (y.op == 23) = false := by unfold Vf.Cls at h23; simp; omega
              have e29 : (y.op == 29) = false := by unfold Vf.Cls at h23; simp; omega
              clear h26 h23
              go_wp2
              go_roundw
              case rel => exact ⟨j + 1, R2, ts2, f2, by go_num, hjl, HX2.out, HN.out⟩
              case measure => simp [intOf]; omega
        · have HN : Hid (ComAt m ab (some ⟨b, off, none⟩) cb cu n M w I (k + 1) 0 (.slice a2 R2.length c2) R2 ts2 f2 wr) :=
            HA2.out.step (World.grownBy.refl _ none) (World.grownBy.refl _ (some M)) (.inl rfl) hM (HA2.out.wk.next HX2.out (by rw [HUN.out]; omega) (by omega)) HA2.out.met HA2.out.tell
          have hj1 : ¬ (j : Int) < (u.code.length : Int) := by omega
          go_wp2
          go_roundw
          case rel => exact ⟨k + 1, R2, ts2, f2, by go_num, HN.out⟩
          case measure => simp [intOf]; omega
    · have HE : Hid (∀ q, q ∈ ts ↔ (q.1 = 26 ∨ q.1 = 27) ∧ Vf.comes m n q = true) := fun q => HA.out.wk.all hR.out (by omega) q
      go_wp2
      go_end0
      exact ⟨rfl, HA.out.grown, ts, HA.out.tell, HE.out⟩

end Go.Proofs.Ytbkimpimoclobaa

