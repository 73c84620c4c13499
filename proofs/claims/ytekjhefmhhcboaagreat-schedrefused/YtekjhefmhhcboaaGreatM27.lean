/- The walk of Comes, whatever is told. -/
import Derived.Test.YtekjhefmhhcboaaGreatM24
import Derived.Test.YtekjhefmhhcboaaGreatM26
import Derived.Deep.QuietTactic
import Derived.BigQuiet
import Derived.Test.YtekjhefmhhcboaaGreatM22
import Derived.Maps.RangeWalk
set_option maxRecDepth 100000
set_option maxHeartbeats 6000000
namespace Go.Proofs.YtekjhefmhhcboaaGreat
open Go.RowKit
theorem comes_any (m : Vf.Md) (ab au : Option Addr) (cb cu B n M : Nat) (g : FuncId) (caps : Array Value) (I : List Lk → World → Prop) (w : World) (hmd : Hid (ModIn B w m ab au)) (hB : B ≤ w.heap.size) (hR : Hid (Rt m)) (hn : n < m.units.length) (hBM : B ≤ M) (hM : M < w.heap.size)
  (hcf : ∀ (vs : Array Value) (w : World), (callFunc g vs).run Tryz.prog w = .ok (.enter g vs) w) (hT : Hid (Teller g caps w.heap.size M I)) (hI : Hid (I [] w)) :
  Calls Tryz.prog 52 #[mdV m ab au cb cu, .int .i64 (n : Int), .func (.func g) #[] caps] w fun e w' => e = .returned (.tuple #[]) ∧ w.grownBy w' (some M) ∧ ∃ ts, I ts w' ∧ ∀ q, q ∈ ts ↔ (q.1 = 26 ∨ q.1 = 27) ∧ Vf.comes m n q = true := by
 have hmm : ∀ w : World, (Instr.makeMap 144 Option.none).run Tryz.prog w = .ok (.map (some w.heap.size)) (w.alloc (.map #[] 0)) := fun _ => rfl
 have hmu : m.units.length ≤ 30 := hR.out.units
 obtain ⟨t0, t1, t2, _⟩ := three_new w (maO m ab au cb cu) (.cells #[.int .i64 (n : Int)] 3 (0, 0)) (.map #[] 0)
 have hM0 := MtIn.new ((w.alloc (maO m ab au cb cu)).alloc (.cells #[.int .i64 (n : Int)] 3 (0, 0)))
 rw [World.size_alloc, World.size_alloc] at hM0
 obtain ⟨w1, hup, hM1, hg1⟩ := run_meet hM0 n 1
 have k1 : ∀ q, q < w.heap.size + 1 + 1 → w1.heap[q]? = (((w.alloc (maO m ab au cb cu)).alloc (.cells #[.int .i64 (n : Int)] 3 (0, 0))).alloc (.map #[] 0)).heap[q]? := fun q hq => hg1.block q (by simp; omega) (by simp; omega)
 have HST : Hid (ComAt m ab au cb cu n M w I 0 0 (.slice (some ⟨w.heap.size + 1, 0, none⟩) 1 1) [n] [] (fun a => if a = (n : Int) then 1 else 0) w1) :=
  ⟨Vf.Wkr.start hn, .inr ⟨w.heap.size + 1, 0, 1, [.int .i64 (n : Int)], rfl, by omega, (k1 _ (by omega)).trans t2, by simp, by simp, fun i x hx => by
   cases i with
   | zero => simp at hx; subst hx; rfl
   | succ i => simp at hx⟩, hM1, hT.out.keep _ _ _ hI.out (fun q hq => (k1 q (by omega)).trans (t0.block q hq (by simp))), (k1 _ (by omega)).trans t1, grownT (grownT0 (grown_refl _ _) t0) hg1 (.inl (by omega))⟩
 clear t0 t1 t2 hM0 hM1 hg1 k1
 go_enter Tryz.func52, Tryz.ntmps52
 go_wp2
 go_loopw [6, 8] (fun v i wr => ∃ (k : Nat) (R : List Nat) (ts : List Lk) (f : Int → Int), i = .int .i64 k ∧ ComAt m ab au cb cu n M w I k 0 v R ts f wr) (fun _ i _ => 31 - (intOf i).toNat)
 case atStart => exact ⟨0, [n], [], _, rfl, HST.out⟩
 case round =>
  obtain ⟨k, R, ts, f, rfl, hA⟩ := hrel
  clear HST hup
  have HA := hide hA
  obtain ⟨a, c, rfl⟩ := hA.row.form
  have hrl := hA.wk.len
  have hr30 : R.length ≤ 30 := by omega
  clear hA
  by_cases hlt : k < R.length
  ·obtain ⟨x, hx⟩ : ∃ x, R[k]? = some x := ⟨_, List.getElem?_eq_getElem hlt⟩
   have hxu : x < m.units.length := HA.out.wk.lt x (List.mem_of_getElem? hx)
   obtain ⟨u, hu⟩ : ∃ u, m.units[x]? = some u := ⟨_, List.getElem?_eq_getElem hxu⟩
   have hMr : ModIn B wr m ab au := hmd.out.low (lowM HA.out.grown hBM hB)
   obtain ⟨b, off, al, cl, ac, cc, ha, hb, hui, u0, u1, u2, u3, u4, u5⟩ := hMr.units x u hu
   have HUI : Hid (UnIn B w u al ac cl cc) := hui.low (fun q hq => (lowM HA.out.grown hBM hB q hq).symm)
   obtain ⟨g', off2, cap', hv, hgl, hc⟩ := HA.out.row.at hx
   cases hv
   obtain ⟨x0, x1⟩ := ma_cells HA.out.md
   have HUN : Hid (Vf.unit m (x : Int) = u) := unit_of hu
   have hc4 : u.code.length ≤ 4000 := (sized_true (headE_zero (hR.out.heads x u hu).1).2.1).2.2.2.2.2
   have HFO : Hid (Vf.Forms m u) := (hR.out.heads x u hu).2
   have HX := hide hx
   have k1 : (k : Int) < (R.length : Int) := by omega
   have x2 : (x : Int) < (m.units.length : Int) := by omega
   subst ha
   clear hx hu hMr hui
   have hbw : b < wr.heap.size := by have := HA.out.grown.size; omega
   go_wp2_with fail
   go_quiet (fail)
   clear u0 u1 u2 u3 u4 u5 x0 x1 hc
   go_wp2
   go_loopw [6, 32] (fun v i wi => ∃ (j : Nat) (R2 : List Nat) (ts2 : List Lk) (f2 : Int → Int), i = .int .i64 j ∧ j ≤ u.code.length ∧ R2[k]? = some x ∧ ComAt m ab (some ⟨b, off, none⟩) cb cu n M w I k j v R2 ts2 f2 wi) (fun _ i _ => u.code.length - (intOf i).toNat)
   case atStart => exact ⟨0, R, ts, f, rfl, Nat.zero_le _, HX.out, ⟨HA.out.wk, HA.out.row, HA.out.met, hT.out.keep _ _ _ HA.out.tell (fun _ _ => rfl), HA.out.md, ⟨HA.out.grown.os, HA.out.grown.tape, HA.out.grown.output, HA.out.grown.size, HA.out.grown.block⟩⟩⟩
   case round =>
    clear HA HX
    obtain ⟨j, R2, ts2, f2, rfl, hj, hx2, hA2⟩ := hrel
    have HA2 := hide hA2
    have HX2 := hide hx2
    obtain ⟨a2, c2, rfl⟩ := hA2.row.form
    have hrl2 : R2.length ≤ 30 := by have := hA2.wk.len; omega
    have hgz := hA2.grown.size
    have hk30 : k < 30 := by have := (List.getElem?_eq_some_iff.1 hx2).1; omega
    have hts : ts2.length ≤ 130000 := by have := hA2.wk.few; omega
    clear hA2 hx2
    by_cases hjl : j < u.code.length
    ·obtain ⟨y, hy⟩ : ∃ y, u.code[j]? = some y := ⟨_, List.getElem?_eq_getElem hjl⟩
     have HY : Hid ((Vf.unit m (x : Int)).code[j]? = some y) := by rw [HUN.out]; exact hy
     obtain ⟨_, _, _, bc, oc, hac, hbc, i0, i1, i2⟩ := (HUI.out.low (lowM HA2.out.grown hBM hB)).code j y hy
     have HFX : Hid (Vf.formE m u y = 0) := HFO.out y (List.mem_of_getElem? hy)
     have H2 : Hid (wr.grownBy (wr.alloc (insO y.op y.a y.n)) none) := grown0_new (World.grownBy.refl _ _) _
     have HI2 : Hid (I ts2 (wr.alloc (insO y.op y.a y.n))) := hT.out.keep _ _ _ HA2.out.tell (fun q hq => Below.heap_alloc _ _ _ (by omega))
     have HM2 : Hid (MtIn (wr.alloc (insO y.op y.a y.n)) (w.heap.size + 1 + 1) f2) := HA2.out.met.keep (Below.heap_alloc _ _ _ HA2.out.met.lt)
     have hj1 : (j : Int) < (u.code.length : Int) := by omega
     subst hac
     clear hy
     by_cases h26 : Vf.Tks y
     ·have HO := hide h26
      rcases h26 with h | h
      ·have e26 : (y.op == 26) = true := by simpa using h
       clear h
       go_wp2_with fail
       refine (hT.out.call ts2 y.op y.a _ HI2.out hts).mono ?_
       rintro e w3 ⟨rfl, hI3, hg3⟩
       have HN : Hid (ComAt m ab (some ⟨b, off, none⟩) cb cu n M w I k (j + 1) (.slice a2 R2.length c2) R2 (ts2 ++ [(y.op, y.a)]) f2 w3) :=
        HA2.out.step (H2.out) hg3 (.inl rfl) hM (HA2.out.wk.talk HX2.out HY.out HO.out) (HM2.out.keep (hg3.block _ (HM2.out.lt) (by simp; omega))) hI3
       clear hI3 hg3
       go_wp2
       go_roundw
       case rel => exact ⟨j + 1, R2, _, f2, by go_num, hjl, HX2.out, HN.out⟩
       case measure => simp [intOf]; omega
      ·have e26 : (y.op == 26) = false := by simp; omega
       have e27 : (y.op == 27) = true := by simpa using h
       clear h
       go_wp2_with fail
       refine (hT.out.call ts2 y.op y.a _ HI2.out hts).mono ?_
       rintro e w3 ⟨rfl, hI3, hg3⟩
       have HN : Hid (ComAt m ab (some ⟨b, off, none⟩) cb cu n M w I k (j + 1) (.slice a2 R2.length c2) R2 (ts2 ++ [(y.op, y.a)]) f2 w3) :=
        HA2.out.step (H2.out) hg3 (.inl rfl) hM (HA2.out.wk.talk HX2.out HY.out HO.out) (HM2.out.keep (hg3.block _ (HM2.out.lt) (by simp; omega))) hI3
       clear hI3 hg3
       go_wp2
       go_roundw
       case rel => exact ⟨j + 1, R2, _, f2, by go_num, hjl, HX2.out, HN.out⟩
       case measure => simp [intOf]; omega
     ·have e26 : (y.op == 26) = false := by unfold Vf.Tks at h26; simp; omega
      have e27 : (y.op == 27) = false := by unfold Vf.Tks at h26; simp; omega
      by_cases h23 : Vf.Cls y
      ·have HO := hide h23
       obtain ⟨ka, hka, hku⟩ : ∃ ka : Nat, y.a = ka ∧ ka < m.units.length := by
        obtain ⟨kd, _, hi⟩ := Vf.call_is HFX.out h23
        obtain ⟨z, h3, _, h4⟩ := is_some hi
        exact ⟨y.a.toNat, by omega, (List.getElem?_eq_some_iff.1 h3).1⟩
       have HKA := hide hka
       have hl2 := run_met HM2.out ka
       obtain ⟨w3, hup, hM3, hg3⟩ := run_meet HM2.out ka (f2 ka + 1)
       have hl3 := run_met hM3 ka
       simp only [if_true] at hl3
       have hf0 := HA2.out.wk.met ka
       obtain ⟨n0, hn0⟩ : ∃ n0, n0 = f2 ka := ⟨_, rfl⟩
       have HN0 := hide hn0
       rw [← hn0] at hl2 hup hM3 hl3 hf0
       have f0 : 0 ≤ n0 := hf0.1
       have f1 : n0 ≤ 200000 := by have := hf0.2.1; omega
       have hi3 : w3.heap[wr.heap.size]? = some (insO y.op y.a y.n) := (hg3.block _ (by simp) (by have := HA2.out.met.lt; simp; omega)).trans (heap_alloc_new _ _)
       obtain ⟨s0, s1, s2⟩ := ins_cells hi3
       rw [← HKA.out] at hl2 hup
       rw [HKA.out] at s1
       have hwz3 : wr.heap.size < w3.heap.size := lt_of_block hi3
       clear hka hf0 h26 hi3 hn0
       rcases h23 with h | h
       ·have e23 : (y.op == 23) = true := by simpa using h
        clear h
        by_cases hin : ka ∈ R2
        ·have HWN : Hid (ComAt m ab (some ⟨b, off, none⟩) cb cu n M w I k (j + 1) (.slice a2 R2.length c2) R2 ts2 (fun q => if q = (ka : Int) then n0 + 1 else f2 q) w3) :=
          HA2.out.step H2.out hg3 (.inr rfl) hM (by rw [HN0.out]; exact HA2.out.wk.old HX2.out HY.out HO.out HKA.out hin) hM3 (hT.out.keep _ _ _ HI2.out (fun q hq => hg3.block q (by have := HA2.out.grown.size; simp; omega) (by simp; omega)))
         have e1 : (n0 + 1 == 1) = false := by have := ((HA2.out.wk.met ka).2.2).2 hin; have h0 := HN0.out; simp; omega
         clear hM3 hg3 hin
         go_wp2
         go_roundw
         case rel => exact ⟨j + 1, R2, ts2, _, by go_num, hjl, HX2.out, HWN.out⟩
         case measure => simp [intOf]; omega
        ·have e1 : (n0 + 1 == 1) = true := by have := HA2.out.wk.met ka; have h0 : ¬ 1 ≤ f2 ka := fun h => hin (this.2.2.1 h); have h1 := HN0.out; simp; omega
         have HIN := hide hin
         have HM3 := hide hM3
         have HG3 := hide hg3
         have HQ3 : Hid (QR w3 w.heap.size (.slice a2 R2.length c2) R2) := (HA2.out.row.alloc _).keep fun q hq => hg3.block q ((HA2.out.row.alloc _).lt q hq).2 (by simp only [ne_eq, Option.some.injEq]; intro e; obtain ⟨o, ho, hno⟩ := (HM2.out).obj; exact (HA2.out.row.alloc _).ty ho hno (e ▸ hq))
         have hz3 := hg3.size
         clear hM3 hg3 hin
         go_wp2_with (at_builtin; refine wpList_append_q rfl _ _ rfl w.heap.size _ R2 ka rfl (HQ3.out.alloc _) ⟨w3.heap.size, 0, none⟩ rfl (one_news _ _ _) (by omega) (by have := HA2.out.grown.size; simp at hz3 ⊢; omega) ?_; intro v' w4 hq4 hg4; have HQ4 := hide hq4; have HG4 := hide hg4; clear hq4 hg4)
         have HWN : Hid (ComAt m ab (some ⟨b, off, none⟩) cb cu n M w I k (j + 1) v' (R2 ++ [ka]) ts2 (fun q => if q = (ka : Int) then n0 + 1 else f2 q) w4) :=
          HA2.out.more hT.out (grownT0 (grown_tr (grownM_of0 H2.out) HG3.out) (grown0_new (World.grownBy.refl _ _) _)) HG4.out (HQ3.out.alloc _) (by rw [HN0.out]; exact HA2.out.wk.new HX2.out HY.out HO.out HKA.out hku HIN.out) (HM3.out.keep (Below.heap_alloc _ _ _ HM3.out.lt)) HQ4.out
         have HX3 : Hid ((R2 ++ [ka])[k]? = some x) := by unfold Hid; rw [List.getElem?_append_left (List.getElem?_eq_some_iff.1 HX2.out).1]; exact HX2.out
         go_roundw
         case rel => exact ⟨j + 1, R2 ++ [ka], ts2, _, by go_num, hjl, HX3.out, HWN.out⟩
         case measure => simp [intOf]; omega
       ·have e23 : (y.op == 23) = false := by simp; omega
        have e29 : (y.op == 29) = true := by simpa using h
        clear h
        by_cases hin : ka ∈ R2
        ·have HWN : Hid (ComAt m ab (some ⟨b, off, none⟩) cb cu n M w I k (j + 1) (.slice a2 R2.length c2) R2 ts2 (fun q => if q = (ka : Int) then n0 + 1 else f2 q) w3) :=
          HA2.out.step H2.out hg3 (.inr rfl) hM (by rw [HN0.out]; exact HA2.out.wk.old HX2.out HY.out HO.out HKA.out hin) hM3 (hT.out.keep _ _ _ HI2.out (fun q hq => hg3.block q (by have := HA2.out.grown.size; simp; omega) (by simp; omega)))
         have e1 : (n0 + 1 == 1) = false := by have := ((HA2.out.wk.met ka).2.2).2 hin; have h0 := HN0.out; simp; omega
         clear hM3 hg3 hin
         go_wp2
         go_roundw
         case rel => exact ⟨j + 1, R2, ts2, _, by go_num, hjl, HX2.out, HWN.out⟩
         case measure => simp [intOf]; omega
        ·have e1 : (n0 + 1 == 1) = true := by have := HA2.out.wk.met ka; have h0 : ¬ 1 ≤ f2 ka := fun h => hin (this.2.2.1 h); have h1 := HN0.out; simp; omega
         have HIN := hide hin
         have HM3 := hide hM3
         have HG3 := hide hg3
         have HQ3 : Hid (QR w3 w.heap.size (.slice a2 R2.length c2) R2) := (HA2.out.row.alloc _).keep fun q hq => hg3.block q ((HA2.out.row.alloc _).lt q hq).2 (by simp only [ne_eq, Option.some.injEq]; intro e; obtain ⟨o, ho, hno⟩ := (HM2.out).obj; exact (HA2.out.row.alloc _).ty ho hno (e ▸ hq))
         have hz3 := hg3.size
         clear hM3 hg3 hin
         go_wp2_with (at_builtin; refine wpList_append_q rfl _ _ rfl w.heap.size _ R2 ka rfl (HQ3.out.alloc _) ⟨w3.heap.size, 0, none⟩ rfl (one_news _ _ _) (by omega) (by have := HA2.out.grown.size; simp at hz3 ⊢; omega) ?_; intro v' w4 hq4 hg4; have HQ4 := hide hq4; have HG4 := hide hg4; clear hq4 hg4)
         have HWN : Hid (ComAt m ab (some ⟨b, off, none⟩) cb cu n M w I k (j + 1) v' (R2 ++ [ka]) ts2 (fun q => if q = (ka : Int) then n0 + 1 else f2 q) w4) :=
          HA2.out.more hT.out (grownT0 (grown_tr (grownM_of0 H2.out) HG3.out) (grown0_new (World.grownBy.refl _ _) _)) HG4.out (HQ3.out.alloc _) (by rw [HN0.out]; exact HA2.out.wk.new HX2.out HY.out HO.out HKA.out hku HIN.out) (HM3.out.keep (Below.heap_alloc _ _ _ HM3.out.lt)) HQ4.out
         have HX3 : Hid ((R2 ++ [ka])[k]? = some x) := by unfold Hid; rw [List.getElem?_append_left (List.getElem?_eq_some_iff.1 HX2.out).1]; exact HX2.out
         go_roundw
         case rel => exact ⟨j + 1, R2 ++ [ka], ts2, _, by go_num, hjl, HX3.out, HWN.out⟩
         case measure => simp [intOf]; omega
      ·have HN : Hid (ComAt m ab (some ⟨b, off, none⟩) cb cu n M w I k (j + 1) (.slice a2 R2.length c2) R2 ts2 f2 (wr.alloc (insO y.op y.a y.n))) :=
        HA2.out.step H2.out (World.grownBy.refl _ (some M)) (.inl rfl) hM (HA2.out.wk.quiet HX2.out HY.out h26 h23) HM2.out HI2.out
       have e23 : (y.op == 23) = false := by unfold Vf.Cls at h23; simp; omega
       have e29 : (y.op == 29) = false := by unfold Vf.Cls at h23; simp; omega
       clear h26 h23
       go_wp2
       go_roundw
       case rel => exact ⟨j + 1, R2, ts2, f2, by go_num, hjl, HX2.out, HN.out⟩
       case measure => simp [intOf]; omega
    ·have HN : Hid (ComAt m ab (some ⟨b, off, none⟩) cb cu n M w I (k + 1) 0 (.slice a2 R2.length c2) R2 ts2 f2 wr) :=
      HA2.out.step (World.grownBy.refl _ none) (World.grownBy.refl _ (some M)) (.inl rfl) hM (HA2.out.wk.next HX2.out (by rw [HUN.out]; omega) (by omega)) HA2.out.met HA2.out.tell
     have hj1 : ¬ (j : Int) < (u.code.length : Int) := by omega
     go_wp2
     go_roundw
     case rel => exact ⟨k + 1, R2, ts2, f2, by go_num, HN.out⟩
     case measure => simp [intOf]; omega
  ·have HE : Hid (∀ q, q ∈ ts ↔ (q.1 = 26 ∨ q.1 = 27) ∧ Vf.comes m n q = true) := fun q => HA.out.wk.all hR.out (by omega) q
   go_wp2
   go_end0
   exact ⟨rfl, HA.out.grown, ts, HA.out.tell, HE.out⟩
theorem ents_born {l : LL} {e : MapEntry} (h : e ∈ ents l 0) : ∃ i p, l[i]? = some p ∧ e = { key := lkV p.1, val := .int .i64 p.2, born := i } := by
 obtain ⟨i, hi⟩ := List.getElem?_of_mem h
 rw [ents_get] at hi
 obtain ⟨p, hp, rfl⟩ := Option.map_eq_some_iff.1 hi
 exact ⟨i, p, hp, by simp⟩
theorem born_nodup (l : LL) : ((ents l 0).map (·.born)).Nodup := by
 have : ∀ (l : LL) (i : Nat), (ents l i).map (·.born) = List.range' i l.length := by
  intro l
  induction l with
  | nil => intro i; rfl
  | cons p r ih => intro i; simp only [ents, List.map_cons, ih, List.length_cons, List.range'_succ]
 rw [this]
 exact List.nodup_range'
abbrev itO (M : Nat) (G : LL) (seen : Array Nat) : Obj := .mapIter (some M) G.length seen G.length
theorem rg_next {w : World} {I M : Nat} {G : LL} {seen : Array Nat} (hI : w.heap[I]? = some (itO M G seen)) (hM : LkIn w M G) (ty : TypeId) :
  ((∀ i, i < G.length → i ∈ seen.toList) ∧ (Instr.next (.pointer (some ⟨I, 0, none⟩)) false ty).run Tryz.prog w = .ok (.tuple #[.bool false]) w) ∨
  ∃ i p w1, G[i]? = some p ∧ i ∉ seen.toList ∧ (Instr.next (.pointer (some ⟨I, 0, none⟩)) false ty).run Tryz.prog w = .ok (.tuple #[.bool true, lkV p.1, .int .i64 p.2]) w1 ∧ w1.heap[I]? = some (itO M G (seen.push i)) ∧ w.grownBy w1 (some I) ∧ w1.heap.size = w.heap.size ∧ (Instr.entry (.pointer (some ⟨I, 0, none⟩))).run Tryz.prog w1 = .ok (.tuple #[lkV p.1, .int .i64 p.2]) w1 := by
 have hMI : M ≠ I := fun e => by
  subst e
  have := hM
  unfold LkIn at this
  rw [hI] at this
  cases this
 rcases run_next_at (P := Tryz.prog) w ty I M G.length G.length seen (ents G 0).toArray G.length hI hM (fun x hx => by
  obtain ⟨i, p, hp, rfl⟩ := ents_born (by simpa using hx)
  exact (List.getElem?_eq_some_iff.1 hp).1) (Nat.le_refl _) with ⟨h0, hr⟩ | ⟨e, he, w1, hw1, hr⟩
 ·refine .inl ⟨fun i hi => ?_, hr⟩
  by_cases hs : i ∈ seen.toList
  ·exact hs
  ·exfalso
   have hx : (ents G 0)[i]? = some { key := lkV G[i].1, val := .int .i64 G[i].2, born := 0 + i } := by
    rw [ents_get, List.getElem?_eq_getElem hi]
    rfl
   have hmem : ({ key := lkV G[i].1, val := .int .i64 G[i].2, born := 0 + i } : MapEntry) ∈ leftOf (ents G 0).toArray seen := by
    unfold leftOf
    rw [Array.mem_filter]
    refine ⟨by simpa using List.mem_of_getElem? hx, ?_⟩
    simp only [Nat.zero_add]
    simpa using hs
   have := Array.size_pos_of_mem hmem
   omega
 ·have he' : e ∈ leftOf (ents G 0).toArray seen := by simpa using he
  unfold leftOf at he'
  rw [Array.mem_filter] at he'
  obtain ⟨h1, h2⟩ := he'
  have h1' : e ∈ ents G 0 := by simpa using h1
  obtain ⟨i, p, hp, rfl⟩ := ents_born h1'
  have hI1 : w1.heap[I]? = some (itO M G seen) := by rcases hw1 with rfl | rfl <;> exact hI
  have hM1 : LkIn w1 M G := by rcases hw1 with rfl | rfl <;> exact hM
  have hsz : w1.heap.size = w.heap.size := by rcases hw1 with rfl | rfl <;> rfl
  have hg1 : w.grownBy w1 (some I) := by
   rcases hw1 with rfl | rfl
   ·exact grown_refl _ _
   ·exact grown_drew2 (grown_refl _ _)
  obtain ⟨m1, m2⟩ := MapKept.heap_set (o' := itO M G (seen.push i)) hI1
  refine .inr ⟨i, p, _, hp, by simpa using h2, hr, m1, ?_, ?_, ?_⟩
  ·exact grown_tr hg1 ⟨rfl, rfl, rfl, by simp [Go.ChangeMaps.setBlock], fun k _ hne => m2 k (fun e => hne (by rw [e]))⟩
  ·simp [Go.ChangeMaps.setBlock, hsz]
  ·refine run_entry_at (P := Tryz.prog) _ I M G.length seen (ents G 0).toArray G.length { key := lkV p.1, val := .int .i64 p.2, born := i } m1 ?_ (by simpa using h1') (by simpa using born_nodup G)
   exact (m2 M hMI).trans hM1
def leftN (G : LL) (seen : List Nat) : Nat := (List.range G.length).countP (fun i => decide (i ∉ seen))
theorem leftN_less {G : LL} {seen : List Nat} {i : Nat} (hi : i < G.length) (hs : i ∉ seen) : leftN G (seen ++ [i]) + 1 ≤ leftN G seen := by
 refine Vf.count_lt (fun x hx => ?_) (List.mem_range.2 hi) (by simpa using hs) (by simp)
 simp at hx ⊢
 exact hx.1
def RgAt (G : LL) (f : Lk → Int) (W0 : World) (T M I gk : Nat) (W : World) : Prop :=
 ∃ seen : Array Nat, W.heap[I]? = some (itO M G seen) ∧ LkIn W M G ∧ TkIn W T (fun q => f q + told G seen.toList q) ∧ (∀ i ∈ seen.toList, i < G.length) ∧ leftN G seen.toList ≤ gk ∧ W0.grownBy W (some T)
def tz (m : Vf.Md) (q : Lk) (k : Nat) : Int := if q.1 = 26 ∨ q.1 = 27 then (Vf.tc m q k : Int) else 0
structure OwAt (m : Vf.Md) (W0 : World) (T k : Nat) (W : World) : Prop where
 le : k ≤ m.units.length
 tk : TkIn W T (fun q => tz m q k)
 grown : W0.grownBy W (some T)
theorem TkIn.bump {w : World} {T : Nat} {f : Lk → Int} (h : TkIn w T f) (k : Lk) : ∃ w1 w2 n, (Instr.lookup 120 (.map (some T)) (lkV k) false).run Tryz.prog w = .ok (.int .i64 (f k)) w ∧ (Instr.mapEntry 120 (.map (some T)) (lkV k)).run Tryz.prog w = .ok (.tuple #[.int .i64 (f k), goInt n]) w1 ∧ (Instr.lookup 120 (.map (some T)) (lkV k) false).run Tryz.prog w1 = .ok (.int .i64 (f k)) w1 ∧
  (Instr.entryStore 120 (.map (some T)) (.int .i64 n) (.int .i64 (f k + 1))).run Tryz.prog w1 = .ok () w2 ∧ TkIn w2 T (fun q => f q + if q = k then 1 else 0) ∧ w.grownBy w1 (some T) ∧ w.grownBy w2 (some T) := by
 obtain ⟨l, h1, h2, h3⟩ := h
 obtain ⟨w1, w2, b1, b2, b3, b4, b5, b6⟩ := run_bump h1 k
 have b0 := run_lookL h1 k
 rw [h3] at b0 b1 b2 b3
 refine ⟨w1, w2, _, b0, b1, b2, b3, ⟨_, b4, h2.bump k, fun q => ?_⟩, b5, b6⟩
 show Vf.cnt q (Vf.bump k l) = f q + if q = k then 1 else 0
 rw [Vf.cnt_bump]
 by_cases e : q = k
 ·subst e
  rw [if_pos rfl, if_pos rfl, h3]
 ·rw [if_neg e, if_neg e, h3]
  omega
theorem run_rangeL {w : World} {M : Nat} {G : LL} (h : LkIn w M G) : (Instr.range 120 (.map (some M))).run Tryz.prog w = .ok (.pointer (some ⟨w.heap.size, 0, none⟩)) (w.alloc (itO M G #[])) := by
 have hg : (getObj M).run Tryz.prog w = .ok (.map (ents G 0).toArray G.length) w := MapKept.run_getObj_map h
 have hu := run_underlying (P := Tryz.prog) (w := w) Tryz.underlying120
 simp [Instr.range, hu, hg]
theorem TkIn.look {w : World} {T : Nat} {f : Lk → Int} (h : TkIn w T f) (k : Lk) : (Instr.lookup 120 (.map (some T)) (lkV k) false).run Tryz.prog w = .ok (.int .i64 (f k)) w := by
 obtain ⟨l, h1, h2, h3⟩ := h
 have b0 := run_lookL h1 k
 rw [h3] at b0
 exact b0
theorem tk_of {w : World} {T : Nat} {f g : Lk → Int} (h : TkIn w T f) (e : ∀ q, f q = g q) : TkIn w T g := by
 obtain ⟨l, h1, h2, h3⟩ := h
 exact ⟨l, h1, h2, fun q => (h3 q).trans (e q)⟩
theorem tz_le (m : Vf.Md) (q : Lk) (k : Nat) : 0 ≤ tz m q k ∧ tz m q k ≤ k := by
 have := Vf.tc_le m q k
 unfold tz
 split <;> omega
theorem TkIn.wl {w : World} {T : Nat} {f : Lk → Int} (h : TkIn w T f) : ∃ l, LkIn w T l ∧ Vf.Wl l ∧ ∀ q, Vf.cnt q l = f q := h
abbrev mvO (M : Nat) : Obj := .cells #[.map (some M)] 120 (0, 0)
def Mine (P M : Nat) (ts : List Lk) (w : World) : Prop := w.heap[P]? = some (mvO M) ∧ TkIn w M (fun q => (ts.count q : Int))
theorem tell_any (P M : Nat) (ts : List Lk) (op a : Int) (w : World) (hI : Hid (Mine P M ts w)) (hl : ts.length ≤ 130000) :
  Calls Tryz.prog 53 #[.int .i64 op, .int .i64 a, .pointer (some ⟨P, 0, none⟩)] w fun e w' => e = .returned (.tuple #[]) ∧ Mine P M (ts ++ [(op, a)]) w' ∧ w.grownBy w' (some M) := by
 obtain ⟨hP, hT⟩ := hI.out
 have hT1 : TkIn w.drew M (fun q => (ts.count q : Int)) := hT
 obtain ⟨w3, w4, nn, b0, b1, b2, b3, b4, b5, b6⟩ := hT1.bump (op, a)
 have c0 : w.cell? ⟨P, 0, none⟩ = some (.map (some M)) := by simp [World.cell?, hP]
 have hPM : P ≠ M := by
  rintro rfl
  obtain ⟨l, h1, _⟩ := hT
  unfold LkIn at h1
  rw [h1] at hP
  cases hP
 have HE : Hid (Mine P M (ts ++ [(op, a)]) w4) := ⟨((grown_drew b6).block _ (lt_of_block hP) (by simpa using hPM)).trans hP, tk_of b4 (fun q => by
  show (ts.count q : Int) + (if q = (op, a) then 1 else 0) = ((ts ++ [(op, a)]).count q : Int)
  rw [List.count_append, List.count_singleton]
  by_cases e : q = (op, a)
  ·rw [if_pos e, e]; simp
  ·rw [if_neg e, if_neg (by simpa using fun h => e h.symm)]; simp)⟩
 have HG : Hid (w.grownBy w4 (some M)) := grown_drew b6
 obtain ⟨n0, hn0⟩ : ∃ n0 : Int, n0 = (ts.count (op, a) : Int) := ⟨_, rfl⟩
 have hn2 : n0 ≤ 130000 := by have := List.count_le_length (a := (op, a)) (l := ts); omega
 have hn1 : 0 ≤ n0 := by omega
 rw [← hn0] at b0 b1 b2 b3
 have ew : IntKind.i64.wrap (n0 + 1) = n0 + 1 := by simp [IntKind.wrap, IntKind.bits, IntKind.signed]; omega
 clear hP hT hT1 b4 b5 b6 hPM hn0
 go_enter Tryz.func53, Tryz.ntmps53
 go_wp2_with fail
 go_region
 all_goals
  go_wp2
  go_end0
  exact ⟨rfl, HE.out, HG.out⟩
theorem owners_any (m : Vf.Md) (ab au : Option Addr) (cb cu B : Nat) (w : World) (hmd : Hid (ModIn B w m ab au)) (hB : B ≤ w.heap.size) (hR : Hid (Rt m)) (hnb : m.boxes.length ≤ 30) (er num : Int) (hr : Hid ((er, num) = ((Vf.ownersW m).1, ((Vf.ownersW m).2 : Int)))) :
  Calls Tryz.prog 36 #[mdV m ab au cb cu] w fun e w' => e = .returned (whV er 0 num) ∧ w.grownBy w' none := by
 have hmm : ∀ w : World, (Instr.makeMap 120 Option.none).run Tryz.prog w = .ok (.map (some w.heap.size)) (w.alloc (.map #[] 0)) := fun _ => rfl
 have hmu : m.units.length ≤ 30 := hR.out.units
 obtain ⟨W0, hW0⟩ : ∃ W0 : World, ((w.alloc (mdO m ab au cb cu)).alloc whZ).alloc (.map #[] 0) = W0 := ⟨_, rfl⟩
 obtain ⟨t0, t1, t2, t3⟩ := three_new w (mdO m ab au cb cu) whZ (.map #[] 0)
 rw [hW0] at t0 t1 t2 t3
 have HT0 := hide t0
 have HT1 := hide t1
 have HT2 := hide t2
 have HT3 : Hid (TkIn W0 (w.heap.size + 1 + 1) (fun q => tz m q 0)) := ⟨[], t3, Vf.Wl.nil, fun q => by show Vf.cnt q [] = tz m q 0; unfold tz; split <;> rfl⟩
 have HW0 := hide hW0
 have hzW0 : w.heap.size + 1 + 1 < W0.heap.size := lt_of_block t3
 clear t0 t1 t2 t3 hW0
 go_enter Tryz.func36, Tryz.ntmps36
 go_wp2
 go_loopw [14] (fun v wr => ∃ k : Nat, v = .int .i64 k ∧ OwAt m W0 (w.heap.size + 1 + 1) k wr) (fun v _ => m.units.length - (intOf v).toNat)
 case atStart => exact ⟨0, rfl, Nat.zero_le _, by rw [HW0.out]; exact HT3.out, by rw [HW0.out]; exact grown_refl _ _⟩
 case round =>
  obtain ⟨k, rfl, hA⟩ := hrel
  have HA := hide hA
  have hk := hA.le
  have hgz := hA.grown.size
  have hmb : wr.heap[w.heap.size]? = some (mdO m ab au cb cu) := (HA.out.grown.block _ (lt_of_block HT1.out) (by simp; omega)).trans HT1.out
  have HMB := hide hmb
  have HWH : Hid (wr.heap[w.heap.size + 1]? = some whZ) := (HA.out.grown.block _ (lt_of_block HT2.out) (by simp)).trans HT2.out
  have HMr : Hid (ModIn B wr m ab au) := hmd.out.low (fun j hj => (HA.out.grown.block j (by omega) (by simp; omega)).trans (kept0 HT0.out (by omega)))
  have HTlt : Hid (w.heap.size + 1 + 1 < wr.heap.size) := HA.out.tk.lt
  have hTl := HTlt.out
  have hwz : w.heap.size < wr.heap.size := by omega
  have hwz1 : w.heap.size + 1 < wr.heap.size := by omega
  obtain ⟨x0, x1⟩ := md_cells hmb
  clear hA hmb
  by_cases hlt : k < m.units.length
  ·obtain ⟨u, hu⟩ : ∃ u, m.units[k]? = some u := ⟨_, List.getElem?_eq_getElem hlt⟩
   obtain ⟨b, off, al, cl, ac, cc, ha, hb, hui, u0, u1, u2, u3, u4, u5⟩ := HMr.out.units k u hu
   have hk1 : (k : Int) < (m.units.length : Int) := by omega
   have HIS : Hid (Vf.is m 4 (k : Int) = (u.kind == 4)) := is_in hu
   have HAU := hide ha
   have hbw : b < wr.heap.size := by omega
   rw [ha] at x1
   clear hu hui ha
   rw [HAU.out]
   by_cases h4 : u.kind = 4
   ·have e4 : (u.kind != 4) = false := by simp [h4]
    have HIS2 : Hid (Vf.is m 4 (k : Int) = true) := by rw [HIS.out, h4]; rfl
    obtain ⟨W1, hW1⟩ : ∃ W1 : World, ((wr.alloc (unO u al ac cl cc)).alloc (.map #[] 0)).alloc (mvO (wr.heap.size + 1)) = W1 := ⟨_, rfl⟩
    obtain ⟨hT1, _, hM1, hP1⟩ := three_new wr (unO u al ac cl cc) (.map #[] 0) (mvO (wr.heap.size + 1))
    rw [hW1] at hT1 hM1 hP1
    have HM1 : Hid (ModIn B W1 m ab (some ⟨b, off, none⟩)) := by rw [← HAU.out]; exact HMr.out.low (low0 hT1 (by omega))
    have HT1' := hide hT1
    have HI1 : Hid (Mine (wr.heap.size + 1 + 1) (wr.heap.size + 1) [] W1) := ⟨hP1, [], hM1, Vf.Wl.nil, fun q => rfl⟩
    have HW1 := hide hW1
    have hzW1 : wr.heap.size + 1 + 1 < W1.heap.size := lt_of_block hP1
    have hmb1 : (((wr.alloc (unO u al ac cl cc)).alloc (.map #[] 0)).alloc (mvO (wr.heap.size + 1))).heap[w.heap.size]? = some (mdO m ab (some ⟨b, off, none⟩) cb cu) := by rw [HW1.out, ← HAU.out]; exact (kept0 HT1'.out hwz).trans HMB.out
    obtain ⟨y0, y1⟩ := md_cells hmb1
    have HTl : Hid (Teller 53 #[.pointer (some ⟨wr.heap.size + 1 + 1, 0, none⟩)] W1.heap.size (wr.heap.size + 1) (Mine (wr.heap.size + 1 + 1) (wr.heap.size + 1))) :=
     ⟨fun ts w w' h k => ⟨(k _ hzW1).trans h.1, h.2.keep (k _ (by omega))⟩, fun ts op a w h hl => tell_any _ _ ts op a w h hl⟩
    clear h4 hW1 hT1 hM1 hP1 hmb1
    go_wp2_with fail
    rw [HW1.out]
    refine (comes_any m ab (some ⟨b, off, none⟩) cb cu B k (wr.heap.size + 1) 53 #[.pointer (some ⟨wr.heap.size + 1 + 1, 0, none⟩)] _ _ HM1 (by omega) hR hlt (by omega) (by omega) (fun vs w' => by first | rfl | kernel_rfl | simp [go_sem]) HTl HI1).mono ?_
    rintro e w2 ⟨rfl, hg2, ts, ⟨hP2, G, hL2, hWG, hcn⟩, hts⟩
    have HWG := hide hWG
    have hrg := run_rangeL hL2
    have c2 : w2.cell? ⟨wr.heap.size + 1 + 1, 0, none⟩ = some (.map (some (wr.heap.size + 1))) := by simp [World.cell?, hP2]
    have hwg2 : W0.grownBy w2 (some (w.heap.size + 1 + 1)) := grownT (grownT0 HA.out.grown HT1'.out) hg2 (.inl (by omega))
    have hTk2 : TkIn w2 (w.heap.size + 1 + 1) (fun q => tz m q k) := (HA.out.tk.keep (kept0 HT1'.out hTl)).keep (hg2.block _ (by have := HT1'.out.size; omega) (by simp; omega))
    have HR0 : Hid (RgAt G (fun q => tz m q k) W0 (w.heap.size + 1 + 1) (wr.heap.size + 1) w2.heap.size (leftN G []) (w2.alloc (itO (wr.heap.size + 1) G #[]))) :=
     ⟨#[], heap_alloc_new _ _, hL2.alloc _, tk_of (hTk2.keep (Below.heap_alloc _ _ _ hTk2.lt)) (fun q => by simp [told]), fun i hi => (by cases hi), Nat.le_refl _, grownT0 hwg2 (grown0_new (World.grownBy.refl _ _) _)⟩
    have hz12 := HT1'.out.size
    have hz2 := hg2.size
    have hz3 : W1.heap.size = wr.heap.size + 1 + 1 + 1 := by rw [← HW1.out]; simp
    have HTC : Hid (∀ q, tz m q (k + 1) = tz m q k + if (decide (1 ≤ Vf.cnt q G)) = true then 1 else 0) := fun q => by
     have e : (decide (1 ≤ Vf.cnt q G)) = true ↔ (q.1 = 26 ∨ q.1 = 27) ∧ Vf.comes m k q = true := by
      have hc' : Vf.cnt q G = (ts.count q : Int) := hcn q
      rw [← hts q, hc', decide_eq_true_iff, ← List.count_pos_iff]
      omega
     unfold tz
     by_cases hq : q.1 = 26 ∨ q.1 = 27
     ·have e3 : decide (1 ≤ Vf.cnt q G) = Vf.comes m k q := by rw [Bool.eq_iff_iff, e]; exact ⟨fun h => h.2, fun h => ⟨hq, h⟩⟩
      rw [if_pos hq, if_pos hq, Vf.tc_succ, HIS2.out, e3]
      cases Vf.comes m k q <;> simp
     ·rw [if_neg hq, if_neg hq, if_neg (fun h => hq (e.1 h).1)]
      rfl
    clear hL2 hg2 hwg2 hTk2 hWG hcn hts hP2 y0 y1 u0 u1 u2 u3 u4 u5 x0 x1
    generalize hIe : w2.heap.size = I at *
    generalize hNe : wr.heap.size = N at *
    have hIN : N + 1 < I := by omega
    have HLN : Hid (w.heap.size + 1 + 1 < N) := hTl
    clear hIe hNe
    go_wp2_with fail
    go_loopg [] (leftN G []) (fun gk wr' => RgAt G (fun q => tz m q k) W0 (w.heap.size + 1 + 1) (N + 1) I gk wr')
    case atStart => exact HR0.out
    case round =>
     obtain ⟨seen, hI, hM, hT, hsl, hleft, hgW⟩ := hrel
     clear HR0 hrg
     rcases rg_next hI hM 0 with ⟨hall, hnx⟩ | ⟨i, p, w1, hp, hi, hnx, hI1, hg1, hz1, hen⟩
     ·have HTN : Hid (TkIn wr (w.heap.size + 1 + 1) (fun q => tz m q (k + 1))) := tk_of hT (fun q => by rw [told_all HWG.out hall hsl, HTC.out])
      have HGN := hide hgW
      clear hI hM hT hsl hleft hgW hall
      go_wp2
      go_roundw
      case rel => exact ⟨k + 1, by go_num, hlt, HTN.out, HGN.out⟩
      case measure => simp [intOf]; omega
     ·have hilt : i < G.length := (List.getElem?_eq_some_iff.1 hp).1
      have hTI : w.heap.size + 1 + 1 ≠ I := by omega
      have hT1 : TkIn w1 (w.heap.size + 1 + 1) (fun q => tz m q k + told G seen.toList q) := hT.keep (hg1.block _ hT.lt (by simp; omega))
      have hM1 : LkIn w1 (N + 1) G := hM.keep (hg1.block _ hM.lt (by simp; omega))
      obtain ⟨W5, hW5⟩ : ∃ W5 : World, w1.alloc (lkB p.1) = W5 := ⟨_, rfl⟩
      have hT5 : TkIn W5.drew (w.heap.size + 1 + 1) (fun q => tz m q k + told G seen.toList q) := by rw [← hW5]; exact hT1.keep (Below.heap_alloc _ _ _ hT1.lt)
      obtain ⟨w3, w4, nn, b0, b1, b2, b3, b4, b5, b6⟩ := hT5.bump p.1
      have hk5 : W5.heap[w1.heap.size]? = some (lkB p.1) := by rw [← hW5]; exact heap_alloc_new _ _
      obtain ⟨q0, q1⟩ := lk_cell hk5
      obtain ⟨n0, hn0⟩ : ∃ n0 : Int, n0 = tz m p.1 k + told G seen.toList p.1 := ⟨_, rfl⟩
      have hn1 : 0 ≤ n0 := by have := tz_le m p.1 k; rw [hn0]; unfold told; split <;> omega
      have hn2 : n0 ≤ 31 := by have := tz_le m p.1 k; rw [hn0]; unfold told; split <;> omega
      have ew : IntKind.i64.wrap (n0 + 1) = n0 + 1 := by simp [IntKind.wrap, IntKind.bits, IntKind.signed]; omega
      rw [← hn0] at b0 b1 b2 b3
      have hg5 : w1.grownBy w4 (some (w.heap.size + 1 + 1)) := by
       have h5 : w1.grownBy W5 none := by rw [← hW5]; exact grown0_new (World.grownBy.refl _ _) _
       exact grown_tr (grownM_of0 h5) (grown_drew b6)
      have HRN : Hid (RgAt G (fun q => tz m q k) W0 (w.heap.size + 1 + 1) (N + 1) I (leftN G (seen.toList ++ [i])) w4) := by
       refine ⟨seen.push i, (hg5.block _ (lt_of_block hI1) (by simp; omega)).trans hI1, hM1.keep (hg5.block _ hM1.lt (by simp; omega)), tk_of b4 (fun q => ?_), fun x hx => ?_, by rw [Array.toList_push]; exact Nat.le_refl _, grownT (grownT hgW hg1 (.inl (by omega))) hg5 (.inr rfl)⟩
       ·rw [Array.toList_push, told_more HWG.out hp hi q]
        show (tz m q k + told G seen.toList q) + (if q = p.1 then 1 else 0) = tz m q k + (told G seen.toList q + if q = p.1 then 1 else 0)
        omega
       ·rw [Array.toList_push] at hx
        rcases List.mem_append.1 hx with h | h
        ·exact hsl x h
        ·simp at h; omega
      have HLS := hide (leftN_less hilt hi)
      have HLE := hide hleft
      have HW5 := hide hW5
      clear hI hM hT hsl hleft hgW hI1 hg1 hz1 hT1 hM1 hT5 hk5 hn0 b4 b5 b6 hW5 hg5 hp hi
      go_wp2_with fail
      rw [HW5.out]
      go_region
      all_goals
       go_wp2
       go_roundg (leftN G (seen.toList ++ [i]))
       case measure => have h1 := HLS.out; have h2 := HLE.out; omega
       case rel => exact HRN.out
   ·have e4 : (u.kind != 4) = true := by simpa using h4
    have HTC : Hid (∀ q, tz m q (k + 1) = tz m q k) := fun q => by unfold tz; rw [Vf.tc_succ, HIS.out]; simp [h4]
    clear h4
    go_wp2
    go_roundw
    case rel => exact ⟨k + 1, by go_num, hlt, tk_of (HA.out.tk.keep (Below.heap_alloc _ _ _ HTlt.out)) (fun q => by rw [HTC.out]), grownT0 HA.out.grown (grown0_new (World.grownBy.refl _ _) _)⟩
    case measure => simp [intOf]; omega
  ·obtain rfl : k = m.units.length := by omega
   have HTK := hide HA.out.tk
   have HGW := hide HA.out.grown
   obtain ⟨⟨z0, z1, z2⟩, y0, y1, y2⟩ := wh_cells HWH.out
   have HG : Hid (w.grownBy wr none) := ⟨HGW.out.os.trans HT0.out.os, HGW.out.tape.trans HT0.out.tape, HGW.out.output.trans HT0.out.output, Nat.le_trans HT0.out.size HGW.out.size, fun j hj _ => (HGW.out.block j (by have := HT0.out.size; omega) (by simp; omega)).trans (HT0.out.block j hj (by simp))⟩
   clear HA
   go_wp2
   go_loopw [45] (fun v wr' => ∃ n : Nat, v = .int .i64 n ∧ n ≤ m.boxes.length ∧ wr' = wr ∧ Hid ((er, num) = ((Vf.firstE (Vf.ownersE m) ((List.range m.boxes.length).drop n) n).1, ((Vf.firstE (Vf.ownersE m) ((List.range m.boxes.length).drop n) n).2 : Int)))) (fun v _ => m.boxes.length - (intOf v).toNat)
   case atStart => exact ⟨0, rfl, Nat.zero_le _, rfl, hr.out⟩
   case round =>
    obtain ⟨n, rfl, hnl, hwe, HF⟩ := hrel
    subst hwe
    by_cases hn : n < m.boxes.length
    ·have hx : (List.range m.boxes.length)[n]? = some n := by rw [List.getElem?_range hn]
     have HF2 : Hid ((er, num) = if Vf.ownersE m n = 0 then ((Vf.firstE (Vf.ownersE m) ((List.range m.boxes.length).drop (n + 1)) (n + 1)).1, ((Vf.firstE (Vf.ownersE m) ((List.range m.boxes.length).drop (n + 1)) (n + 1)).2 : Int)) else (Vf.ownersE m n, (n : Int))) := by
      unfold Hid
      rw [HF.out, firstE_drop _ hx]
      split <;> rfl
     have l26 : _ = Result.ok (Value.int .i64 (Vf.tc m (26, (n : Int)) m.units.length : Int)) _ := HTK.out.look (26, (n : Int))
     have l27 : _ = Result.ok (Value.int .i64 (Vf.tc m (27, (n : Int)) m.units.length : Int)) _ := HTK.out.look (27, (n : Int))
     obtain ⟨a26, ha26⟩ : ∃ a : Nat, a = Vf.tc m (26, (n : Int)) m.units.length := ⟨_, rfl⟩
     obtain ⟨a27, ha27⟩ : ∃ a : Nat, a = Vf.tc m (27, (n : Int)) m.units.length := ⟨_, rfl⟩
     rw [← ha26] at l26
     rw [← ha27] at l27
     have HOE : Hid (Vf.ownersE m n = if 1 < a26 ∨ 1 < a27 then 8 else 0) := by unfold Hid; unfold Vf.ownersE; rw [ha26, ha27]
     clear hx ha26 ha27 HF
     by_cases h26 : 1 < a26
     ·have d1 : decide (1 < a26) = true := by simpa using h26
      have HE : Hid (er = 8 ∧ num = (n : Int)) := by
       have h1 := HF2.out
       have ho : Vf.ownersE m n = 8 := by rw [HOE.out, if_pos (Or.inl h26)]
       rw [ho, if_neg (by decide)] at h1
       cases h1
       exact ⟨rfl, rfl⟩
      go_wp2
      refine bodyPost_ret (v := whV 8 0 (n : Int)) (by simp [results, Tryz.results36, go_sem, z0, z1, z2]) rfl ?_
      rw [HE.out.1, HE.out.2]
      exact ⟨rfl, grown0_setN (grown0_setN (grown0_setN HG.out (by omega) _ _) (by omega) _ _) (by omega) _ _⟩
     ·have d1 : decide (1 < a26) = false := by simpa using h26
      by_cases h27 : 1 < a27
      ·have d2 : decide (1 < a27) = true := by simpa using h27
       have HE : Hid (er = 8 ∧ num = (n : Int)) := by
        have h1 := HF2.out
        have ho : Vf.ownersE m n = 8 := by rw [HOE.out, if_pos (Or.inr h27)]
        rw [ho, if_neg (by decide)] at h1
        cases h1
        exact ⟨rfl, rfl⟩
       go_wp2
       refine bodyPost_ret (v := whV 8 0 (n : Int)) (by simp [results, Tryz.results36, go_sem, z0, z1, z2]) rfl ?_
       rw [HE.out.1, HE.out.2]
       exact ⟨rfl, grown0_setN (grown0_setN (grown0_setN HG.out (by omega) _ _) (by omega) _ _) (by omega) _ _⟩
      ·have d2 : decide (1 < a27) = false := by simpa using h27
       have HE : Hid ((er, num) = ((Vf.firstE (Vf.ownersE m) ((List.range m.boxes.length).drop (n + 1)) (n + 1)).1, ((Vf.firstE (Vf.ownersE m) ((List.range m.boxes.length).drop (n + 1)) (n + 1)).2 : Int))) := by
        have h1 := HF2.out
        have ho : Vf.ownersE m n = 0 := by rw [HOE.out, if_neg (by rintro (h | h); exact h26 h; exact h27 h)]
        rw [ho, if_pos rfl] at h1
        exact h1
       go_wp2
       go_roundw
       case rel => exact ⟨n + 1, by go_num, hn, trivial, HE⟩
       case measure => simp [intOf]; omega
    ·have HE : Hid (er = 0 ∧ num = 0) := by
      have h1 := HF.out
      rw [List.drop_eq_nil_of_le (by simp; omega)] at h1
      cases h1
      exact ⟨rfl, rfl⟩
     go_wp2
     refine bodyPost_ret (v := whV 0 0 0) (by simp [results, Tryz.results36, go_sem, z0, z1, z2]) rfl ?_
     rw [HE.out.1, HE.out.2]
     exact ⟨rfl, grown0_setN (grown0_setN (grown0_setN HG.out (by omega) _ _) (by omega) _ _) (by omega) _ _⟩
namespace Vf
def sizesE (m : Md) : Int := if 30 < m.boxes.length ∨ 30 < m.units.length then 5 else 0
def boxE (b : Bx) : Int := if plain b.ty = false then 9 else if b.cap < 1 ∨ 20 < b.cap then 3 else 0
def boxesW (m : Md) : Int × Nat := firstE boxE m.boxes 0
def tasksE (m : Md) : Int := if m.units.any (fun u => u.kind == 4) then 0 else 6
end Vf
theorem sizes_any (m : Vf.Md) (ab au : Option Addr) (cb cu : Nat) (w : World) (er : Int) (hr : Hid (er = Vf.sizesE m)) :
  Calls Tryz.prog 31 #[mdV m ab au cb cu] w fun e w' => e = .returned (whV er 0 0) ∧ w.grownBy w' none := by
 go_enter Tryz.func31, Tryz.ntmps31
 go_wp2
 all_goals
  first
  | (refine bodyPost_ret (v := whV 5 0 0) (by simp [results, Tryz.results31, go_sem]) rfl ?_; have HE : er = 5 := (by rw [hr.out, Vf.sizesE, if_pos (by omega)]); rw [HE]; exact ⟨rfl, two_new _ _ _⟩)
  | (refine bodyPost_ret (v := whV 0 0 0) (by simp [results, Tryz.results31, go_sem]) rfl ?_; have HE : er = 0 := (by rw [hr.out, Vf.sizesE, if_neg (by omega)]); rw [HE]; exact ⟨rfl, two_new _ _ _⟩)
structure BxAt (m : Vf.Md) (W0 : World) (er num : Int) (k : Nat) (W : World) : Prop where
 le : k ≤ m.boxes.length
 grown : W0.grownBy W none
 rest : (er, num) = ((Vf.firstE Vf.boxE (m.boxes.drop k) k).1, ((Vf.firstE Vf.boxE (m.boxes.drop k) k).2 : Int))
theorem boxes_any (m : Vf.Md) (ab au : Option Addr) (cb cu B : Nat) (w : World) (hmd : Hid (ModIn B w m ab au)) (hB : B ≤ w.heap.size) (er num : Int) (hr : Hid ((er, num) = ((Vf.boxesW m).1, ((Vf.boxesW m).2 : Int)))) :
  Calls Tryz.prog 32 #[mdV m ab au cb cu] w fun e w' => e = .returned (whV er 0 num) ∧ w.grownBy w' none := by
 have hfew := hmd.out.few.1
 obtain ⟨W0, hW0⟩ : ∃ W0 : World, (w.alloc (mdO m ab au cb cu)).alloc whZ = W0 := ⟨_, rfl⟩
 have HT : Hid (w.grownBy W0 none) := by rw [← hW0]; exact two_new _ _ _
 have HWZ : Hid (W0.heap[w.heap.size + 1]? = some whZ) := by rw [← hW0]; exact new1 _ _ _
 have HW0 := hide hW0
 clear hW0
 go_enter Tryz.func32, Tryz.ntmps32
 go_wp2
 go_loopw [9] (fun v wr => ∃ k : Nat, v = .int .i64 k ∧ BxAt m W0 er num k wr) (fun v _ => m.boxes.length - (intOf v).toNat)
 case atStart => exact ⟨0, rfl, Nat.zero_le _, by rw [← HW0.out]; exact World.grownBy.refl _ _, hr.out⟩
 case round =>
  obtain ⟨k, rfl, hA⟩ := hrel
  have HA := hide hA
  have hk := hA.le
  have HG : Hid (w.grownBy wr none) := grown0_tr' HT.out HA.out.grown
  have hwz : wr.heap[w.heap.size + 1]? = some whZ := (kept0 HA.out.grown (lt_of_block HWZ.out)).trans HWZ.out
  obtain ⟨⟨z0, z1, z2⟩, y0, y1, y2⟩ := wh_cells hwz
  have hzl := lt_of_block hwz
  have HWW := hide hwz
  clear hA hwz
  by_cases hlt : k < m.boxes.length
  ·obtain ⟨x, hx⟩ : ∃ x, m.boxes[k]? = some x := ⟨_, List.getElem?_eq_getElem hlt⟩
   obtain ⟨i1, i2, b, off, ha, hb, b0, b1⟩ := (hmd.out.low (low0 HG.out hB)).boxes k x hx
   have HN : Hid ((er, num) = if Vf.boxE x = 0 then ((Vf.firstE Vf.boxE (m.boxes.drop (k + 1)) (k + 1)).1, ((Vf.firstE Vf.boxE (m.boxes.drop (k + 1)) (k + 1)).2 : Int)) else (Vf.boxE x, (k : Int))) := by
    unfold Hid
    rw [HA.out.rest, firstE_drop _ hx]
    split <;> rfl
   have HAB := hide ha
   obtain ⟨p, hp⟩ : ∃ p, p = Vf.plain x.ty := ⟨_, rfl⟩
   have HP := hide hp
   have HOE : Hid (Vf.boxE x = if p = false then 9 else if x.cap < 1 ∨ 20 < x.cap then 3 else 0) := by unfold Hid; unfold Vf.boxE; rw [hp]
   have hk1 : (k : Int) < (m.boxes.length : Int) := by omega
   clear hx ha hp
   rw [HAB.out]
   go_wp2_with fail
   refine (plain_any x.ty _ p HP).mono ?_
   rintro e w2 ⟨rfl, hw2⟩
   subst hw2
   cases p with
   | false =>
    have HE : Hid (er = 9 ∧ num = (k : Int)) := by
     have h1 := HN.out
     have ho : Vf.boxE x = 9 := HOE.out
     rw [ho, if_neg (by decide)] at h1
     cases h1
     exact ⟨rfl, rfl⟩
    go_wp2
    have hX := wh_set HWW.out (.int .i64 9) (.int .i64 0) (.int .i64 (k : Int))
    obtain ⟨⟨g0, g1, g2⟩, _⟩ := wh_cells ((Below.heap_alloc _ (.cells #[.int .i64 x.ty, .int .i64 x.cap] 50) _ (lt_of_block hX)).trans hX)
    refine bodyPost_ret (v := whV 9 0 (k : Int)) (by simp [results, Tryz.results32, go_sem, g0, g1, g2]) rfl ?_
    rw [HE.out.1, HE.out.2]
    exact ⟨rfl, grown0_new (grown0_setN (grown0_setN (grown0_setN HG.out (by omega) _ _) (by omega) _ _) (by omega) _ _) _⟩
   | true =>
    by_cases hc : x.cap < 1 ∨ 20 < x.cap
    ·have HE : Hid (er = 3 ∧ num = (k : Int)) := by
      have h1 := HN.out
      have ho : Vf.boxE x = 3 := by rw [HOE.out, if_neg (by decide), if_pos hc]
      rw [ho, if_neg (by decide)] at h1
      cases h1
      exact ⟨rfl, rfl⟩
     rcases hc with hc | hc
     ·have d1 : decide (x.cap < 1) = true := by simpa using hc
      go_wp2
      have hX := wh_set HWW.out (.int .i64 3) (.int .i64 0) (.int .i64 (k : Int))
      obtain ⟨⟨g0, g1, g2⟩, _⟩ := wh_cells ((Below.heap_alloc _ (.cells #[.int .i64 x.ty, .int .i64 x.cap] 50) _ (lt_of_block hX)).trans hX)
      refine bodyPost_ret (v := whV 3 0 (k : Int)) (by simp [results, Tryz.results32, go_sem, g0, g1, g2]) rfl ?_
      rw [HE.out.1, HE.out.2]
      exact ⟨rfl, grown0_new (grown0_setN (grown0_setN (grown0_setN HG.out (by omega) _ _) (by omega) _ _) (by omega) _ _) _⟩
     ·have d1 : decide (x.cap < 1) = false := by simp; omega
      have d2 : decide (20 < x.cap) = true := by simpa using hc
      go_wp2
      have hX := wh_set HWW.out (.int .i64 3) (.int .i64 0) (.int .i64 (k : Int))
      obtain ⟨⟨g0, g1, g2⟩, _⟩ := wh_cells ((Below.heap_alloc _ (.cells #[.int .i64 x.ty, .int .i64 x.cap] 50) _ (lt_of_block hX)).trans hX)
      refine bodyPost_ret (v := whV 3 0 (k : Int)) (by simp [results, Tryz.results32, go_sem, g0, g1, g2]) rfl ?_
      rw [HE.out.1, HE.out.2]
      exact ⟨rfl, grown0_new (grown0_setN (grown0_setN (grown0_setN HG.out (by omega) _ _) (by omega) _ _) (by omega) _ _) _⟩
    ·have d1 : decide (x.cap < 1) = false := by simp; omega
     have d2 : decide (20 < x.cap) = false := by simp; omega
     have HE : Hid ((er, num) = ((Vf.firstE Vf.boxE (m.boxes.drop (k + 1)) (k + 1)).1, ((Vf.firstE Vf.boxE (m.boxes.drop (k + 1)) (k + 1)).2 : Int))) := by
      have h1 := HN.out
      have ho : Vf.boxE x = 0 := by rw [HOE.out, if_neg (by decide), if_neg hc]
      rw [ho, if_pos rfl] at h1
      exact h1
     clear hc
     go_wp2
     go_roundw
     case rel => exact ⟨k + 1, by go_num, hlt, grown0_new HA.out.grown _, HE.out⟩
     case measure => simp [intOf]; omega
  ·have HE : Hid (er = 0 ∧ num = 0) := by
    have h1 := HA.out.rest
    rw [List.drop_eq_nil_of_le (by omega)] at h1
    cases h1
    exact ⟨rfl, rfl⟩
   go_wp2
   refine bodyPost_ret (v := whV 0 0 0) (by simp [results, Tryz.results32, go_sem, z0, z1, z2]) rfl ?_
   rw [HE.out.1, HE.out.2]
   exact ⟨rfl, grown0_setN (grown0_setN (grown0_setN HG.out (by omega) _ _) (by omega) _ _) (by omega) _ _⟩
structure TsAt (m : Vf.Md) (W0 : World) (er : Int) (k : Nat) (W : World) : Prop where
 le : k ≤ m.units.length
 grown : W0.grownBy W none
 rest : er = if (m.units.drop k).any (fun u => u.kind == 4) then 0 else 6
theorem tasks_any (m : Vf.Md) (ab au : Option Addr) (cb cu B : Nat) (w : World) (hmd : Hid (ModIn B w m ab au)) (hB : B ≤ w.heap.size) (er : Int) (hr : Hid (er = Vf.tasksE m)) :
  Calls Tryz.prog 34 #[mdV m ab au cb cu] w fun e w' => e = .returned (whV er 0 0) ∧ w.grownBy w' none := by
 have hfew := hmd.out.few.2
 obtain ⟨W0, hW0⟩ : ∃ W0 : World, (w.alloc (mdO m ab au cb cu)).alloc whZ = W0 := ⟨_, rfl⟩
 have HT : Hid (w.grownBy W0 none) := by rw [← hW0]; exact two_new _ _ _
 have HWZ : Hid (W0.heap[w.heap.size + 1]? = some whZ) := by rw [← hW0]; exact new1 _ _ _
 have HW0 := hide hW0
 clear hW0
 go_enter Tryz.func34, Tryz.ntmps34
 go_wp2
 go_loopw [9] (fun v wr => ∃ k : Nat, v = .int .i64 k ∧ TsAt m W0 er k wr) (fun v _ => m.units.length - (intOf v).toNat)
 case atStart => exact ⟨0, rfl, Nat.zero_le _, by rw [← HW0.out]; exact World.grownBy.refl _ _, hr.out⟩
 case round =>
  obtain ⟨k, rfl, hA⟩ := hrel
  have HA := hide hA
  have hk := hA.le
  have HG : Hid (w.grownBy wr none) := grown0_tr' HT.out HA.out.grown
  have hwz : wr.heap[w.heap.size + 1]? = some whZ := (kept0 HA.out.grown (lt_of_block HWZ.out)).trans HWZ.out
  obtain ⟨⟨z0, z1, z2⟩, y0, y1, y2⟩ := wh_cells hwz
  have hzl := lt_of_block hwz
  have HWW := hide hwz
  clear hA hwz
  by_cases hlt : k < m.units.length
  ·obtain ⟨u, hu⟩ : ∃ u, m.units[k]? = some u := ⟨_, List.getElem?_eq_getElem hlt⟩
   obtain ⟨b, off, al, cl, ac, cc, ha, hb, hui, u0, u1, u2, u3, u4, u5⟩ := (hmd.out.low (low0 HG.out hB)).units k u hu
   have HN : Hid (er = if (u.kind == 4 || (m.units.drop (k + 1)).any (fun u => u.kind == 4)) then 0 else 6) := by
    unfold Hid
    obtain ⟨hk', hte⟩ := List.getElem?_eq_some_iff.1 hu
    rw [HA.out.rest, List.drop_eq_getElem_cons hk', hte, List.any_cons]
   have HAU := hide ha
   have hk1 : (k : Int) < (m.units.length : Int) := by omega
   clear hu ha hui
   rw [HAU.out]
   cases e4 : (u.kind == 4) with
   | true =>
    have HE : Hid (er = 0) := by rw [HN.out, e4]; rfl
    go_wp2
    have hX := wh_set HWW.out (.int .i64 0) (.int .i64 0) (.int .i64 0)
    obtain ⟨⟨g0, g1, g2⟩, _⟩ := wh_cells ((Below.heap_alloc _ (unO u al ac cl cc) _ (lt_of_block hX)).trans hX)
    refine bodyPost_ret (v := whV 0 0 0) (by simp [results, Tryz.results34, go_sem, g0, g1, g2]) rfl ?_
    rw [HE.out]
    exact ⟨rfl, grown0_new (grown0_setN (grown0_setN (grown0_setN HG.out (by omega) _ _) (by omega) _ _) (by omega) _ _) _⟩
   | false =>
    have HE : Hid (er = if (m.units.drop (k + 1)).any (fun u => u.kind == 4) then 0 else 6) := by rw [HN.out, e4]; rfl
    go_wp2
    go_roundw
    case rel => exact ⟨k + 1, by go_num, hlt, grown0_new HA.out.grown _, HE.out⟩
    case measure => simp [intOf]; omega
  ·have HE : Hid (er = 6) := by unfold Hid; rw [HA.out.rest, List.drop_eq_nil_of_le (by omega)]; rfl
   go_wp2
   refine bodyPost_ret (v := whV 6 0 0) (by simp [results, Tryz.results34, go_sem, z0, z1, z2]) rfl ?_
   rw [HE.out]
   exact ⟨rfl, grown0_setN (grown0_setN (grown0_setN HG.out (by omega) _ _) (by omega) _ _) (by omega) _ _⟩
end Go.Proofs.YtekjhefmhhcboaaGreat
