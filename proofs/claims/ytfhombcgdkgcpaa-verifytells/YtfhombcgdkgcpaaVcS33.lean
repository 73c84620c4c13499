/- The document's answer, chapter 7, walked: WHAT ITS Verify ANSWERS. -/
import Derived.Test.YtfhombcgdkgcpaaVcS7
import Derived.Test.YtfhombcgdkgcpaaVcS31
import Derived.Test.YtfhombcgdkgcpaaVcS32
namespace Go.Proofs.Ytfhombcgdkgcpaa
open Go.RowKit
namespace Vf
theorem from_succ (m : Md) (n k : Nat) : from' m (n + 1) k = if (looks m k).1 = 0 then from' m n (k + 1) else looks m k := rfl
theorem from_add (m : Md) : ∀ (a b k : Nat), from' m (a + b) k = if (from' m a k).1 = 0 then from' m b (k + a) else from' m a k
  | 0, b, k => by rw [Nat.zero_add]; rfl
  | a + 1, b, k => by
    rw [show a + 1 + b = (a + b) + 1 by omega, from_succ, from_succ]
    by_cases h : (looks m k).1 = 0
    · rw [if_pos h, if_pos h, from_add m a b (k + 1), show k + 1 + a = k + (a + 1) by omega]
    · rw [if_neg h, if_neg h, if_neg h]
theorem from_zero (m : Md) : ∀ (n k : Nat), (from' m n k).1 = 0 → ∀ j, k ≤ j → j < k + n → (looks m j).1 = 0
  | 0, k, _, j, h1, h2 => by omega
  | n + 1, k, h, j, h1, h2 => by
    unfold from' at h
    by_cases h0 : (looks m k).1 = 0
    · rw [if_pos h0] at h
      by_cases e : j = k
      · rw [e]; exact h0
      · exact from_zero m n (k + 1) h j (by omega) (by omega)
    · rw [if_neg h0] at h
      exact absurd h h0
/-- Of boxes from the b-th on. -/
def fin (m : Md) (b : Nat) : Int × Int × Int := if (firstE (ownersE m) ((List.range m.boxes.length).drop b) b).1 = 0 then (0, 0, 0) else ((firstE (ownersE m) ((List.range m.boxes.length).drop b) b).1, 0, ((firstE (ownersE m) ((List.range m.boxes.length).drop b) b).2 : Int))
/-- Of units from the k-th on. -/
def cods (m : Md) (k : Nat) : Int × Int × Int := if (eachW (flowF m) (m.units.drop k) k).1 = 0 then fin m 0 else eachW (flowF m) (m.units.drop k) k
theorem verify_eq (m : Md) : verify m = if (from' m 4 0).1 = 0 then cods m 0 else from' m 4 0 := by
  unfold verify
  rw [from_add m 4 2 0]
  by_cases h : (from' m 4 0).1 = 0
  · rw [if_pos h, if_pos h]
    unfold cods fin
    show from' m 2 4 = _
    unfold from'
    simp only [looks, List.drop_zero]
    by_cases h4 : (eachW (flowF m) m.units 0).1 = 0
    · rw [if_pos h4, if_pos h4]
      unfold from'
      simp only [looks]
      by_cases h5 : (ownersW m).1 = 0
      · rw [if_pos h5]
        exact (if_pos (show (firstE (ownersE m) (List.range m.boxes.length) 0).1 = 0 from h5)).symm
      · rw [if_neg h5]
        exact (if_neg (show ¬ (firstE (ownersE m) (List.range m.boxes.length) 0).1 = 0 from h5)).symm
    · rw [if_neg h4, if_neg h4]
  · rw [if_neg h, if_neg h]
theorem cods_step {m : Md} {k : Nat} {u : Un} (h : m.units[k]? = some u) : cods m k = if (flowF m u).1 = 0 then cods m (k + 1) else ((flowF m u).1, (k : Int), ((flowF m u).2 : Int)) := by
  obtain ⟨hk, rfl⟩ := List.getElem?_eq_some_iff.1 h
  have e : eachW (flowF m) (m.units.drop k) k = if (flowF m m.units[k]).1 = 0 then eachW (flowF m) (m.units.drop (k + 1)) (k + 1) else ((flowF m m.units[k]).1, (k : Int), ((flowF m m.units[k]).2 : Int)) := by
    rw [List.drop_eq_getElem_cons hk]
    rfl
  unfold cods
  rw [e]
  by_cases h0 : (flowF m m.units[k]).1 = 0
  · rw [if_pos h0, if_pos h0]
  · rw [if_neg h0, if_neg h0, if_neg h0]
theorem cods_end {m : Md} {k : Nat} (h : m.units.length ≤ k) : cods m k = fin m 0 := by
  unfold cods
  rw [List.drop_eq_nil_of_le h]
  rfl
theorem fin_step {m : Md} {b : Nat} (h : b < m.boxes.length) : fin m b = if ownersE m b = 0 then fin m (b + 1) else (ownersE m b, 0, (b : Int)) := by
  have hr : (List.range m.boxes.length)[b]? = some b := by rw [List.getElem?_range h]
  unfold fin
  rw [firstE_drop _ hr]
  by_cases h0 : ownersE m b = 0
  · rw [if_pos h0, if_pos h0]
  · rw [if_neg h0, if_neg h0, if_neg h0]
theorem fin_end {m : Md} {b : Nat} (h : m.boxes.length ≤ b) : fin m b = (0, 0, 0) := by
  unfold fin
  rw [List.drop_eq_nil_of_le (by simpa using h)]
  rfl
end Vf

theorem tc_next {m : Vf.Md} (hR : Rt m) {k : Nat} {u : Vf.Un} (hu : m.units[k]? = some u) {q : Lk} (hq : q.1 = 26 ∨ q.1 = 27) : Vf.tc m q (k + 1) = Vf.tc m q k + if (u.kind == 4 && Vf.comesR m k q) = true then 1 else 0 := by
  rw [Vf.tc_succ, is_in hu, Vf.comesR_eq hR (List.getElem?_eq_some_iff.1 hu).1 hq]

abbrev whO (e u n : Int) : Obj := .cells #[.int .i64 e, .int .i64 u, .int .i64 n] 28 (0, 0)



set_option maxRecDepth 100000 in
set_option maxHeartbeats 8000000 in
theorem rverify_any (m : Vf.Md) (ab au : Option Addr) (cb cu B : Nat) (w : World) (hmd : Hid (ModIn B w m ab au)) (hB : B ≤ w.heap.size) (r : Int × Int × Int) (hr : Hid (r = Vf.verify m)) :
    Calls Try.prog 7 #[mdV m ab au cb cu] w fun e w' => e = .returned (whV r.1 r.2.1 r.2.2) ∧ w.grownBy w' none := by
  obtain ⟨W0, hW0⟩ : ∃ W0 : World, (w.alloc (amO m ab au cb cu)).alloc whZ = W0 := ⟨_, rfl⟩
  have HT : Hid (RfAt m ab au cb cu w W0) := by
    rw [← hW0]
    exact ⟨two_new _ _ _, (Below.heap_alloc _ _ _ (by simp)).trans (heap_alloc_new w _), new1 _ _ _⟩
  obtain ⟨⟨fe, fu, fn⟩, hF⟩ : ∃ F, F = Vf.from' m 4 0 := ⟨_, rfl⟩
  have HF := hide hF
  have HRV : Hid (r = if fe = 0 then Vf.cods m 0 else (fe, fu, fn)) := by
    unfold Hid
    rw [hr.out, Vf.verify_eq, ← hF]
  have HRT : Hid (fe = 0 → Rt m ∧ m.boxes.length ≤ 30) := fun h0 => by
    have h1 : (Vf.from' m 4 0).1 = 0 := by rw [← hF]; exact h0
    have hz := Vf.from_zero m 4 0 h1
    exact rt_of (hz 0 (by omega) (by omega)) (hz 1 (by omega) (by omega)) (hz 2 (by omega) (by omega))
  obtain ⟨m0, m1, _⟩ := am_cells HT.out.mb
  obtain ⟨⟨z0, z1, z2⟩, y0, y1, y2⟩ := wh_cells HT.out.wz
  have hzl := lt_of_block HT.out.wz
  have hzm : w.heap.size < _ := lt_of_block HT.out.mb
  clear hF hr
  go_enter Try.func7, Try.ntmps7
  go_wp2_with fail
  refine (rform_any m ab au cb cu B _ (hide (hmd.out.low (low0 HT.out.grown hB))) (by have := HT.out.grown.size; omega) (fe, fu, fn) HF).mono ?_
  rintro e w2 ⟨rfl, hg2⟩
  have HA2 : Hid (RfAt m ab au cb cu w w2) := HT.out.next hg2
  clear m0 m1 z0 z1 z2 y0 y1 y2 hzl hzm hg2 HT HF
  obtain ⟨m0, m1, _⟩ := am_cells HA2.out.mb
  obtain ⟨⟨z0, z1, z2⟩, y0, y1, y2⟩ := wh_cells HA2.out.wz
  have hzl := lt_of_block HA2.out.wz
  have hzm : w.heap.size < _ := lt_of_block HA2.out.mb
  by_cases h0 : fe = 0
  · have e0 : (fe != 0) = false := by simpa using h0
    obtain ⟨hRt, hnb⟩ := HRT.out h0
    have HR := hide hRt
    have hmu := hRt.units
    have HE0 : Hid (r = Vf.cods m 0) := by have := HRV.out; rw [if_pos h0] at this; exact this
    clear h0 HRV HRT hRt
    go_wp2_with fail
    go_loopw [20] (fun v wr => ∃ k : Nat, v = .int .i64 k ∧ k ≤ m.units.length ∧ RfAt m ab au cb cu w wr ∧ r = Vf.cods m k) (fun v _ => m.units.length - (intOf v).toNat)
    case atStart => exact ⟨0, rfl, Nat.zero_le _, HA2.out.new _, HE0.out⟩
    case round =>
      clear m0 m1 z0 z1 z2 y0 y1 y2 hzl hzm HA2 HE0
      obtain ⟨k, rfl, hk, hA, hby⟩ := hrel
      have HA := hide hA
      have HBY := hide hby
      clear hA hby
      obtain ⟨m0, m1, _⟩ := am_cells HA.out.mb
      obtain ⟨⟨z0, z1, z2⟩, y0, y1, y2⟩ := wh_cells HA.out.wz
      have hzl := lt_of_block HA.out.wz
      have hzm : w.heap.size < _ := lt_of_block HA.out.mb
      by_cases hkl : k < m.units.length
      · obtain ⟨u, hu⟩ : ∃ u, m.units[k]? = some u := ⟨_, List.getElem?_eq_getElem hkl⟩
        have hmw : ModIn B wr m ab au := hmd.out.low (low0 HA.out.grown hB)
        obtain ⟨bb, off, al, cl, ac, cc, ha, hbb, hui, u0, u1, u2, u3, u4, u5⟩ := hmw.units k u hu
        obtain ⟨e1, n1, hen⟩ : ∃ (e1 n1 : Int), (e1, n1) = ((Vf.flowF m u).1, ((Vf.flowF m u).2 : Int)) := ⟨_, _, rfl⟩
        obtain ⟨un, hunn⟩ : ∃ un : Int, un = if e1 = 0 then 0 else (k : Int) := ⟨_, rfl⟩
        have hen1 : e1 = (Vf.flowF m u).1 := congrArg (fun x : Int × Int => x.1) hen
        have hen2 : n1 = ((Vf.flowF m u).2 : Int) := congrArg (fun x : Int × Int => x.2) hen
        have HN : Hid (r = if e1 = 0 then Vf.cods m (k + 1) else (e1, (k : Int), n1)) := by
          unfold Hid
          rw [HBY.out, Vf.cods_step hu, hen1, hen2]
        have HEN := hide hen
        have HUN := hide hunn
        have HU := hide hu
        have HMW := hide hmw
        have HUI := hide hui
        have V0 := hide u0
        have V1 := hide u1
        have V2 := hide u2
        have V3 := hide u3
        have V4 := hide u4
        have V5 := hide u5
        have hki : (k : Int) < (m.units.length : Int) := by omega
        have hBw : B ≤ wr.heap.size := by have := HA.out.grown.size; omega
        clear hu hmw hui hen hen1 hen2 hunn u0 u1 u2 u3 u4 u5 HBY
        subst ha
        go_wp2_with fail
        refine (rcode_any ⟨m, u, ab, some ⟨bb, off, none⟩, al, ac, cb, cu, cl, cc, 0⟩ B k bb off wr HMW hBw HU (hide rfl) hbb HUI V0.out V1.out V2.out V3.out V4.out V5.out HR e1 un n1 HEN HUN).mono ?_
        rintro e w3 ⟨rfl, hg3⟩
        have HA3 : Hid (RfAt m ab _ cb cu w w3) := HA.out.next hg3
        clear m0 m1 z0 z1 z2 y0 y1 y2 hzl hzm hg3 HA HMW HUI V0 V1 V2 V3 V4 V5
        obtain ⟨m0, m1, _⟩ := am_cells HA3.out.mb
        obtain ⟨⟨z0, z1, z2⟩, y0, y1, y2⟩ := wh_cells HA3.out.wz
        have hzl := lt_of_block HA3.out.wz
        have hzm : w.heap.size < _ := lt_of_block HA3.out.mb
        by_cases h1 : e1 = 0
        · have ee : (e1 != 0) = false := by simpa using h1
          have HE : Hid (r = Vf.cods m (k + 1)) := by have := HN.out; rw [if_pos h1] at this; exact this
          clear h1 HN
          go_wp2
          go_roundw
          case rel => exact ⟨k + 1, by go_num, hkl, HA3.out.new _, HE.out⟩
          case measure => simp [intOf]; omega
        · have ee : (e1 != 0) = true := by simpa using h1
          have HE : Hid (r = (e1, un, n1)) := by have h2 := HN.out; rw [if_neg h1] at h2; have h3 := HUN.out; rw [if_neg h1] at h3; rw [h2, h3]; rfl
          clear h1 HN
          go_wp2
          have hX := wh_set HA3.out.wz (.int .i64 e1) (.int .i64 un) (.int .i64 n1)
          obtain ⟨⟨g0, g1, g2⟩, _⟩ := wh_cells ((Below.heap_alloc _ (whO e1 un n1) _ (lt_of_block hX)).trans hX)
          refine bodyPost_ret (v := whV e1 un n1) (by simp [results, Try.results7, go_sem, g0, g1, g2]) rfl ?_
          rw [HE.out]
          exact ⟨rfl, grown0_new (grown0_setN (grown0_setN (grown0_setN HA3.out.grown (by omega) _ _) (by omega) _ _) (by omega) _ _) _⟩
      · have HE1 : Hid (r = Vf.fin m 0) := by unfold Hid; rw [HBY.out, Vf.cods_end (by omega)]
        clear HBY
        go_wp2_with fail
        go_loopw [34] (fun v wr => ∃ b : Nat, v = .int .i64 b ∧ b ≤ m.boxes.length ∧ RfAt m ab au cb cu w wr ∧ r = Vf.fin m b) (fun v _ => m.boxes.length - (intOf v).toNat)
        case atStart => exact ⟨0, rfl, Nat.zero_le _, HA.out, HE1.out⟩
        case round =>
          clear m0 m1 z0 z1 z2 y0 y1 y2 hzl hzm HA HE1
          obtain ⟨b, rfl, hb, hA, hby⟩ := hrel
          have HA := hide hA
          have HBY := hide hby
          clear hA hby
          obtain ⟨m0, m1, _⟩ := am_cells HA.out.mb
          obtain ⟨⟨z0, z1, z2⟩, y0, y1, y2⟩ := wh_cells HA.out.wz
          have hzl := lt_of_block HA.out.wz
          have hzm : w.heap.size < _ := lt_of_block HA.out.mb
          by_cases hbl : b < m.boxes.length
          · have HN : Hid (r = if Vf.ownersE m b = 0 then Vf.fin m (b + 1) else (Vf.ownersE m b, 0, (b : Int))) := by unfold Hid; rw [HBY.out, Vf.fin_step hbl]
            have hbi : (b : Int) < (m.boxes.length : Int) := by omega
            clear HBY
            go_wp2_with fail
            go_loopw [7, 8, 40] (fun v7 v8 v wr => ∃ (k s t : Nat), v = .int .i64 k ∧ v7 = .int .i64 s ∧ v8 = .int .i64 t ∧ k ≤ m.units.length ∧ RfAt m ab au cb cu w wr ∧ s = Vf.tc m (26, (b : Int)) k ∧ t = Vf.tc m (27, (b : Int)) k) (fun _ _ v _ => m.units.length - (intOf v).toNat)
            case atStart => exact ⟨0, 0, 0, rfl, rfl, rfl, Nat.zero_le _, HA.out, rfl, rfl⟩
            case round =>
              clear m0 m1 z0 z1 z2 y0 y1 y2 hzl hzm HA
              obtain ⟨k, s, t, rfl, rfl, rfl, hk2, hA, hs, ht⟩ := hrel
              have HA := hide hA
              have HS := hide hs
              have HTT := hide ht
              have hs30 : s ≤ 30 := by have := Vf.tc_le m (26, (b : Int)) k; omega
              have ht30 : t ≤ 30 := by have := Vf.tc_le m (27, (b : Int)) k; omega
              clear hA hs ht
              obtain ⟨m0, m1, _⟩ := am_cells HA.out.mb
              obtain ⟨⟨z0, z1, z2⟩, y0, y1, y2⟩ := wh_cells HA.out.wz
              have hzl := lt_of_block HA.out.wz
              have hzm : w.heap.size < _ := lt_of_block HA.out.mb
              by_cases hk3 : k < m.units.length
              · obtain ⟨u, hu⟩ : ∃ u, m.units[k]? = some u := ⟨_, List.getElem?_eq_getElem hk3⟩
                have hmw : ModIn B wr m ab au := hmd.out.low (low0 HA.out.grown hB)
                obtain ⟨bb, off, al, cl, ac, cc, ha, hbb, hui, u0, u1, u2, u3, u4, u5⟩ := hmw.units k u hu
                have hki : (k : Int) < (m.units.length : Int) := by omega
                have HS2 : Hid (Vf.tc m (26, (b : Int)) (k + 1) = s + if (u.kind == 4 && Vf.comesR m k (26, (b : Int))) = true then 1 else 0) := by unfold Hid; rw [tc_next HR.out hu (.inl rfl), HS.out]
                have HT2 : Hid (Vf.tc m (27, (b : Int)) (k + 1) = t + if (u.kind == 4 && Vf.comesR m k (27, (b : Int))) = true then 1 else 0) := by unfold Hid; rw [tc_next HR.out hu (.inr rfl), HTT.out]
                have hbw : bb < wr.heap.size := by have := HA.out.grown.size; omega
                clear hu hmw hui HS HTT
                cases e4 : (u.kind == 4) with
                | false =>
                  rw [e4] at HS2 HT2
                  have HS3 : Hid (s = Vf.tc m (26, (b : Int)) (k + 1)) := HS2.out.symm
                  have HT3 : Hid (t = Vf.tc m (27, (b : Int)) (k + 1)) := HT2.out.symm
                  clear HS2 HT2
                  subst ha
                  go_wp2
                  go_roundw
                  case rel => exact ⟨k + 1, s, t, by go_num, rfl, rfl, hk3, HA.out.new _, HS3.out, HT3.out⟩
                  case measure => simp [intOf]; omega
                | true =>
                  rw [e4] at HS2 HT2
                  obtain ⟨c1, hc1⟩ : ∃ c1, c1 = Vf.comesR m k (26, (b : Int)) := ⟨_, rfl⟩
                  obtain ⟨c2, hc2⟩ : ∃ c2, c2 = Vf.comesR m k (27, (b : Int)) := ⟨_, rfl⟩
                  rw [← hc1] at HS2
                  rw [← hc2] at HT2
                  have HC1 := hide hc1
                  have HC2 := hide hc2
                  have HA2 : Hid (RfAt m ab au cb cu w (wr.alloc (unO u al ac cl cc))) := HA.out.new _
                  have HUB : Hid ((wr.alloc (unO u al ac cl cc)).heap[wr.heap.size]? = some (unO u al ac cl cc)) := heap_alloc_new wr _
                  clear hc1 hc2
                  subst ha
                  go_wp2_with fail
                  refine (rcomes_any m ab _ cb cu B k 26 (b : Int) _ (hide (hmd.out.low (low0 HA2.out.grown hB))) (by have := HA2.out.grown.size; omega) HR hk3 c1 HC1).mono ?_
                  rintro e w4 ⟨rfl, hg4⟩
                  have HA4 : Hid (RfAt m ab _ cb cu w w4) := HA2.out.next hg4
                  have HUB4 : Hid (w4.heap[wr.heap.size]? = some (unO u al ac cl cc)) := (kept0 hg4 (lt_of_block HUB.out)).trans HUB.out
                  clear m0 m1 z0 z1 z2 y0 y1 y2 hzl hzm hg4 HA HA2 HUB u0 u1 u2 u3 u4 u5 hbw
                  obtain ⟨m0, m1, _⟩ := am_cells HA4.out.mb
                  obtain ⟨⟨z0, z1, z2⟩, y0, y1, y2⟩ := wh_cells HA4.out.wz
                  have hzl := lt_of_block HA4.out.wz
                  have hzm : w.heap.size < _ := lt_of_block HA4.out.mb
                  have q0 := (un_cells HUB4.out).1
                  have lq := lt_of_block HUB4.out
                  cases c1 with
                  | false =>
                    have HS3 : Hid (s = Vf.tc m (26, (b : Int)) (k + 1)) := HS2.out.symm
                    clear HS2
                    go_wp2_with fail
                    refine (rcomes_any m ab _ cb cu B k 27 (b : Int) _ (hide (hmd.out.low (low0 HA4.out.grown hB))) (by have := HA4.out.grown.size; omega) HR hk3 c2 HC2).mono ?_
                    rintro e w5 ⟨rfl, hg5⟩
                    have HA5 : Hid (RfAt m ab _ cb cu w w5) := HA4.out.next hg5
                    clear m0 m1 z0 z1 z2 y0 y1 y2 hzl hzm hg5 HA4 HUB4 q0 lq
                    cases c2 with
                    | false =>
                      have HT3 : Hid (t = Vf.tc m (27, (b : Int)) (k + 1)) := HT2.out.symm
                      clear HT2
                      go_wp2
                      go_roundw
                      case rel => exact ⟨k + 1, s, t, by go_num, by go_num, by go_num, hk3, HA5.out, HS3.out, HT3.out⟩
                      case measure => simp [intOf]; omega
                    | true =>
                      have HT3 : Hid (t + 1 = Vf.tc m (27, (b : Int)) (k + 1)) := HT2.out.symm
                      clear HT2
                      go_wp2
                      go_roundw
                      case rel => exact ⟨k + 1, s, t + 1, by go_num, by go_num, by go_num, hk3, HA5.out, HS3.out, HT3.out⟩
                      case measure => simp [intOf]; omega
                  | true =>
                    have HS3 : Hid (s + 1 = Vf.tc m (26, (b : Int)) (k + 1)) := HS2.out.symm
                    clear HS2
                    go_wp2_with fail
                    refine (rcomes_any m ab _ cb cu B k 27 (b : Int) _ (hide (hmd.out.low (low0 HA4.out.grown hB))) (by have := HA4.out.grown.size; omega) HR hk3 c2 HC2).mono ?_
                    rintro e w5 ⟨rfl, hg5⟩
                    have HA5 : Hid (RfAt m ab _ cb cu w w5) := HA4.out.next hg5
                    clear m0 m1 z0 z1 z2 y0 y1 y2 hzl hzm hg5 HA4 HUB4 q0 lq
                    cases c2 with
                    | false =>
                      have HT3 : Hid (t = Vf.tc m (27, (b : Int)) (k + 1)) := HT2.out.symm
                      clear HT2
                      go_wp2
                      go_roundw
                      case rel => exact ⟨k + 1, (s + 1), t, by go_num, by go_num, by go_num, hk3, HA5.out, HS3.out, HT3.out⟩
                      case measure => simp [intOf]; omega
                    | true =>
                      have HT3 : Hid (t + 1 = Vf.tc m (27, (b : Int)) (k + 1)) := HT2.out.symm
                      clear HT2
                      go_wp2
                      go_roundw
                      case rel => exact ⟨k + 1, (s + 1), t + 1, by go_num, by go_num, by go_num, hk3, HA5.out, HS3.out, HT3.out⟩
                      case measure => simp [intOf]; omega
              · have hke : k = m.units.length := by omega
                by_cases hown : 1 < s ∨ 1 < t
                · have HE : Hid (r = (8, 0, (b : Int))) := by
                    have h1 := HN.out
                    have h2 : Vf.ownersE m b = 8 := by unfold Vf.ownersE; rw [← hke, ← HS.out, ← HTT.out, if_pos hown]
                    rw [h2, if_neg (by decide)] at h1
                    exact h1
                  clear hke HN HS HTT
                  by_cases h1 : 1 < s
                  · have d1 : decide ((1 : Int) < (s : Int)) = true := by simp; omega
                    clear hown h1
                    go_wp2
                    refine bodyPost_ret (v := whV 8 0 (b : Int)) (by simp [results, Try.results7, go_sem, z0, z1, z2]) rfl ?_
                    rw [HE.out]
                    exact ⟨rfl, grown0_setN (grown0_setN (grown0_setN HA.out.grown (by omega) _ _) (by omega) _ _) (by omega) _ _⟩
                  · have d1 : decide ((1 : Int) < (s : Int)) = false := by simp; omega
                    have d2 : decide ((1 : Int) < (t : Int)) = true := by have := hown.resolve_left h1; simp; omega
                    clear hown h1
                    go_wp2
                    refine bodyPost_ret (v := whV 8 0 (b : Int)) (by simp [results, Try.results7, go_sem, z0, z1, z2]) rfl ?_
                    rw [HE.out]
                    exact ⟨rfl, grown0_setN (grown0_setN (grown0_setN HA.out.grown (by omega) _ _) (by omega) _ _) (by omega) _ _⟩
                · have HE : Hid (r = Vf.fin m (b + 1)) := by
                    have h1 := HN.out
                    have h2 : Vf.ownersE m b = 0 := by unfold Vf.ownersE; rw [← hke, ← HS.out, ← HTT.out, if_neg hown]
                    rw [h2, if_pos rfl] at h1
                    exact h1
                  have d1 : decide ((1 : Int) < (s : Int)) = false := by simp; omega
                  have d2 : decide ((1 : Int) < (t : Int)) = false := by simp; omega
                  clear hke HN HS HTT hown
                  go_wp2
                  go_roundw
                  case rel => exact ⟨b + 1, by go_num, hbl, HA.out, HE.out⟩
                  case measure => simp [intOf]; omega
          · have HE : Hid (r = (0, 0, 0)) := by unfold Hid; rw [HBY.out, Vf.fin_end (by omega)]
            clear HBY
            go_wp2
            refine bodyPost_ret (v := whV 0 0 0) (by simp [results, Try.results7, go_sem, z0, z1, z2]) rfl ?_
            rw [HE.out]
            exact ⟨rfl, grown0_setN (grown0_setN (grown0_setN HA.out.grown (by omega) _ _) (by omega) _ _) (by omega) _ _⟩
  · have e0 : (fe != 0) = true := by simpa using h0
    have HE : Hid (r = (fe, fu, fn)) := by have := HRV.out; rw [if_neg h0] at this; exact this
    clear h0 HRV HRT
    go_wp2
    have hX := wh_set HA2.out.wz (.int .i64 fe) (.int .i64 fu) (.int .i64 fn)
    obtain ⟨⟨g0, g1, g2⟩, _⟩ := wh_cells ((Below.heap_alloc _ (whO fe fu fn) _ (lt_of_block hX)).trans hX)
    refine bodyPost_ret (v := whV fe fu fn) (by simp [results, Try.results7, go_sem, g0, g1, g2]) rfl ?_
    rw [HE.out]
    exact ⟨rfl, grown0_new (grown0_setN (grown0_setN (grown0_setN HA2.out.grown (by omega) _ _) (by omega) _ _) (by omega) _ _) _⟩

end Go.Proofs.Ytfhombcgdkgcpaa
