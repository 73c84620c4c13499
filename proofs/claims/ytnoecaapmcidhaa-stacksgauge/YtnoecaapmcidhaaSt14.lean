/- StacksGauge: the mathematics and the walk of the law. -/
import Derived.Test.YtnoecaapmcidhaaSt13
namespace Go.Proofs.Ytnoecaapmcidhaa
open Go.RowKit

namespace Sk
theorem wds_len {most : Nat} {ws : List Int} {o : Op} (he : err most ws.length o = 0) : ((wds ws o).length : Int) = if o.kind = 1 then (ws.length : Int) + 1 else if o.kind = 2 then (ws.length : Int) - o.n else ws.length := by
  unfold err at he
  unfold wds
  by_cases k1 : o.kind = 1
  · simp [k1]
  · by_cases k2 : o.kind = 2
    · simp only [k2] at he ⊢
      simp at he ⊢
      omega
    · by_cases k3 : o.kind = 3
      · simp [k3]
      · simp [k1, k2, k3]

/-- ROOM IS NEVER MUCH TOO MUCH. -/
theorem gauge {mn most r h : Nat} {ws : List Int} {o : Op} (hf : Fits mn most ws.length r) (he : err most ws.length o = 0) (hw : ws.length ≤ h) (hI : r ≤ mn ∨ r ≤ 2 * h) :
    rm mn most r ws.length o ≤ mn ∨ rm mn most r ws.length o ≤ 2 * max h (wds ws o).length := by
  obtain ⟨h1, h2, h3, h4, h5⟩ := hf
  have hl := wds_len he
  unfold rm
  by_cases k1 : o.kind = 1
  · simp only [if_pos k1] at hl ⊢
    by_cases hr : ws.length = r
    · rw [if_pos hr]; omega
    · rw [if_neg hr]; omega
  · simp only [if_neg k1] at hl ⊢
    by_cases k2 : o.kind = 2
    · simp only [if_pos k2] at hl ⊢
      split <;> omega
    · simp only [if_neg k2] at hl ⊢
      omega

/-- The rooms so far are the first ones of all. -/
theorem go_prefix {mn most : Nat} : ∀ (l : List Op) (i : Nat) (ws : List Int) (r : Nat) (rs : List Nat), (go mn most l i ws r rs).2.2.1 = 0 → ∃ t, (go mn most l i ws r rs).2.1 = rs ++ t
  | [], _, _, _, rs, _ => ⟨[], by simp [go]⟩
  | o :: l, i, ws, r, rs, h => by
    rw [go] at h ⊢
    by_cases he : err most ws.length o = 0
    · rw [if_pos he] at h ⊢
      obtain ⟨t, ht⟩ := go_prefix l _ _ _ _ h
      exact ⟨_, by rw [ht, List.append_assoc]⟩
    · rw [if_neg he] at h; exact absurd h he

theorem go_at {mn most : Nat} {L : List Op} {k : Nat} {o : Op} (ho : L[k]? = some o) {ws : List Int} {r : Nat} {rs : List Nat} (h : (go mn most (L.drop k) k ws r rs).2.2.1 = 0) (hk : rs.length = k) :
    err most ws.length o = 0 ∧ (go mn most (L.drop k) k ws r rs).2.1[k]? = some (rm mn most r ws.length o) := by
  have he : err most ws.length o = 0 := by
    by_cases he : err most ws.length o = 0
    · exact he
    · rw [go_bad ho ws r rs he] at h; exact absurd h he
  refine ⟨he, ?_⟩
  rw [go_step ho ws r rs he] at h ⊢
  obtain ⟨t, ht⟩ := go_prefix _ _ _ _ _ h
  rw [ht, List.append_assoc, List.getElem?_append_right (by omega), hk]
  simp
end Sk

/-- What holds at the head of StacksGauge's loop. -/
structure GaAt (mn most : Nat) (L : List Sk.Op) (rs : List Nat) (w : World) (v2 : Value) (k r h : Nat) (ws : List Int) (rs0 : List Nat) (W : World) : Prop where
  le : k ≤ L.length
  count : rs0.length = k
  fits : Sk.Fits mn most ws.length r
  low : ws.length ≤ h
  high : h ≤ 400
  inv : r ≤ mn ∨ r ≤ 2 * h
  ok : (Sk.go mn most (L.drop k) k ws r rs0).2.2.1 = 0
  rooms : (Sk.go mn most (L.drop k) k ws r rs0).2.1 = rs
  below : Below w.heap.size w W
  own : W.ownsRow w.heap.size 3 1 v2 rs.length (nats rs)

def GaRel (mn most : Nat) (L : List Sk.Op) (rs : List Nat) (w : World) (v2 lv hv iv : Value) (W : World) : Prop :=
  ∃ (k r h : Nat) (ws : List Int) (rs0 : List Nat), lv = .int .i64 ws.length ∧ hv = .int .i64 h ∧ iv = .int .i64 k ∧ GaAt mn most L rs w v2 k r h ws rs0 W

/-- From one round to the next. -/
theorem GaAt.next {mn most : Nat} {L : List Sk.Op} {rs : List Nat} {w : World} {v2 : Value} {k r h h2 : Nat} {ws : List Int} {rs0 : List Nat} {W : World} {o : Sk.Op} (ha : GaAt mn most L rs w v2 k r h ws rs0 W) (ho : L[k]? = some o) (hh : h2 = max h (Sk.wds ws o).length) (ob : Obj) :
    GaAt mn most L rs w v2 (k + 1) (Sk.rm mn most r ws.length o) h2 (Sk.wds ws o) (rs0 ++ [Sk.rm mn most r ws.length o]) (W.alloc ob) := by
  subst hh
  obtain ⟨he, _⟩ := Sk.go_at ho ha.ok ha.count
  have hf := Sk.fits_next ha.fits he
  have hg := Sk.gauge ha.fits he ha.low ha.inv
  have h1 := ha.ok
  have h2 := ha.rooms
  rw [Sk.go_step ho ws r rs0 he] at h1 h2
  have := ha.high
  refine ⟨(List.getElem?_eq_some_iff.1 ho).1, by simp [ha.count], hf, by omega, ?_, hg, h1, h2, ha.below.alloc ha.below.size _, ha.own.alloc _⟩
  unfold Sk.Fits at hf
  omega



set_option maxRecDepth 100000 in
set_option maxHeartbeats 1000000 in
theorem stacksGauge_any (mn most : Int) (L : List Sk.Op) (a : Option Addr) (c : Nat) (w : World) (hin : Hid (OpsIn w.heap.size w L a)) (hlen : L.length ≤ 8796093022208) :
    Calls Try.prog 5 #[.int .i64 mn, .int .i64 most, .slice a L.length c] w fun e w' => e = .returned (.bool true) ∧ Below w.heap.size w w' := by
  obtain ⟨ws, rs, E, P, hgo⟩ : ∃ ws rs E P, Sk.play mn most L = (ws, rs, E, P) := ⟨_, _, _, _, rfl⟩
  have HGO := hide hgo
  clear hgo
  by_cases hE : E = 0
  · have hbnd : ¬ (mn < 1 ∨ most < mn ∨ 400 < most) := by
      intro hc
      have := HGO.out
      unfold Sk.play at this
      rw [if_pos hc] at this
      simp only [Prod.mk.injEq] at this
      omega
    obtain ⟨m, rfl⟩ : ∃ m : Nat, mn = m := ⟨mn.toNat, by omega⟩
    obtain ⟨t, rfl⟩ : ∃ t : Nat, most = t := ⟨most.toNat, by omega⟩
    have hgo1 : Sk.go m t L 0 [] m [] = (ws, rs, E, P) := by
      have := HGO.out
      unfold Sk.play at this
      rw [if_neg hbnd] at this
      simpa using this
    have hcnt : rs.length = L.length := by
      have := Sk.go_count (mn := m) (most := t) L 0 [] m [] (by rw [hgo1]; exact hE)
      rw [hgo1] at this
      simpa using this
    have HST1 : Hid ((Sk.go m t (L.drop 0) 0 [] m []).2.2.1 = 0 ∧ (Sk.go m t (L.drop 0) 0 [] m []).2.1 = rs) := by rw [List.drop_zero, hgo1]; exact ⟨hE, rfl⟩
    have e1 : ((E : Int) != 0) = false := by simp; omega
    have e2 : ((rs.length : Int) != (L.length : Int)) = false := by simp; omega
    have HCN := hide hcnt
    have q1 : 1 ≤ m := by omega
    have q2 : m ≤ t := by omega
    have q3 : t ≤ 400 := by omega
    clear hgo1 hcnt hE hbnd
    go_enter Try.func5, Try.ntmps5
    go_wp2_with fail
    refine (alive_any w).mono ?_
    rintro e w0 ⟨rfl, hb0⟩
    have HB0 := hide hb0
    clear hb0
    go_wp2_with fail
    refine (play_any m t L a c _ ((hin.out.on HB0.out).wide HB0.out.size) hlen ws rs E P HGO).mono ?_
    rintro e w1 ⟨v1, v2, rfl, o1, o2, hb1⟩
    have HO2 := hide o2
    have HB1 : Hid (Below w.heap.size w w1) := HB0.out.trans (hb1.mono HB0.out.size)
    obtain ⟨a2, c2, hv2⟩ : ∃ a2 c2, v2 = .slice a2 rs.length c2 := by
      rcases o2.2 with ⟨rfl, h0⟩ | ⟨g, cap, cur, rfl, _⟩
      · rw [h0]; exact ⟨_, _, rfl⟩
      · exact ⟨_, _, rfl⟩
    subst hv2
    clear o1 o2 hb1
    go_wp2
    go_loopw [10, 11, 38] (fun lv hv iv wr => GaRel m t L rs w (.slice a2 rs.length c2) lv hv iv wr) (fun _ _ iv _ => L.length - (intOf iv).toNat)
    case atStart => exact ⟨0, m, 0, [], [], rfl, rfl, rfl, Nat.zero_le _, rfl, by unfold Sk.Fits; simp; omega, Nat.le_refl _, by omega, .inl (Nat.le_refl _), HST1.out.1, HST1.out.2, HB1.out.alloc HB1.out.size _, own_base (HO2.out.alloc _) HB0.out.size⟩
    case round =>
      obtain ⟨k, r, h, ws1, rs0, rfl, rfl, rfl, hA⟩ := hrel
      have HA := hide hA
      have hk := hA.le
      have hsz := hA.below.size
      have hlow := hA.low
      have hhigh := hA.high
      clear hA
      by_cases hlt : k < L.length
      · obtain ⟨o, ho⟩ : ∃ o, L[k]? = some o := ⟨_, List.getElem?_eq_getElem hlt⟩
        obtain ⟨b, off, rfl, hbl, c0, c1, c2'⟩ := hin.out.on HA.out.below k o ho
        obtain ⟨he, hrk⟩ := Sk.go_at ho HA.out.ok HA.out.count
        rw [HA.out.rooms] at hrk
        have hf2 := Sk.fits_next HA.out.fits he
        have hg2 := Sk.gauge HA.out.fits he HA.out.low HA.out.inv
        have hl2 := Sk.wds_len he
        have HNX0 : Hid (∀ h2, h2 = max h (Sk.wds ws1 o).length → ∀ ob, GaAt m t L rs w (.slice a2 rs.length c2) (k + 1) (Sk.rm m t r ws1.length o) h2 (Sk.wds ws1 o) (rs0 ++ [Sk.rm m t r ws1.length o]) (wr.alloc ob)) := fun h2 hh ob => HA.out.next ho hh ob
        obtain ⟨g2, cap2, hv2, hc2⟩ := own_vals HA.out.own (by have := HCN.out; omega)
        have cr := hc2 k (.int .i64 (Sk.rm m t r ws1.length o)) (by simp [hrk])
        simp only [Value.slice.injEq] at hv2
        obtain ⟨rfl, _, rfl⟩ := hv2
        have hg2lt : g2 < wr.heap.size := (HA.out.own.lt g2 rfl).2
        obtain ⟨r2, hr2⟩ : ∃ r2, Sk.rm m t r ws1.length o = r2 := ⟨_, rfl⟩
        obtain ⟨ws2, hws2⟩ : ∃ ws2, Sk.wds ws1 o = ws2 := ⟨_, rfl⟩
        rw [hr2] at hf2 hg2 HNX0 cr
        rw [hws2] at hf2 hg2 hl2 HNX0
        have HNX := HNX0
        have HGA := hide hg2
        obtain ⟨p1, p2, p3, p4, p5⟩ := hf2
        have b0 : (0 : Int) ≤ (k : Int) := by omega
        have b1 : (k : Int) < (rs.length : Int) := by have := HCN.out; omega
        have t2 : ¬ (r2 : Int) < (m : Int) := by omega
        have t3 : ¬ (t : Int) < (r2 : Int) := by omega
        clear ho he hrk hg2 hc2 hr2 hws2 HNX0
        by_cases hk1 : o.kind = 1
        · have e3 : (o.kind == 1) = true := by simp [hk1]
          rw [if_pos hk1] at hl2
          have HLEN := hide hl2
          have t1 : ¬ (r2 : Int) < (ws1.length : Int) + 1 := by omega
          clear hl2 hk1
          by_cases hup : (h : Int) < (ws1.length : Int) + 1
          · have HN := hide (HNX.out ws2.length (by have := HLEN.out; omega))
            have HV : Hid ((ws2.length : Int) = (ws1.length : Int) + 1) := HLEN
            by_cases hrm : r2 ≤ m
            · clear HNX HLEN
              go_wp2
              go_roundw
              case rel => exact ⟨k + 1, r2, ws2.length, ws2, rs0 ++ [r2], by rw [HV.out], by rw [HV.out], by go_num, HN.out _⟩
              case measure => simp [intOf]; omega
            · have hb2 : ¬ 2 * ((ws1.length : Int) + 1) < (r2 : Int) := by have := HLEN.out; have := HGA.out; omega
              clear HNX HLEN
              go_wp2
              go_roundw
              case rel => exact ⟨k + 1, r2, ws2.length, ws2, rs0 ++ [r2], by rw [HV.out], by rw [HV.out], by go_num, HN.out _⟩
              case measure => simp [intOf]; omega
          · have HN := hide (HNX.out h (by have := HLEN.out; omega))
            have HV : Hid ((ws2.length : Int) = (ws1.length : Int) + 1) := HLEN
            by_cases hrm : r2 ≤ m
            · clear HNX HLEN
              go_wp2
              go_roundw
              case rel => exact ⟨k + 1, r2, h, ws2, rs0 ++ [r2], by rw [HV.out], rfl, by go_num, HN.out _⟩
              case measure => simp [intOf]; omega
            · have hb2 : ¬ 2 * (h : Int) < (r2 : Int) := by have := HLEN.out; have := HGA.out; omega
              clear HNX HLEN
              go_wp2
              go_roundw
              case rel => exact ⟨k + 1, r2, h, ws2, rs0 ++ [r2], by rw [HV.out], rfl, by go_num, HN.out _⟩
              case measure => simp [intOf]; omega
        · have e3 : (o.kind == 1) = false := by simp [hk1]
          rw [if_neg hk1] at hl2
          by_cases hk2 : o.kind = 2
          · have e4 : (o.kind == 2) = true := by simp [hk2]
            rw [if_pos hk2] at hl2
            have HLEN := hide hl2
            obtain ⟨x, hx⟩ : ∃ x, o.n = x := ⟨_, rfl⟩
            have t1 : ¬ (r2 : Int) < (ws1.length : Int) - o.n := by omega
            have x1 : 0 ≤ (ws1.length : Int) - o.n := by omega
            have x2 : (ws1.length : Int) - o.n ≤ 400 := by omega
            clear hl2 hk1 hk2 hx
            by_cases hup : (h : Int) < (ws1.length : Int) - o.n
            · have HN := hide (HNX.out ws2.length (by have := HLEN.out; omega))
              have HV : Hid ((ws2.length : Int) = (ws1.length : Int) - o.n) := HLEN
              by_cases hrm : r2 ≤ m
              · clear HNX HLEN
                go_wp2
                go_roundw
                case rel => exact ⟨k + 1, r2, ws2.length, ws2, rs0 ++ [r2], by rw [HV.out], by rw [HV.out], by go_num, HN.out _⟩
                case measure => simp [intOf]; omega
              · have hb2 : ¬ 2 * ((ws1.length : Int) - o.n) < (r2 : Int) := by have := HLEN.out; have := HGA.out; omega
                clear HNX HLEN
                go_wp2
                go_roundw
                case rel => exact ⟨k + 1, r2, ws2.length, ws2, rs0 ++ [r2], by rw [HV.out], by rw [HV.out], by go_num, HN.out _⟩
                case measure => simp [intOf]; omega
            · have HN := hide (HNX.out h (by have := HLEN.out; omega))
              have HV : Hid ((ws2.length : Int) = (ws1.length : Int) - o.n) := HLEN
              by_cases hrm : r2 ≤ m
              · clear HNX HLEN
                go_wp2
                go_roundw
                case rel => exact ⟨k + 1, r2, h, ws2, rs0 ++ [r2], by rw [HV.out], rfl, by go_num, HN.out _⟩
                case measure => simp [intOf]; omega
              · have hb2 : ¬ 2 * (h : Int) < (r2 : Int) := by have := HLEN.out; have := HGA.out; omega
                clear HNX HLEN
                go_wp2
                go_roundw
                case rel => exact ⟨k + 1, r2, h, ws2, rs0 ++ [r2], by rw [HV.out], rfl, by go_num, HN.out _⟩
                case measure => simp [intOf]; omega
          · have e4 : (o.kind == 2) = false := by simp [hk2]
            rw [if_neg hk2] at hl2
            have HLEN := hide hl2
            have t1 : ¬ (r2 : Int) < (ws1.length : Int) := by omega
            clear hl2 hk1 hk2
            have hup : ¬ (h : Int) < (ws1.length : Int) := by omega
            have HN := hide (HNX.out h (by have := HLEN.out; omega))
            have HV : Hid ((ws2.length : Int) = (ws1.length : Int)) := HLEN
            by_cases hrm : r2 ≤ m
            · clear HNX HLEN
              go_wp2
              go_roundw
              case rel => exact ⟨k + 1, r2, h, ws2, rs0 ++ [r2], by rw [HV.out], rfl, by go_num, HN.out _⟩
              case measure => simp [intOf]; omega
            · have hb2 : ¬ 2 * (h : Int) < (r2 : Int) := by have := HLEN.out; have := HGA.out; omega
              clear HNX HLEN
              go_wp2
              go_roundw
              case rel => exact ⟨k + 1, r2, h, ws2, rs0 ++ [r2], by rw [HV.out], rfl, by go_num, HN.out _⟩
              case measure => simp [intOf]; omega
      · go_wp2
        go_ret
        exact ⟨rfl, HA.out.below⟩
  · have hrs : rs = [] := by
      have h1 := Sk.play_none (mn := mn) (most := most) (l := L) (by rw [HGO.out]; exact hE)
      rw [HGO.out] at h1
      exact h1.2
    subst hrs
    have e1 : ((E : Int) != 0) = true := by simp; omega
    go_enter Try.func5, Try.ntmps5
    go_wp2_with fail
    refine (alive_any w).mono ?_
    rintro e w0 ⟨rfl, hb0⟩
    have HB0 := hide hb0
    clear hb0
    go_wp2_with fail
    refine (play_any mn most L a c _ ((hin.out.on HB0.out).wide HB0.out.size) hlen ws [] E P HGO).mono ?_
    rintro e w1 ⟨v1, v2, rfl, o1, o2, hb1⟩
    have HB1 : Hid (Below w.heap.size w w1) := HB0.out.trans (hb1.mono HB0.out.size)
    obtain ⟨a2, c2, hv2⟩ : ∃ a2 c2, v2 = .slice a2 0 c2 := by
      rcases o2.2 with ⟨rfl, h0⟩ | ⟨g, cap, cur, rfl, _⟩
      · exact ⟨_, _, rfl⟩
      · exact ⟨_, _, rfl⟩
    subst hv2
    clear o1 o2 hb1
    go_wp2
    go_ret
    exact ⟨rfl, HB1.out.alloc HB1.out.size _⟩

end Go.Proofs.Ytnoecaapmcidhaa
