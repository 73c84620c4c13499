/- MailWider: the walk of the law. -/
import Derived.Test.YtbpebecfnbdckaaMl9
namespace Go.Proofs.Ytbpebecfnbdckaa.Mb
open Go.RowKit

theorem gots_ne (w : World) : Sem.run Try.prog (binOp BinOp.neq 30 (.agg #[.bool false, .int .i64 0]) (.agg #[.bool true, .int .i64 0])) w = .ok (.bool true) w := by
  simp [go_sem]

/-- What holds while the two boxes are held against each other. -/
structure WiAt (n m : Nat) (L : List Ml.Op) (w : World) (k : Nat) (s : Bool) (W : World) : Prop where
  le : k ≤ L.length
  eq : s = true → (Ml.upto n L k).2 = (Ml.upto m L k).2
  below : Below w.heap.size w W

theorem WiAt.off {n m : Nat} {L : List Ml.Op} {w : World} {k : Nat} {s : Bool} {W W' : World} (h : WiAt n m L w k s W) (hk : k < L.length) (hb : Below W.heap.size W W') : WiAt n m L w (k + 1) false W' := ⟨hk, fun e => by simp at e, h.below.trans (hb.mono h.below.size)⟩
theorem WiAt.on {n m : Nat} {L : List Ml.Op} {w : World} {k : Nat} {W W' : World} {o : Ml.Op} (h : WiAt n m L w k true W) (ho : L[k]? = some o) (hw : Ml.wds n (Ml.upto n L k).2 o = Ml.wds m (Ml.upto n L k).2 o) (hb : Below W.heap.size W W') : WiAt n m L w (k + 1) true W' :=
  ⟨(List.getElem?_eq_some_iff.1 ho).1, fun _ => by rw [Ml.upto_next ho, Ml.upto_next ho, ← h.eq rfl]; exact hw, h.below.trans (hb.mono h.below.size)⟩

theorem below_op (W : World) (ob : Obj) (d : Nat) : Below W.heap.size W ((W.alloc ob).drewN d) := below_drewN' ((Below.refl _ W).alloc (Nat.le_refl _) _) d


set_option maxRecDepth 100000 in
set_option maxHeartbeats 1000000 in
theorem mailWider_any (n mo : Int) (L : List Ml.Op) (a : Option Addr) (c : Nat) (w : World) (hin : Hid (OpsIn w.heap.size w L a)) (hlen : L.length ≤ 8796093022200) :
    Calls Try.prog 5 #[.int .i64 n, .int .i64 mo, .slice a L.length c] w fun e w' => e = .returned (.bool true) ∧ Below w.heap.size w w' := by
  by_cases h1 : n < 1
  · skip
    go_enter Try.func5, Try.ntmps5
    go_wp2_with fail
    refine (alive_any w).mono ?_
    rintro e w1 ⟨rfl, hb1⟩
    go_wp2
    go_ret
    exact ⟨rfl, hb1⟩
  by_cases h2 : mo < 0
  · skip
    go_enter Try.func5, Try.ntmps5
    go_wp2_with fail
    refine (alive_any w).mono ?_
    rintro e w1 ⟨rfl, hb1⟩
    go_wp2
    go_ret
    exact ⟨rfl, hb1⟩
  by_cases h3 : 20 < n
  · skip
    go_enter Try.func5, Try.ntmps5
    go_wp2_with fail
    refine (alive_any w).mono ?_
    rintro e w1 ⟨rfl, hb1⟩
    go_wp2
    go_ret
    exact ⟨rfl, hb1⟩
  by_cases h4 : 20 - n < mo
  · skip
    go_enter Try.func5, Try.ntmps5
    go_wp2_with fail
    refine (alive_any w).mono ?_
    rintro e w1 ⟨rfl, hb1⟩
    go_wp2
    go_ret
    exact ⟨rfl, hb1⟩
  obtain ⟨p, rfl⟩ : ∃ p : Nat, n = p := ⟨n.toNat, by omega⟩
  obtain ⟨q, rfl⟩ : ∃ q : Nat, mo = q := ⟨mo.toNat, by omega⟩
  obtain ⟨gs, ws, hgs, hws⟩ : ∃ gs ws, gs = (Ml.upto p L L.length).1 ∧ ws = (Ml.upto p L L.length).2 := ⟨_, _, rfl, rfl⟩
  obtain ⟨gt, wt, hgt, hwt⟩ : ∃ gs ws, gs = (Ml.upto (p + q) L L.length).1 ∧ ws = (Ml.upto (p + q) L L.length).2 := ⟨_, _, rfl, rfl⟩
  have HGO : Hid (Ml.play p L = (gs, ws, 0)) := by unfold Hid Ml.play; rw [if_neg (by omega)]; simp [hgs, hws]
  have HGO2 : Hid (Ml.play ((p : Int) + (q : Int)) L = (gt, wt, 0)) := by unfold Hid Ml.play; rw [if_neg (by omega)]; simp [hgt, hwt, show ((p : Int) + (q : Int)).toNat = p + q by omega]
  have hgl : gs.length = L.length := by rw [hgs, Ml.upto_len _ (Nat.le_refl _)]
  have htl : gt.length = L.length := by rw [hgt, Ml.upto_len _ (Nat.le_refl _)]
  have hwl : ws.length ≤ 20 := Ml.play_few HGO.out
  have HGS := hide hgs
  have HGT := hide hgt
  have HWS := hide hws
  have HWT := hide hwt
  have e2 : ((gs.length : Int) != (L.length : Int)) = false := by simp; omega
  have e3 : ((gt.length : Int) != (L.length : Int)) = false := by simp; omega
  clear hgs hgt hws hwt
  go_enter Try.func5, Try.ntmps5
  go_wp2_with fail
  refine (alive_any w).mono ?_
  rintro e w0 ⟨rfl, hb0⟩
  have HB0 := hide hb0
  clear hb0
  go_wp2_with fail
  refine (play_any p L a c _ ((hin.out.on HB0.out).wide HB0.out.size) hlen gs ws 0 HGO).mono ?_
  rintro e w1 ⟨v1, v2, rfl, o1, o2, hb1⟩
  have HO2 := hide o2
  have HO1 := hide o1
  have HB1 : Hid (Below w.heap.size w w1) := HB0.out.trans (hb1.mono HB0.out.size)
  clear o1 o2 hb1
  go_wp2_with fail
  refine (play_any ((p : Int) + (q : Int)) L a c _ ((hin.out.on HB1.out).wide HB1.out.size) hlen gt wt 0 HGO2).mono ?_
  rintro e w2 ⟨v3, v4, rfl, o3, o4, hb2⟩
  have HO1b := hide (own_keep HO1.out (fun j hj => hb2.block j (HO1.out.lt j hj).2))
  have HO2b := hide (own_keep HO2.out (fun j hj => hb2.block j (HO2.out.lt j hj).2))
  have HO3 := hide o3
  have HO4 := hide o4
  have HB2 : Hid (Below w.heap.size w w2) := HB1.out.trans (hb2.mono HB1.out.size)
  obtain ⟨a1, k1, hv1, _⟩ := own_gots HO1b.out
  obtain ⟨a3, k3, hv3, _⟩ := own_gots o3
  subst hv1 hv3
  clear o3 o4 hb2
  go_wp2
  go_loopw [13, 72] (fun s i wr => ∃ (k : Nat) (sm : Bool), i = .int .i64 k ∧ s = .bool sm ∧ WiAt p (p + q) L w2 k sm wr) (fun _ i _ => L.length - (intOf i).toNat)
  case atStart => exact ⟨0, true, rfl, rfl, Nat.zero_le _, fun _ => rfl, Below.refl _ _⟩
  case round =>
    obtain ⟨k, sm, rfl, rfl, hA⟩ := hrel
    have HA := hide hA
    have hk := hA.le
    have hsz := hA.below.size
    have hBW : Below w.heap.size w wr := HB2.out.trans (hA.below.mono HB2.out.size)
    have HBW := hide hBW
    clear hA hBW
    by_cases hlt : k < L.length
    · obtain ⟨o, ho⟩ : ∃ o, L[k]? = some o := ⟨_, List.getElem?_eq_getElem hlt⟩
      obtain ⟨b, off, rfl, hbl, c0, c1⟩ := hin.out.on HBW.out k o ho
      have HOP := hide ho
      have hbw := HBW.out.size
      cases sm with
      | false =>
        clear ho
        go_wp2
        go_quiet (fail)
        go_wp2
        go_roundw
        case rel => exact ⟨k + 1, false, by go_num, rfl, HA.out.off hlt (below_op _ _ _)⟩
        case measure => simp [intOf]; omega
      | true =>
        have hg1 := Ml.upto_get (n := p) ho L.length hlt (Nat.le_refl _)
        have hg2 := Ml.upto_get (n := p + q) ho L.length hlt (Nat.le_refl _)
        rw [← HGS.out] at hg1
        rw [← HGT.out, ← HA.out.eq rfl] at hg2
        obtain ⟨_, _, hv1, r1⟩ := own_gots (own_keep HO1b.out (fun j hj => HA.out.below.block j (HO1b.out.lt j hj).2))
        obtain ⟨_, _, hv3, r3⟩ := own_gots (own_keep HO3.out (fun j hj => HA.out.below.block j (HO3.out.lt j hj).2))
        obtain ⟨b1, hb1, hb1l, x1, x2⟩ := r1 k _ hg1
        obtain ⟨b3, hb3, hb3l, x3, x4⟩ := r3 k _ hg2
        simp only [Value.slice.injEq, true_and] at hv1 hv3
        obtain ⟨rfl, rfl⟩ := hv1
        obtain ⟨rfl, rfl⟩ := hv3
        subst hb1 hb3
        have bb0 : (0 : Int) ≤ (k : Int) := by omega
        have bb1 : (k : Int) < (gs.length : Int) := by omega
        have bb2 : (k : Int) < (gt.length : Int) := by omega
        clear ho hg1 hg2 r1 r3
        rcases Ml.wider (n := p) (m := p + q) (ws := (Ml.upto p L k).2) (o := o) (by omega) with ⟨hg, hw⟩ | ⟨hp, hf, ht, _⟩
        · have HREL : Hid (∀ ob d, WiAt p (p + q) L w2 (k + 1) true ((wr.alloc ob).drewN d)) := fun ob d => HA.out.on HOP.out hw (below_op _ _ _)
          rw [← hg] at x3 x4
          obtain ⟨G, hG⟩ : ∃ G, G = Ml.got p (Ml.upto p L k).2 o := ⟨_, rfl⟩
          rw [← hG] at x1 x2 x3 x4
          clear hg hw hG
          have ge := gots_eq G.ok G.v
          go_wp2
          go_quiet (fail)
          go_wp2
          go_roundw
          case rel => exact ⟨k + 1, true, by go_num, rfl, HREL.out _ _⟩
          case measure => simp [intOf]; omega
        · have hv1 : (Ml.got p (Ml.upto p L k).2 o).v = 0 := by unfold Ml.got; rw [if_pos hp]
          have hv2 : (Ml.got (p + q) (Ml.upto p L k).2 o).v = 0 := by unfold Ml.got; rw [if_pos hp]
          rw [hf] at x1
          rw [hv1] at x2
          rw [ht] at x3
          rw [hv2] at x4
          rw [hp] at c0
          clear hp hf ht hv1 hv2
          have ge := gots_ne
          go_wp2
          go_quiet (fail)
          go_wp2
          go_roundw
          case rel => exact ⟨k + 1, false, by go_num, rfl, HA.out.off hlt (below_op _ _ _)⟩
          case measure => simp [intOf]; omega
    · obtain rfl : k = L.length := by omega
      cases sm with
      | false =>
        go_wp2
        go_ret
        exact ⟨rfl, HBW.out⟩
      | true =>
        have HEQ : Hid (wt = ws) := by unfold Hid; rw [HWS.out, HWT.out]; exact (HA.out.eq rfl).symm
        have HR2 := hide (own_reads (own_keep HO2b.out (fun j hj => HA.out.below.block j (HO2b.out.lt j hj).2)))
        have HR4 : Hid (RI wr v4 ws) := by have := own_reads (own_keep HO4.out (fun j hj => HA.out.below.block j (HO4.out.lt j hj).2)); rw [HEQ.out] at this; exact this
        go_wp2_with fail
        refine (same_any v2 v4 ws _ HR2 HR4 (by omega)).mono ?_
        rintro e w6 ⟨rfl, d, rfl⟩
        go_wp2
        go_ret
        exact ⟨rfl, below_drewN' HBW.out _⟩

end Go.Proofs.Ytbpebecfnbdckaa.Mb
