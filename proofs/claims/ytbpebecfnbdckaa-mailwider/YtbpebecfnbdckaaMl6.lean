/- The walk of the document's Play. -/
import Derived.Test.YtbpebecfnbdckaaMl5
import Derived.Deep.RegionWith
import Derived.Deep.DeepCutAuto
namespace Go.Proofs.Ytbpebecfnbdckaa.Mb
open Go.RowKit


set_option maxRecDepth 100000 in
set_option maxHeartbeats 400000 in
theorem rplay_range (n : Int) (L : List Ml.Op) (a : Option Addr) (c : Nat) (w : World) (h : n < 1 ∨ 20 < n) :
    Calls Try.prog 7 #[.int .i64 n, .slice a L.length c] w fun e w' => e = .returned (.tuple #[.slice none 0 0, .slice none 0 0, .int .i64 3]) ∧ w' = w := by
  by_cases h1 : n < 1
  · clear h
    go_enter Try.func7, Try.ntmps7
    go_wp2
    refine bodyPost_ret (v := .tuple #[.slice none 0 0, .slice none 0 0, .int .i64 3]) (by simp [results, Try.results7, go_sem]) rfl ⟨rfl, rfl⟩
  · have h2 : 20 < n := by omega
    clear h
    go_enter Try.func7, Try.ntmps7
    go_wp2
    refine bodyPost_ret (v := .tuple #[.slice none 0 0, .slice none 0 0, .int .i64 3]) (by simp [results, Try.results7, go_sem]) rfl ⟨rfl, rfl⟩

/-- What stays where two blocks are made, and one of them is set. -/
theorem two_new (wr : World) (o p : Obj) (r : Option Nat) : wr.grownBy ((wr.alloc o).alloc p) r := ⟨rfl, rfl, rfl, by simp; omega, fun k hk _ => by rw [Below.heap_alloc _ _ _ (by simp; omega), Below.heap_alloc _ _ _ hk]⟩
theorem grown_set {w w' : World} {r : Option Nat} (h : w.grownBy w' r) {a : Addr} (ha : w.heap.size ≤ a.block) (u : Value) : w.grownBy (w'.setCell a u) r :=
  ⟨h.os, h.tape, h.output, by simpa [World.setCell] using h.size, fun k hk hne => (Below.heap_setCell _ _ _ _ (by omega)).trans (h.block k hk hne)⟩
theorem grown_two {a b c : World} {r : Option Nat} (h : a.grownBy b r) (k : b.grownBy c r) : a.grownBy c r :=
  ⟨k.os.trans h.os, k.tape.trans h.tape, k.output.trans h.output, Nat.le_trans h.size k.size, fun j hj hne => (k.block j (Nat.lt_of_lt_of_le hj h.size) hne).trans (h.block j hj hne)⟩
theorem grown_new {w w' : World} {r : Option Nat} (h : w.grownBy w' r) (o : Obj) : w.grownBy (w'.alloc o) r := grown_two h ⟨rfl, rfl, rfl, by simp, fun k hk _ => Below.heap_alloc _ _ _ hk⟩
theorem QR.set {w : World} {B : Nat} {v : Value} {ws : List Int} (h : QR w B v ws) {a : Addr} (ha : v.ownBlock ≠ some a.block) (u : Value) : QR (w.setCell a u) B v ws := h.keep (fun k hk => Below.heap_setCell _ _ _ _ (fun e => ha (by rw [← e]; exact hk)))

theorem one_news2 (W : World) (o p : Obj) (u : Value) (t : TypeId) : ∀ j u', [u][j]? = some u' → (((W.alloc o).alloc p).alloc (.cells #[u] t)).cell? ((⟨W.heap.size + 1 + 1, 0, none⟩ : Addr).add j) = some u' := by simpa using one_news ((W.alloc o).alloc p) u t

theorem after_q {wr w3 : World} {o p s : Obj} {r : Option Nat} (h : (((wr.alloc o).alloc p).alloc s).grownBy w3 r) (hr : ∀ k, r = some k → k < wr.heap.size) : w3.heap[wr.heap.size]? = some o ∧ w3.heap[wr.heap.size + 1]? = some p ∧ wr.grownBy w3 r := by
  have hz := h.size
  simp at hz
  refine ⟨?_, ?_, grown_two (grown_new (two_new wr o p r) s) h⟩
  · rw [h.block _ (by simp; omega) (fun e => by have := hr _ e.symm; omega), Below.heap_alloc _ _ _ (by simp; omega), Below.heap_alloc _ _ _ (by simp)]
    exact heap_alloc_new wr o
  · rw [h.block _ (by simp) (fun e => by have := hr _ e.symm; omega), Below.heap_alloc _ _ _ (by simp)]
    have := heap_alloc_new (wr.alloc o) p
    simpa using this
theorem op_cells {w : World} {N : Nat} {p : Bool} {x : Int} (h : w.heap[N]? = some (.cells #[.bool p, .int .i64 x] 34 (0, 0))) : w.cell? ⟨N, 0, none⟩ = some (.bool p) := by
  simp [World.cell?, h]

theorem got_news2 (W : World) (p : Bool) (x : Int) (t : TypeId) (q : Nat) (hq : q = W.heap.size) : ∀ j u, [Value.bool p, .int .i64 x][j]? = some u → (W.alloc (.cells #[.bool p, .int .i64 x] t)).cell? ((⟨q, 0, none⟩ : Addr).add j) = some u := by
  subst hq
  exact got_news W p x t
theorem size_set (w : World) (a : Addr) (u : Value) : w.heap.size = (w.setCell a u).heap.size := by simp [World.setCell]



set_option maxRecDepth 100000 in
set_option maxHeartbeats 2000000 in
theorem rplay_go (n : Nat) (L : List Ml.Op) (a : Option Addr) (c : Nat) (w : World) (hin : Hid (OpsIn w.heap.size w L a)) (hlen : L.length ≤ 8796093022200) (h1 : 1 ≤ n) (h3 : n ≤ 20) :
    Calls Try.prog 7 #[.int .i64 n, .slice a L.length c] w fun e w' => ∃ v1 v2, e = .returned (.tuple #[v1, v2, .int .i64 0]) ∧ w'.ownsRow w.heap.size 30 2 v1 L.length (gotCells (Ml.upto n L L.length).1) ∧ QR w' w.heap.size v2 (Ml.upto n L L.length).2 ∧ Below w.heap.size w w' := by
  obtain ⟨i1, hi1, hy0, hy1, hy2⟩ := info_parts Try.info30
  have n1 : ¬ (n : Int) < 1 := by omega
  have n3 : ¬ (20 : Int) < (n : Int) := by omega
  go_enter Try.func7, Try.ntmps7
  go_wp2
  clear n1 n3
  go_loopw [7, 8, 20] (fun v q i wr => ∃ k : Nat, i = .int .i64 k ∧ RpAt n L w k v q wr) (fun _ _ i _ => L.length - (intOf i).toNat)
  case atStart => exact ⟨0, rfl, Nat.zero_le _, World.ownsRow_nil _ _ _ _, QR.nil _ _, Below.refl _ _⟩
  case round =>
    obtain ⟨k, rfl, hA⟩ := hrel
    have HA := hide hA
    have hk := hA.le
    have hsz := hA.below.size
    have hfew := Ml.upto_most (n := n) (L := L) k
    clear hA
    by_cases hlt : k < L.length
    · obtain ⟨o, ho⟩ : ∃ o, L[k]? = some o := ⟨_, List.getElem?_eq_getElem hlt⟩
      obtain ⟨b, off, rfl, hbl, c0, c1⟩ := hin.out.on HA.out.below k o ho
      have HOP := hide ho
      clear ho
      obtain ⟨ws1, hws1⟩ : ∃ ws1, ws1 = (Ml.upto n L k).2 := ⟨_, rfl⟩
      rw [← hws1] at hfew
      have HQ : Hid (QR wr w.heap.size u8 ws1) := by rw [hws1]; exact HA.out.row
      have HMK : Hid (∀ q' W ws', ws' = Ml.wds n ws1 o → wr.grownBy W u8.ownBlock → QR W w.heap.size q' ws' → RpMid n L w k u7 q' W) := fun q' W ws' h1 h2 h3 => HA.out.mid HOP.out (by rw [← hws1]; exact h1) h2 h3
      have HGE : Hid (Ml.got n (Ml.upto n L k).2 o = Ml.got n ws1 o) := by rw [hws1]; rfl
      clear hws1
      cases hp : o.put with
      | true =>
        rw [hp] at c0
        by_cases hf : ws1.length < n
        · obtain ⟨ao, co, hv⟩ := HQ.out.form
          have HG : Hid (Ml.got n (Ml.upto n L k).2 o = ⟨true, 0⟩) := by unfold Hid; rw [HGE.out]; simp [Ml.got, hp, hf]
          have HW : Hid (ws1 ++ [o.v] = Ml.wds n ws1 o) := by unfold Hid; simp [Ml.wds, hp, hf]
          subst hv
          clear hp
          have hfi : (ws1.length : Int) < (n : Int) := by omega
          go_wp2_with (first | (at_builtin; refine wpList_append_q rfl _ _ rfl w.heap.size _ ws1 o.v rfl (((HQ.out.alloc _).alloc _).alloc _) ⟨wr.heap.size + 1 + 1, 0, none⟩ rfl (one_news2 _ _ _ _ _) (by omega) (by simp; omega) ?_; intro q' w3 hq' hg'; obtain ⟨b0, b1, hg3⟩ := after_q (r := Value.ownBlock (.slice ao ws1.length co)) hg' (fun k hk => (HQ.out.lt k hk).2); obtain ⟨z0, z1, y0, y1⟩ := zg_cells b1; have d0 := op_cells b0; have hl1 := lt_of_block b1; have HM : Hid (RpMid n L w k u7 q' (w3.setCell ⟨wr.heap.size + 1, 0, none⟩ (.bool true))) := HMK.out _ _ _ HW.out (grown_set hg3 (Nat.le_succ _) _) (hq'.set (hq'.ty b1 (by decide)) _); clear hq' hg' b0 b1 hg3) |
            (at_builtin; refine wpList_append_own _ rfl (.tmp 53) (.tmp 55) 23 rfl w.heap.size 30 i1 (.agg #[.bool false, .int .i64 0]) 2 16 Try.underlying23 hi1 hy0 hy1 hy2 rfl (by decide) _ _ _ rfl (HM.out.own.alloc _) ⟨w3.heap.size, 0, none⟩ 1 1 [.bool true, .int .i64 0] rfl rfl (got_news2 _ _ _ _ _ (size_set _ _ _)) (got_one _ _) (by unfold maxLen; omega) (by omega) (Nat.le_trans HM.out.below.size (by simp)) ?_; intro v' w5 hown' hgrow _; have HREL : Hid (RpAt n L w (k + 1) v' q' w5) := HM.out.next HOP.out HG.out hown' hgrow; clear hown' hgrow))
          go_roundw
          case rel => exact ⟨k + 1, by go_num, HREL.out⟩
          case measure => simp [intOf]; omega
        · obtain ⟨ao, co, hv⟩ := HQ.out.form
          have HG : Hid (Ml.got n (Ml.upto n L k).2 o = ⟨false, 0⟩) := by unfold Hid; rw [HGE.out]; simp [Ml.got, hp, hf]
          have HW : Hid (ws1 = Ml.wds n ws1 o) := by unfold Hid; simp [Ml.wds, hp, hf]
          subst hv
          have HM : Hid (RpMid n L w k u7 (.slice ao ws1.length co) ((wr.alloc (.cells #[.bool true, .int .i64 o.v] 34)).alloc (.cells #[.bool false, .int .i64 0] 30))) := HMK.out _ _ _ HW.out (two_new _ _ _ _) ((HQ.out.alloc _).alloc _)
          clear hp
          have hfi : ¬ (ws1.length : Int) < (n : Int) := by omega
          go_wp2_with (first |
            (at_builtin; refine wpList_append_own _ rfl (.tmp 53) (.tmp 55) 23 rfl w.heap.size 30 i1 (.agg #[.bool false, .int .i64 0]) 2 16 Try.underlying23 hi1 hy0 hy1 hy2 rfl (by decide) _ _ _ rfl (HM.out.own.alloc _) ⟨wr.heap.size + 1 + 1, 0, none⟩ 1 1 [.bool false, .int .i64 0] rfl rfl (got_news2 _ _ _ _ _ (by simp)) (got_one _ _) (by unfold maxLen; omega) (by omega) (Nat.le_trans HM.out.below.size (by simp)) ?_; intro v' w5 hown' hgrow _; have HREL : Hid (RpAt n L w (k + 1) v' (.slice ao ws1.length co) w5) := HM.out.next HOP.out HG.out hown' hgrow; clear hown' hgrow))
          go_roundw
          case rel => exact ⟨k + 1, by go_num, HREL.out⟩
          case measure => simp [intOf]; omega
      | false =>
        rw [hp] at c0
        cases hws : ws1 with
        | nil =>
          obtain ⟨ao, co, hv⟩ := HQ.out.form
          have HG : Hid (Ml.got n (Ml.upto n L k).2 o = ⟨false, 0⟩) := by unfold Hid; rw [HGE.out]; simp [Ml.got, hp, hws]
          have HW : Hid (ws1 = Ml.wds n ws1 o) := by unfold Hid; simp [Ml.wds, hp, hws]
          subst hv
          have HM : Hid (RpMid n L w k u7 (.slice ao ws1.length co) ((wr.alloc (.cells #[.bool false, .int .i64 o.v] 34)).alloc (.cells #[.bool false, .int .i64 0] 30))) := HMK.out _ _ _ HW.out (two_new _ _ _ _) ((HQ.out.alloc _).alloc _)
          have hl0 : ws1.length = 0 := by rw [hws]; rfl
          rw [hl0] at HM HA
          clear hp hws HQ HMK HW
          rw [hl0]
          go_wp2_with (first |
            (at_builtin; refine wpList_append_own _ rfl (.tmp 53) (.tmp 55) 23 rfl w.heap.size 30 i1 (.agg #[.bool false, .int .i64 0]) 2 16 Try.underlying23 hi1 hy0 hy1 hy2 rfl (by decide) _ _ _ rfl (HM.out.own.alloc _) ⟨wr.heap.size + 1 + 1, 0, none⟩ 1 1 [.bool false, .int .i64 0] rfl rfl (got_news2 _ _ _ _ _ (by simp)) (got_one _ _) (by unfold maxLen; omega) (by omega) (Nat.le_trans HM.out.below.size (by simp)) ?_; intro v' w5 hown' hgrow _; have HREL : Hid (RpAt n L w (k + 1) v' (.slice ao 0 co) w5) := HM.out.next HOP.out HG.out hown' hgrow; clear hown' hgrow))
          go_roundw
          case rel => exact ⟨k + 1, by go_num, HREL.out⟩
          case measure => simp [intOf]; omega
        | cons x xs =>
          have hq := HQ.out
          rw [hws] at hq
          obtain ⟨g, of, cap, hv, hcap, cx, hq1, hq2⟩ := hq.pop
          have hg8 : g < wr.heap.size := by have := (HQ.out.lt g (by rw [hv]; rfl)).2; exact this
          have HG : Hid (Ml.got n (Ml.upto n L k).2 o = ⟨true, x⟩) := by unfold Hid; rw [HGE.out]; simp [Ml.got, hp, hws]
          have HW : Hid (xs = Ml.wds n ws1 o) := by unfold Hid; simp [Ml.wds, hp, hws]
          have hlx : ws1.length = xs.length + 1 := by rw [hws]; rfl
          subst hv
          have m0 : (0 : Int) ≤ (xs.length : Int) := by omega
          have HGR : Hid (wr.grownBy ((wr.alloc (.cells #[.bool false, .int .i64 o.v] 34)).alloc (.cells #[.bool true, .int .i64 x] 30)) none) := two_new _ _ _ _
          by_cases hc : cap = 1
          · have HM : Hid (RpMid n L w k u7 (.slice (some ⟨g, of, none⟩) 0 0) ((wr.alloc (.cells #[.bool false, .int .i64 o.v] 34)).alloc (.cells #[.bool true, .int .i64 x] 30))) := HMK.out _ _ _ HW.out (grown_any HGR.out) ((hq1 hc).keep (fun j hj => HGR.out.block j ((hq1 hc).lt j hj).2 (by simp)))
            obtain rfl : xs = [] := List.eq_nil_of_length_eq_zero (by omega)
            clear hp hws hq hq1 hq2 HQ HMK HW HGR HA
            subst hc
            go_wp2_with (first |
              (at_builtin; refine wpList_append_own _ rfl (.tmp 53) (.tmp 55) 23 rfl w.heap.size 30 i1 (.agg #[.bool false, .int .i64 0]) 2 16 Try.underlying23 hi1 hy0 hy1 hy2 rfl (by decide) _ _ _ rfl (HM.out.own.alloc _) ⟨wr.heap.size + 1 + 1, 0, none⟩ 1 1 [.bool true, .int .i64 x] rfl rfl (got_news2 _ _ _ _ _ (by simp)) (got_one _ _) (by unfold maxLen; omega) (by omega) (Nat.le_trans HM.out.below.size (by simp)) ?_; intro v' w5 hown' hgrow _; have HREL : Hid (RpAt n L w (k + 1) v' (.slice (some ⟨g, of, none⟩) 0 0) w5) := HM.out.next HOP.out HG.out hown' hgrow; clear hown' hgrow))
            go_roundw
            case rel => exact ⟨k + 1, by go_num, HREL.out⟩
            case measure => simp [intOf]; omega
          · have HM : Hid (RpMid n L w k u7 (.slice (some ⟨g, of + 1, none⟩) xs.length (cap - 1)) ((wr.alloc (.cells #[.bool false, .int .i64 o.v] 34)).alloc (.cells #[.bool true, .int .i64 x] 30))) := HMK.out _ _ _ HW.out (grown_any HGR.out) ((hq2 hc).keep (fun j hj => HGR.out.block j ((hq2 hc).lt j hj).2 (by simp)))
            clear hp hws hq hq1 hq2 HQ HMK HW HGR HA
            go_wp2_with (first |
              (at_builtin; refine wpList_append_own _ rfl (.tmp 53) (.tmp 55) 23 rfl w.heap.size 30 i1 (.agg #[.bool false, .int .i64 0]) 2 16 Try.underlying23 hi1 hy0 hy1 hy2 rfl (by decide) _ _ _ rfl (HM.out.own.alloc _) ⟨wr.heap.size + 1 + 1, 0, none⟩ 1 1 [.bool true, .int .i64 x] rfl rfl (got_news2 _ _ _ _ _ (by simp)) (got_one _ _) (by unfold maxLen; omega) (by omega) (Nat.le_trans HM.out.below.size (by simp)) ?_; intro v' w5 hown' hgrow _; have HREL : Hid (RpAt n L w (k + 1) v' (.slice (some ⟨g, of + 1, none⟩) xs.length (cap - 1)) w5) := HM.out.next HOP.out HG.out hown' hgrow; clear hown' hgrow))
            go_roundw
            case rel => exact ⟨k + 1, by go_num, HREL.out⟩
            case measure => simp [intOf]; omega
    · obtain rfl : k = L.length := by omega
      go_wp2
      refine bodyPost_ret (v := .tuple #[u7, u8, .int .i64 0]) (by simp [results, Try.results7, go_sem]) rfl ?_
      exact ⟨_, _, rfl, HA.out.own, HA.out.row, HA.out.below⟩

/-- WHAT THE DOCUMENT's Play ANSWERS. -/
theorem rplay_any (n : Int) (L : List Ml.Op) (a : Option Addr) (c : Nat) (w : World) (hin : Hid (OpsIn w.heap.size w L a)) (hlen : L.length ≤ 8796093022200) (gs : List Ml.Got) (ws : List Int) (E : Nat) (hgo : Hid (Ml.play n L = (gs, ws, E))) :
    Calls Try.prog 7 #[.int .i64 n, .slice a L.length c] w fun e w' => ∃ v1 v2, e = .returned (.tuple #[v1, v2, .int .i64 E]) ∧ w'.ownsRow w.heap.size 30 2 v1 gs.length (gotCells gs) ∧ QR w' w.heap.size v2 ws ∧ Below w.heap.size w w' := by
  have hh := hgo.out
  unfold Ml.play at hh
  by_cases h : n < 1 ∨ 20 < n
  · refine (rplay_range n L a c w h).mono ?_
    rintro e w' ⟨rfl, rfl⟩
    rw [if_pos h] at hh
    simp only [Prod.mk.injEq] at hh
    obtain ⟨rfl, rfl, rfl⟩ := hh
    exact ⟨_, _, rfl, World.ownsRow_nil _ _ _ _, QR.nil _ _, Below.refl _ _⟩
  · rw [if_neg h] at hh
    simp only [Prod.mk.injEq] at hh
    obtain ⟨rfl, rfl, rfl⟩ := hh
    obtain ⟨m, rfl⟩ : ∃ m : Nat, n = m := ⟨n.toNat, by omega⟩
    have hl := Ml.upto_len (n := m) (L := L) L.length (Nat.le_refl _)
    simp only [Int.toNat_natCast] at *
    rw [hl]
    exact rplay_go m L a c w hin hlen (by omega) (by omega)

end Go.Proofs.Ytbpebecfnbdckaa.Mb
