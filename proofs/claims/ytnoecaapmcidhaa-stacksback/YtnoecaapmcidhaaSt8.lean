/- The walk of the document's Play. -/
import Derived.Test.YtnoecaapmcidhaaSt7
import Derived.Deep.RegionWith
import Derived.Deep.DeepCutAuto
namespace Go.Proofs.Ytnoecaapmcidhaa
open Go.RowKit


set_option maxRecDepth 100000 in
set_option maxHeartbeats 400000 in
theorem rplay_range (mn most : Int) (L : List Sk.Op) (a : Option Addr) (c : Nat) (w : World) (h : mn < 1 ∨ most < mn ∨ 400 < most) :
    Calls Try.prog 10 #[.int .i64 mn, .int .i64 most, .slice a L.length c] w fun e w' => e = .returned (.tuple #[.slice none 0 0, .slice none 0 0, .agg #[.int .i64 3, .int .i64 0]]) ∧ Below w.heap.size w w' := by
  by_cases h1 : mn < 1
  · skip
    go_enter Try.func10, Try.ntmps10
    go_wp2
    refine bodyPost_ret (v := .tuple #[.slice none 0 0, .slice none 0 0, .agg #[.int .i64 3, .int .i64 0]]) (by simp [results, Try.results10, go_sem]) rfl ⟨rfl, ?_⟩
    exact (Below.refl _ w).alloc (Nat.le_refl _) _
  · by_cases h2 : most < mn
    · clear h
      go_enter Try.func10, Try.ntmps10
      go_wp2
      refine bodyPost_ret (v := .tuple #[.slice none 0 0, .slice none 0 0, .agg #[.int .i64 3, .int .i64 0]]) (by simp [results, Try.results10, go_sem]) rfl ⟨rfl, ?_⟩
      exact (Below.refl _ w).alloc (Nat.le_refl _) _
    · have h3 : 400 < most := by omega
      clear h
      go_enter Try.func10, Try.ntmps10
      go_wp2
      refine bodyPost_ret (v := .tuple #[.slice none 0 0, .slice none 0 0, .agg #[.int .i64 3, .int .i64 0]]) (by simp [results, Try.results10, go_sem]) rfl ⟨rfl, ?_⟩
      exact (Below.refl _ w).alloc (Nat.le_refl _) _

def RfRel (mn most : Nat) (L : List Sk.Op) (w : World) (v v2 rmv i : Value) (wr : World) : Prop :=
  ∃ (k r : Nat) (ws : List Int) (rs : List Nat), i = .int .i64 k ∧ rmv = .int .i64 r ∧ RfAt mn most L w v v2 k r ws rs wr



theorem below_alloc {B : Nat} {a w : World} (h : Below B a w) (hB : B ≤ a.heap.size) (o : Obj) : Below B a (w.alloc o) := h.alloc (Nat.le_trans hB h.size) o
theorem below_grown {B q : Nat} {a w w' : World} (h : Below B a w) (hB : B ≤ a.heap.size) (g : w.grownBy w' (some q)) (hq : B ≤ q) : Below B a w' := h.grown g (Nat.le_trans hB h.size) (fun k hk => by cases hk; exact hq)
theorem own_takeG {w : World} {B e n cap c : Nat} {ao : Option Addr} {ws : List Int} (h : w.ownsRow B e 1 (.slice ao n cap) n (ints ws)) (hc : c ≤ n) : w.ownsRow B e 1 (.slice ao c cap) (ws.take c).length (ints (ws.take c)) := by
  have hl : ws.length = n := by have := h.1; simpa using this
  have e1 : (ws.take c).length = c := by simp; omega
  have e2 : ints (ws.take c) = (ints ws).take c := by simp [ints, List.map_take]
  rw [e1, e2]
  rcases h.2 with ⟨hv, h0⟩ | ⟨g', cap', cur, hv, r⟩
  · simp at hv
    obtain ⟨rfl, rfl, rfl⟩ := hv
    obtain rfl : c = 0 := by omega
    exact ⟨by simp, .inl ⟨rfl, rfl⟩⟩
  · simp at hv
    obtain ⟨rfl, rfl⟩ := hv
    exact own_take h hc

theorem own_cell {w : World} {B n q : Nat} {v : Value} {ws : List Int} (h : w.ownsRow B 2 1 v n (ints ws)) (hq : q < ws.length) :
    ∃ g cap u, v = .slice (some ⟨g, 0, none⟩) n cap ∧ B ≤ g ∧ w.cell? ⟨g, q, none⟩ = some u ∧ w.frozen? ⟨g, q, none⟩ = false ∧ n = ws.length ∧ (∀ x : Int, (w.setCell ⟨g, q, none⟩ (.int .i64 x)).ownsRow B 2 1 v n (ints (ws.set q x))) := by
  have hl : ws.length = n := by have := h.1; simpa using this
  rcases h.2 with ⟨_, h0⟩ | ⟨g, cap, cur, rfl, hg, hh, h1, h2, h3, h4⟩
  · omega
  · have h3' : cur.size = cap := by simpa using h3
    refine ⟨g, cap, cur[q]'(by omega), rfl, hg, ?_, ?_, hl.symm, fun x => ⟨by simp [hl], .inr ⟨g, cap, cur.set q (.int .i64 x) (by omega), rfl, hg, ?_, h1, h2, by simpa using h3, ?_⟩⟩⟩
    · simp [World.cell?, hh]
    · simp [World.frozen?, hh]
    · simp only [World.setCell, Array.getElem?_modify, if_true, hh, Option.map_some]
      rw [Array.setIfInBounds_def, dif_pos (by omega)]
      rfl
    · rw [Array.toList_set, List.take_set, h4]
      simp [ints, List.map_set]

abbrev opB (o : Sk.Op) : Obj := .cells #[.int .i64 o.kind, .int .i64 o.n, .int .i64 o.v] 36
theorem opcell {wr w' : World} {o : Sk.Op} (h : Below (wr.heap.size + 1) (wr.alloc (opB o)) w') : w'.cell? ⟨wr.heap.size, 2, none⟩ = some (.int .i64 o.v) := by
  rw [h.cell (p := ⟨wr.heap.size, 2, none⟩) (Nat.lt_succ_self _)]
  simp [World.cell?_alloc_mark]
theorem opbelow {wr w' : World} {o : Sk.Op} (h : Below (wr.heap.size + 1) (wr.alloc (opB o)) w') : Below wr.heap.size wr w' := ((Below.refl _ wr).alloc (Nat.le_refl _) _).trans (h.mono (Nat.le_succ _))
theorem sz1 (w : World) (o : Obj) : w.heap.size + 1 = (w.alloc o).heap.size := by simp
theorem sz2 (w : World) (o p : Obj) : w.heap.size + 1 + 1 = ((w.alloc o).alloc p).heap.size := by simp
theorem le_al (w : World) (o : Obj) : w.heap.size + 1 ≤ (w.alloc o).heap.size := by simp
theorem le_al2 (w : World) (o p : Obj) : w.heap.size + 1 ≤ ((w.alloc o).alloc p).heap.size := by simp
theorem le_al2' (w : World) (o p : Obj) : w.heap.size + 1 ≤ ((w.alloc o).alloc p).drew.heap.size := le_al2 w o p
theorem le_al3 (w : World) (o p q : Obj) : w.heap.size + 1 ≤ (((w.alloc o).alloc p).alloc q).drew.heap.size := by show _ ≤ (((w.alloc o).alloc p).alloc q).heap.size; simp
theorem own_grown {X w5 : World} {B e size n q : Nat} {v : Value} {xs : List Value} (h : X.ownsRow B e size v n xs) (g : X.grownBy w5 (some q)) (hne : v.ownBlock ≠ some q) : w5.ownsRow B e size v n xs :=
  own_keep h (fun k hk => g.block k (h.lt k hk).2 (fun e => hne (by rw [hk]; exact e)))


set_option maxRecDepth 100000 in
set_option maxHeartbeats 2000000 in
theorem rplay_go (mn most : Nat) (L : List Sk.Op) (a : Option Addr) (c : Nat) (w : World) (hin : Hid (OpsIn w.heap.size w L a)) (hlen : L.length ≤ 8796093022208) (h1 : 1 ≤ mn) (h2 : mn ≤ most) (h3 : most ≤ 400) (ws : List Int) (rs : List Nat) (E P : Nat) (hgo : Hid (Sk.go mn most L 0 [] mn [] = (ws, rs, E, P))) :
    Calls Try.prog 10 #[.int .i64 mn, .int .i64 most, .slice a L.length c] w fun e w' => ∃ v1 v2, e = .returned (.tuple #[v1, v2, .agg #[.int .i64 E, .int .i64 P]]) ∧ w'.ownsRow w.heap.size 2 1 v1 ws.length (ints ws) ∧ w'.ownsRow w.heap.size 3 1 v2 rs.length (nats rs) ∧ Below w.heap.size w w' := by
  obtain ⟨i0, hi, hz0, hz1, hz2⟩ := info_parts Try.info2
  obtain ⟨i1, hi1, hy0, hy1, hy2⟩ := info_parts Try.info3
  have n1 : ¬ (mn : Int) < 1 := by omega
  have n2 : ¬ (most : Int) < (mn : Int) := by omega
  have n3 : ¬ (400 : Int) < (most : Int) := by omega
  go_enter Try.func10, Try.ntmps10
  go_wp2
  clear n1 n2 n3
  go_loopw [9, 10, 11, 30] (fun v v2 rmv i wr => RfRel mn most L w v v2 rmv i wr) (fun _ _ _ i _ => L.length - (intOf i).toNat)
  case atStart =>
    refine ⟨0, mn, [], [], rfl, rfl, Nat.zero_le _, World.ownsRow_nil _ _ _ _, World.ownsRow_nil _ _ _ _, heap_alloc_new w _, (Below.refl _ w).alloc (Nat.le_refl _) _, rfl, ?_, rfl⟩
    unfold Sk.Fits; simp; omega
  case round =>
    obtain ⟨k, r, ws1, rs1, rfl, rfl, hA⟩ := hrel
    have HA := hide hA
    obtain ⟨z0, z1, y0, y1⟩ := zf_cells hA.zf
    have hk := hA.le
    have hsz := hA.below.size
    have hN := lt_of_block hA.zf
    obtain ⟨f1, f2, f3, f4, f5⟩ := hA.fits
    obtain ⟨ao, cap, hv, hcap⟩ : ∃ ao cap, u9 = .slice ao ws1.length cap ∧ ws1.length ≤ cap := by
      rcases hA.own.2 with ⟨rfl, h0⟩ | ⟨g, cap, cur, rfl, _, _, hh, _⟩
      · rw [h0]; exact ⟨_, _, rfl, Nat.le_refl _⟩
      · exact ⟨_, _, rfl, hh⟩
    subst hv
    clear hA
    by_cases hlt : k < L.length
    · obtain ⟨o, ho⟩ : ∃ o, L[k]? = some o := ⟨_, List.getElem?_eq_getElem hlt⟩
      obtain ⟨b, off, rfl, hbl, c0, c1, c2⟩ := hin.out.on HA.out.below k o ho
      have HOP := hide ho
      clear ho
      by_cases hk1 : o.kind = 1
      · have e1 : (o.kind == 1) = true := by simp [hk1]
        have hE := Sk.err1 most ws1.length o hk1
        by_cases hm : ws1.length = most
        · rw [if_pos hm] at hE
          have e2 : ((ws1.length : Int) == (most : Int)) = true := by simp; omega
          clear hk1 hm
          have HFIN : Hid (ws = [] ∧ rs = [] ∧ E = 4 ∧ P = k) := by
            have hh := hgo.out
            rw [HA.out.go, Sk.go_bad HOP.out ws1 r rs1 (by rw [hE]; decide), hE] at hh
            simp only [Prod.mk.injEq] at hh
            exact ⟨hh.1.symm, hh.2.1.symm, hh.2.2.1.symm, hh.2.2.2.symm⟩
          clear hE
          go_wp2
          refine bodyPost_ret (v := .tuple #[.slice none 0 0, .slice none 0 0, .agg #[.int .i64 4, .int .i64 k]]) (by simp [results, Try.results10, go_sem, z0, z1, hN]) rfl ?_
          obtain ⟨rfl, rfl, rfl, rfl⟩ := HFIN.out
          exact ⟨_, _, rfl, World.ownsRow_nil _ _ _ _, World.ownsRow_nil _ _ _ _, ((HA.out.below.setCell (p := ⟨w.heap.size, 0, none⟩) (Nat.le_refl _) _).setCell (p := ⟨w.heap.size, 1, none⟩) (Nat.le_refl _) _).alloc (by simpa using HA.out.below.size) _⟩
        · rw [if_neg hm] at hE
          have e2 : ((ws1.length : Int) == (most : Int)) = false := by simp; omega
          obtain ⟨ws2, hws2⟩ : ∃ ws2, ws2 = Sk.wds ws1 o := ⟨_, rfl⟩
          obtain ⟨r2, hr2⟩ : ∃ r2, r2 = Sk.rm mn most r ws1.length o := ⟨_, rfl⟩
          have HW2 : Hid (ws2 = ws1 ++ [o.v]) := by unfold Hid; rw [hws2]; unfold Sk.wds; rw [if_pos hk1]
          have er : Sk.rm mn most r ws1.length o = if ws1.length = r then min (2 * r) most else r := by unfold Sk.rm; rw [if_pos hk1]
          have HMK : Hid (∀ (v' : Value) (W : World), W.ownsRow w.heap.size 2 1 v' ws2.length (ints ws2) → Below wr.heap.size wr W → RfMid mn most L w v' u10 k r2 ws2 rs1 W) := fun v' W h1 h2 => HA.out.mid HOP.out hE hws2 hr2 h1 h2
          rw [er] at hr2
          have HR2 := hide hr2
          clear er hr2 hws2 hE hk1 hm
          by_cases hr : ws1.length = r
          · have e3 : ((ws1.length : Int) == (r : Int)) = true := by simp; omega
            have HR := hide hr
            by_cases h2r : most < 2 * r
            · have HX : Hid ((most : Int) = (r2 : Int)) := by have := HR2.out; rw [if_pos HR.out] at this; unfold Hid; omega
              have h2i : (most : Int) < 2 * (r : Int) := by omega
              clear hr
              go_upto_region 19 with fail
              have cv : (wr.alloc (.cells #[.int .i64 o.kind, .int .i64 o.n, .int .i64 o.v] 36)).cell? ⟨wr.heap.size, 2, none⟩ = some (.int .i64 o.v) := by simp [World.cell?_alloc_mark]
              go_region_held3 (fun w' => w'.cell? ⟨wr.heap.size, 2, none⟩ = some (.int .i64 o.v)) (go_keep) (first | (refine step_append_two rfl (.tmp 53) (.tmp 54) 23 rfl (wr.heap.size + 1) 2 i0 (.int .i64 0) 1 8 Try.underlying23 hi hz0 hz1 hz2 rfl (by decide) _ 0 [] rfl (by first | exact (own_new0 _ _ (sz1 _ _) (by omega)).drew | exact ((own_new0 _ _ (sz1 _ _) (by omega)).alloc _).drew | exact (own_new0 _ _ (sz2 _ _ _) (by omega)).drew) w.heap.size _ ws1.length (ints ws1) rfl (by first | exact ((HA.out.own.alloc _).alloc _).drew | exact (((HA.out.own.alloc _).alloc _).alloc _).drew) (ints_one ws1) (by unfold maxLen; omega) (by omega) (by first | exact le_al2' _ _ _ | exact le_al3 _ _ _ _) ?_; intro v5 w5 h5 g5; simp [Act.eval, Value.ownBlock] at g5; have H5 : Hid (w5.ownsRow (wr.heap.size + 1) 2 1 v5 ws1.length (ints ws1)) := (by unfold Hid; simpa using h5); have B5 : Hid (Below (wr.heap.size + 1) (wr.alloc (opB o)) w5) := (by first | exact below_grown (below_alloc (Below.refl _ _) (le_al _ _) _).drew (le_al _ _) g5 (by omega) | exact below_grown (below_alloc (below_alloc (Below.refl _ _) (le_al _ _) _) (le_al _ _) _).drew (le_al _ _) g5 (by omega)); have cw : w5.cell? ⟨wr.heap.size, 2, none⟩ = some (.int .i64 o.v) := opcell B5.out; have HZ5 : Hid (wr.heap.size + 1 ≤ w5.heap.size) := (by have := g5.size; simp at this; unfold Hid; omega); (first | (have OB : Hid (w5.ownsRow (wr.heap.size + 1) 2 1 (.slice (some ⟨wr.heap.size + 1 + 1, 0, none⟩) 1 1) 1 [.int .i64 o.v]) := own_grown (own_new1 _ _ _ (sz2 _ _ _) (by omega)).drew g5 (by simp [Value.ownBlock] <;> omega)) | (have OB : Hid (w5.ownsRow (wr.heap.size + 1) 2 1 (.slice (some ⟨wr.heap.size + 1, 0, none⟩) 1 1) 1 [.int .i64 o.v]) := own_grown ((own_new1 _ _ _ (sz1 _ _) (by omega)).alloc _).drew g5 (by simp [Value.ownBlock] <;> omega)) | skip); clear h5 g5) | (refine step_append_two rfl (.tmp 55) (.tmp 58) 23 rfl (wr.heap.size + 1) 2 i0 (.int .i64 0) 1 8 Try.underlying23 hi hz0 hz1 hz2 rfl (by decide) v5 ws1.length (ints ws1) rfl (by first | exact H5.out | exact H5.out.alloc _) (wr.heap.size + 1) _ 1 [.int .i64 o.v] rfl (by first | exact OB.out | exact own_new1 _ _ _ rfl HZ5.out) (one_cell1 _) (by unfold maxLen; omega) (by omega) (by have := HZ5.out; simp <;> omega) ?_; intro v6 w6 h6 g6; have H6 : Hid (w6.ownsRow (wr.heap.size + 1) 2 1 v6 (ws1.length + 1) (ints ws1 ++ [.int .i64 o.v])) := h6; have B6 : Hid (Below (wr.heap.size + 1) (wr.alloc (opB o)) w6) := (by first | exact B5.out.grown g6 HZ5.out (fun k hk => (H5.out.lt k hk).1) | exact (below_alloc B5.out (le_al _ _) _).grown g6 (Nat.le_trans (le_al _ _) (below_alloc B5.out (le_al _ _) _).size) (fun k hk => (H5.out.lt k hk).1)); have HM : Hid (RfMid mn most L w v6 u10 k r2 ws2 rs1 w6) := HMK.out v6 w6 (by rw [HW2.out]; exact own_base (by simpa using H6.out) (by omega)) (opbelow B6.out); have cx : w6.cell? ⟨wr.heap.size, 2, none⟩ = some (.int .i64 o.v) := opcell B6.out; clear h6 g6))
              all_goals
                clear cv
                go_wp2_with (at_builtin; refine wpList_append_own _ rfl _ _ 24 rfl w.heap.size 3 i1 (.int .i64 0) 1 8 Try.underlying24 hi1 hy0 hy1 hy2 rfl (by decide) _ _ _ rfl (HM.out.own2.alloc _) ⟨(w6).heap.size, 0, none⟩ 1 1 [.int .i64 ((most : Int))] rfl rfl (one_news _ _ _) (one_cell1 _) (by have := HM.out.count; unfold maxLen; omega) (by have := HM.out.count; omega) (by have := HM.out.below.size; simp; omega) ?_; intro v' w5 hown' hgrow _)
                have HREL : Hid (RfAt mn most L w v6 v' (k + 1) r2 ws2 (rs1 ++ [r2]) w5) := HM.out.next HX.out hown' hgrow
                clear hown' hgrow
                go_wp2
                go_roundw
                case rel => exact ⟨k + 1, r2, ws2, rs1 ++ [r2], by go_num, by rw [← HX.out], HREL.out⟩
                case measure => simp [intOf]; omega
            · have HX : Hid (2 * (r : Int) = (r2 : Int)) := by have := HR2.out; rw [if_pos HR.out] at this; unfold Hid; omega
              have h2i : ¬ (most : Int) < 2 * (r : Int) := by omega
              clear hr
              go_upto_region 19 with fail
              have cv : (wr.alloc (.cells #[.int .i64 o.kind, .int .i64 o.n, .int .i64 o.v] 36)).cell? ⟨wr.heap.size, 2, none⟩ = some (.int .i64 o.v) := by simp [World.cell?_alloc_mark]
              go_region_held3 (fun w' => w'.cell? ⟨wr.heap.size, 2, none⟩ = some (.int .i64 o.v)) (go_keep) (first | (refine step_append_two rfl (.tmp 53) (.tmp 54) 23 rfl (wr.heap.size + 1) 2 i0 (.int .i64 0) 1 8 Try.underlying23 hi hz0 hz1 hz2 rfl (by decide) _ 0 [] rfl (by first | exact (own_new0 _ _ (sz1 _ _) (by omega)).drew | exact ((own_new0 _ _ (sz1 _ _) (by omega)).alloc _).drew | exact (own_new0 _ _ (sz2 _ _ _) (by omega)).drew) w.heap.size _ ws1.length (ints ws1) rfl (by first | exact ((HA.out.own.alloc _).alloc _).drew | exact (((HA.out.own.alloc _).alloc _).alloc _).drew) (ints_one ws1) (by unfold maxLen; omega) (by omega) (by first | exact le_al2' _ _ _ | exact le_al3 _ _ _ _) ?_; intro v5 w5 h5 g5; simp [Act.eval, Value.ownBlock] at g5; have H5 : Hid (w5.ownsRow (wr.heap.size + 1) 2 1 v5 ws1.length (ints ws1)) := (by unfold Hid; simpa using h5); have B5 : Hid (Below (wr.heap.size + 1) (wr.alloc (opB o)) w5) := (by first | exact below_grown (below_alloc (Below.refl _ _) (le_al _ _) _).drew (le_al _ _) g5 (by omega) | exact below_grown (below_alloc (below_alloc (Below.refl _ _) (le_al _ _) _) (le_al _ _) _).drew (le_al _ _) g5 (by omega)); have cw : w5.cell? ⟨wr.heap.size, 2, none⟩ = some (.int .i64 o.v) := opcell B5.out; have HZ5 : Hid (wr.heap.size + 1 ≤ w5.heap.size) := (by have := g5.size; simp at this; unfold Hid; omega); (first | (have OB : Hid (w5.ownsRow (wr.heap.size + 1) 2 1 (.slice (some ⟨wr.heap.size + 1 + 1, 0, none⟩) 1 1) 1 [.int .i64 o.v]) := own_grown (own_new1 _ _ _ (sz2 _ _ _) (by omega)).drew g5 (by simp [Value.ownBlock] <;> omega)) | (have OB : Hid (w5.ownsRow (wr.heap.size + 1) 2 1 (.slice (some ⟨wr.heap.size + 1, 0, none⟩) 1 1) 1 [.int .i64 o.v]) := own_grown ((own_new1 _ _ _ (sz1 _ _) (by omega)).alloc _).drew g5 (by simp [Value.ownBlock] <;> omega)) | skip); clear h5 g5) | (refine step_append_two rfl (.tmp 55) (.tmp 58) 23 rfl (wr.heap.size + 1) 2 i0 (.int .i64 0) 1 8 Try.underlying23 hi hz0 hz1 hz2 rfl (by decide) v5 ws1.length (ints ws1) rfl (by first | exact H5.out | exact H5.out.alloc _) (wr.heap.size + 1) _ 1 [.int .i64 o.v] rfl (by first | exact OB.out | exact own_new1 _ _ _ rfl HZ5.out) (one_cell1 _) (by unfold maxLen; omega) (by omega) (by have := HZ5.out; simp <;> omega) ?_; intro v6 w6 h6 g6; have H6 : Hid (w6.ownsRow (wr.heap.size + 1) 2 1 v6 (ws1.length + 1) (ints ws1 ++ [.int .i64 o.v])) := h6; have B6 : Hid (Below (wr.heap.size + 1) (wr.alloc (opB o)) w6) := (by first | exact B5.out.grown g6 HZ5.out (fun k hk => (H5.out.lt k hk).1) | exact (below_alloc B5.out (le_al _ _) _).grown g6 (Nat.le_trans (le_al _ _) (below_alloc B5.out (le_al _ _) _).size) (fun k hk => (H5.out.lt k hk).1)); have HM : Hid (RfMid mn most L w v6 u10 k r2 ws2 rs1 w6) := HMK.out v6 w6 (by rw [HW2.out]; exact own_base (by simpa using H6.out) (by omega)) (opbelow B6.out); have cx : w6.cell? ⟨wr.heap.size, 2, none⟩ = some (.int .i64 o.v) := opcell B6.out; clear h6 g6))
              all_goals
                clear cv
                go_wp2_with (at_builtin; refine wpList_append_own _ rfl _ _ 24 rfl w.heap.size 3 i1 (.int .i64 0) 1 8 Try.underlying24 hi1 hy0 hy1 hy2 rfl (by decide) _ _ _ rfl (HM.out.own2.alloc _) ⟨(w6).heap.size, 0, none⟩ 1 1 [.int .i64 (2 * (r : Int))] rfl rfl (one_news _ _ _) (one_cell1 _) (by have := HM.out.count; unfold maxLen; omega) (by have := HM.out.count; omega) (by have := HM.out.below.size; simp; omega) ?_; intro v' w5 hown' hgrow _)
                have HREL : Hid (RfAt mn most L w v6 v' (k + 1) r2 ws2 (rs1 ++ [r2]) w5) := HM.out.next HX.out hown' hgrow
                clear hown' hgrow
                go_wp2
                go_roundw
                case rel => exact ⟨k + 1, r2, ws2, rs1 ++ [r2], by go_num, by rw [← HX.out], HREL.out⟩
                case measure => simp [intOf]; omega
          · have e3 : ((ws1.length : Int) == (r : Int)) = false := by simp; omega
            have HX : Hid ((r : Int) = (r2 : Int)) := by have := HR2.out; rw [if_neg hr] at this; unfold Hid; omega
            clear hr
            go_upto_region 19 with fail
            have cv : (wr.alloc (.cells #[.int .i64 o.kind, .int .i64 o.n, .int .i64 o.v] 36)).cell? ⟨wr.heap.size, 2, none⟩ = some (.int .i64 o.v) := by simp [World.cell?_alloc_mark]
            go_region_held3 (fun w' => w'.cell? ⟨wr.heap.size, 2, none⟩ = some (.int .i64 o.v)) (go_keep) (first | (refine step_append_two rfl (.tmp 53) (.tmp 54) 23 rfl (wr.heap.size + 1) 2 i0 (.int .i64 0) 1 8 Try.underlying23 hi hz0 hz1 hz2 rfl (by decide) _ 0 [] rfl (by first | exact (own_new0 _ _ (sz1 _ _) (by omega)).drew | exact ((own_new0 _ _ (sz1 _ _) (by omega)).alloc _).drew | exact (own_new0 _ _ (sz2 _ _ _) (by omega)).drew) w.heap.size _ ws1.length (ints ws1) rfl (by first | exact ((HA.out.own.alloc _).alloc _).drew | exact (((HA.out.own.alloc _).alloc _).alloc _).drew) (ints_one ws1) (by unfold maxLen; omega) (by omega) (by first | exact le_al2' _ _ _ | exact le_al3 _ _ _ _) ?_; intro v5 w5 h5 g5; simp [Act.eval, Value.ownBlock] at g5; have H5 : Hid (w5.ownsRow (wr.heap.size + 1) 2 1 v5 ws1.length (ints ws1)) := (by unfold Hid; simpa using h5); have B5 : Hid (Below (wr.heap.size + 1) (wr.alloc (opB o)) w5) := (by first | exact below_grown (below_alloc (Below.refl _ _) (le_al _ _) _).drew (le_al _ _) g5 (by omega) | exact below_grown (below_alloc (below_alloc (Below.refl _ _) (le_al _ _) _) (le_al _ _) _).drew (le_al _ _) g5 (by omega)); have cw : w5.cell? ⟨wr.heap.size, 2, none⟩ = some (.int .i64 o.v) := opcell B5.out; have HZ5 : Hid (wr.heap.size + 1 ≤ w5.heap.size) := (by have := g5.size; simp at this; unfold Hid; omega); (first | (have OB : Hid (w5.ownsRow (wr.heap.size + 1) 2 1 (.slice (some ⟨wr.heap.size + 1 + 1, 0, none⟩) 1 1) 1 [.int .i64 o.v]) := own_grown (own_new1 _ _ _ (sz2 _ _ _) (by omega)).drew g5 (by simp [Value.ownBlock] <;> omega)) | (have OB : Hid (w5.ownsRow (wr.heap.size + 1) 2 1 (.slice (some ⟨wr.heap.size + 1, 0, none⟩) 1 1) 1 [.int .i64 o.v]) := own_grown ((own_new1 _ _ _ (sz1 _ _) (by omega)).alloc _).drew g5 (by simp [Value.ownBlock] <;> omega)) | skip); clear h5 g5) | (refine step_append_two rfl (.tmp 55) (.tmp 58) 23 rfl (wr.heap.size + 1) 2 i0 (.int .i64 0) 1 8 Try.underlying23 hi hz0 hz1 hz2 rfl (by decide) v5 ws1.length (ints ws1) rfl (by first | exact H5.out | exact H5.out.alloc _) (wr.heap.size + 1) _ 1 [.int .i64 o.v] rfl (by first | exact OB.out | exact own_new1 _ _ _ rfl HZ5.out) (one_cell1 _) (by unfold maxLen; omega) (by omega) (by have := HZ5.out; simp <;> omega) ?_; intro v6 w6 h6 g6; have H6 : Hid (w6.ownsRow (wr.heap.size + 1) 2 1 v6 (ws1.length + 1) (ints ws1 ++ [.int .i64 o.v])) := h6; have B6 : Hid (Below (wr.heap.size + 1) (wr.alloc (opB o)) w6) := (by first | exact B5.out.grown g6 HZ5.out (fun k hk => (H5.out.lt k hk).1) | exact (below_alloc B5.out (le_al _ _) _).grown g6 (Nat.le_trans (le_al _ _) (below_alloc B5.out (le_al _ _) _).size) (fun k hk => (H5.out.lt k hk).1)); have HM : Hid (RfMid mn most L w v6 u10 k r2 ws2 rs1 w6) := HMK.out v6 w6 (by rw [HW2.out]; exact own_base (by simpa using H6.out) (by omega)) (opbelow B6.out); have cx : w6.cell? ⟨wr.heap.size, 2, none⟩ = some (.int .i64 o.v) := opcell B6.out; clear h6 g6))
            all_goals
              clear cv
              go_wp2_with (at_builtin; refine wpList_append_own _ rfl _ _ 24 rfl w.heap.size 3 i1 (.int .i64 0) 1 8 Try.underlying24 hi1 hy0 hy1 hy2 rfl (by decide) _ _ _ rfl (HM.out.own2.alloc _) ⟨(w6).heap.size, 0, none⟩ 1 1 [.int .i64 ((r : Int))] rfl rfl (one_news _ _ _) (one_cell1 _) (by have := HM.out.count; unfold maxLen; omega) (by have := HM.out.count; omega) (by have := HM.out.below.size; simp; omega) ?_; intro v' w5 hown' hgrow _)
              have HREL : Hid (RfAt mn most L w v6 v' (k + 1) r2 ws2 (rs1 ++ [r2]) w5) := HM.out.next HX.out hown' hgrow
              clear hown' hgrow
              go_wp2
              go_roundw
              case rel => exact ⟨k + 1, r2, ws2, rs1 ++ [r2], by go_num, by rw [← HX.out], HREL.out⟩
              case measure => simp [intOf]; omega
      · have e1 : (o.kind == 1) = false := by simp [hk1]
        by_cases hk2 : o.kind = 2
        · have e2 : (o.kind == 2) = true := by simp [hk2]
          have hE := Sk.err2 most ws1.length o hk2
          by_cases hm : o.n < 0 ∨ (ws1.length : Int) < o.n
          · rw [if_pos hm] at hE
            clear hk1 hk2
            by_cases hm1 : o.n < 0
            · clear hm
              have HFIN : Hid (ws = [] ∧ rs = [] ∧ E = 3 ∧ P = k) := by
                have hh := hgo.out
                rw [HA.out.go, Sk.go_bad HOP.out ws1 r rs1 (by rw [hE]; decide), hE] at hh
                simp only [Prod.mk.injEq] at hh
                exact ⟨hh.1.symm, hh.2.1.symm, hh.2.2.1.symm, hh.2.2.2.symm⟩
              clear hE
              go_wp2
              refine bodyPost_ret (v := .tuple #[.slice none 0 0, .slice none 0 0, .agg #[.int .i64 3, .int .i64 k]]) (by simp [results, Try.results10, go_sem, z0, z1, hN]) rfl ?_
              obtain ⟨rfl, rfl, rfl, rfl⟩ := HFIN.out
              exact ⟨_, _, rfl, World.ownsRow_nil _ _ _ _, World.ownsRow_nil _ _ _ _, ((HA.out.below.setCell (p := ⟨w.heap.size, 0, none⟩) (Nat.le_refl _) _).setCell (p := ⟨w.heap.size, 1, none⟩) (Nat.le_refl _) _).alloc (by simpa using HA.out.below.size) _⟩
            · have hm2 : (ws1.length : Int) < o.n := by omega
              clear hm
              have HFIN : Hid (ws = [] ∧ rs = [] ∧ E = 3 ∧ P = k) := by
                have hh := hgo.out
                rw [HA.out.go, Sk.go_bad HOP.out ws1 r rs1 (by rw [hE]; decide), hE] at hh
                simp only [Prod.mk.injEq] at hh
                exact ⟨hh.1.symm, hh.2.1.symm, hh.2.2.1.symm, hh.2.2.2.symm⟩
              clear hE
              go_wp2
              refine bodyPost_ret (v := .tuple #[.slice none 0 0, .slice none 0 0, .agg #[.int .i64 3, .int .i64 k]]) (by simp [results, Try.results10, go_sem, z0, z1, hN]) rfl ?_
              obtain ⟨rfl, rfl, rfl, rfl⟩ := HFIN.out
              exact ⟨_, _, rfl, World.ownsRow_nil _ _ _ _, World.ownsRow_nil _ _ _ _, ((HA.out.below.setCell (p := ⟨w.heap.size, 0, none⟩) (Nat.le_refl _) _).setCell (p := ⟨w.heap.size, 1, none⟩) (Nat.le_refl _) _).alloc (by simpa using HA.out.below.size) _⟩
          · rw [if_neg hm] at hE
            obtain ⟨q, hq⟩ : ∃ q : Nat, o.n = q := ⟨o.n.toNat, by omega⟩
            obtain ⟨ws2, hws2⟩ : ∃ ws2, ws2 = Sk.wds ws1 o := ⟨_, rfl⟩
            obtain ⟨r2, hr2⟩ : ∃ r2, r2 = Sk.rm mn most r ws1.length o := ⟨_, rfl⟩
            have HW2 : Hid (ws2 = ws1.take (ws1.length - q)) := by unfold Hid; rw [hws2]; unfold Sk.wds; rw [if_neg hk1, if_pos hk2, hq]; rfl
            have er : Sk.rm mn most r ws1.length o = if ws1.length - q ≤ r / 4 ∧ mn < r then max (r / 2) mn else r := by unfold Sk.rm; rw [if_neg hk1, if_pos hk2, hq]; rfl
            have HMK : Hid (∀ (v' : Value) (W : World), W.ownsRow w.heap.size 2 1 v' ws2.length (ints ws2) → Below wr.heap.size wr W → RfMid mn most L w v' u10 k r2 ws2 rs1 W) := fun v' W h1 h2 => HA.out.mid HOP.out hE hws2 hr2 h1 h2
            rw [er] at hr2
            have HR2 := hide hr2
            have hqw : q ≤ ws1.length := by omega
            rw [hq] at c1
            clear er hr2 hws2 hE hk1 hk2 hm hq
            have n1 : ¬ (q : Int) < 0 := by omega
            have n2 : ¬ (ws1.length : Int) < (q : Int) := by omega
            have n3 : (0 : Int) ≤ (ws1.length : Int) - (q : Int) := by omega
            have n4 : (ws1.length : Int) - (q : Int) ≤ (cap : Int) := by omega
            have HM : Hid (RfMid mn most L w (.slice ao (ws1.length - q) cap) u10 k r2 ws2 rs1 (wr.alloc (.cells #[.int .i64 o.kind, .int .i64 q, .int .i64 o.v] 36))) := HMK.out _ _ (by rw [HW2.out]; exact own_takeG (HA.out.own.alloc _) (Nat.sub_le _ _)) ((Below.refl _ wr).alloc (Nat.le_refl _) _)
            by_cases hc1 : ws1.length - q ≤ r / 4
            · have d1 : (4 : Int) * ((ws1.length - q : Nat) : Int) ≤ (r : Int) - (r : Int) % 4 := by omega
              by_cases hc2 : mn < r
              · have d2 : decide ((mn : Int) < (r : Int)) = true := by simp; omega
                by_cases hc3 : r / 2 < mn
                · have HX : Hid ((mn : Int) = (r2 : Int)) := by have := HR2.out; rw [if_pos ⟨hc1, hc2⟩] at this; unfold Hid; omega
                  have d3 : (r : Int) / 2 < (mn : Int) := by omega
                  go_upto_region 35 with fail
                  generalize wr.alloc (.cells #[.int .i64 o.kind, .int .i64 q, .int .i64 o.v] 36) = W7 at HM ⊢
                  generalize hV7 : Value.slice ao (ws1.length - q) cap = V7 at HM ⊢
                  clear hV7
                  go_wp2_with (at_builtin; refine wpList_append_own _ rfl _ _ 24 rfl w.heap.size 3 i1 (.int .i64 0) 1 8 Try.underlying24 hi1 hy0 hy1 hy2 rfl (by decide) _ _ _ rfl (HM.out.own2.alloc _) ⟨(W7).heap.size, 0, none⟩ 1 1 [.int .i64 ((mn : Int))] rfl rfl (one_news _ _ _) (one_cell1 _) (by have := HM.out.count; unfold maxLen; omega) (by have := HM.out.count; omega) (by have := HM.out.below.size; simp; omega) ?_; intro v' w5 hown' hgrow _)
                  have HREL : Hid (RfAt mn most L w V7 v' (k + 1) r2 ws2 (rs1 ++ [r2]) w5) := HM.out.next HX.out hown' hgrow
                  clear hown' hgrow
                  go_wp2
                  go_roundw
                  case rel => exact ⟨k + 1, r2, ws2, rs1 ++ [r2], by go_num, by rw [← HX.out], HREL.out⟩
                  case measure => simp [intOf]; omega
                · have HX : Hid ((r : Int) / 2 = (r2 : Int)) := by have := HR2.out; rw [if_pos ⟨hc1, hc2⟩] at this; unfold Hid; omega
                  have d3 : ¬ (r : Int) / 2 < (mn : Int) := by omega
                  go_upto_region 35 with fail
                  generalize wr.alloc (.cells #[.int .i64 o.kind, .int .i64 q, .int .i64 o.v] 36) = W7 at HM ⊢
                  generalize hV7 : Value.slice ao (ws1.length - q) cap = V7 at HM ⊢
                  clear hV7
                  go_wp2_with (at_builtin; refine wpList_append_own _ rfl _ _ 24 rfl w.heap.size 3 i1 (.int .i64 0) 1 8 Try.underlying24 hi1 hy0 hy1 hy2 rfl (by decide) _ _ _ rfl (HM.out.own2.alloc _) ⟨(W7).heap.size, 0, none⟩ 1 1 [.int .i64 ((r : Int) / 2)] rfl rfl (one_news _ _ _) (one_cell1 _) (by have := HM.out.count; unfold maxLen; omega) (by have := HM.out.count; omega) (by have := HM.out.below.size; simp; omega) ?_; intro v' w5 hown' hgrow _)
                  have HREL : Hid (RfAt mn most L w V7 v' (k + 1) r2 ws2 (rs1 ++ [r2]) w5) := HM.out.next HX.out hown' hgrow
                  clear hown' hgrow
                  go_wp2
                  go_roundw
                  case rel => exact ⟨k + 1, r2, ws2, rs1 ++ [r2], by go_num, by rw [← HX.out], HREL.out⟩
                  case measure => simp [intOf]; omega
              · have HX : Hid ((r : Int) = (r2 : Int)) := by have := HR2.out; rw [if_neg (fun h => hc2 h.2)] at this; unfold Hid; omega
                have d2 : decide ((mn : Int) < (r : Int)) = false := by simp; omega
                go_upto_region 35 with fail
                generalize wr.alloc (.cells #[.int .i64 o.kind, .int .i64 q, .int .i64 o.v] 36) = W7 at HM ⊢
                generalize hV7 : Value.slice ao (ws1.length - q) cap = V7 at HM ⊢
                clear hV7
                go_wp2_with (at_builtin; refine wpList_append_own _ rfl _ _ 24 rfl w.heap.size 3 i1 (.int .i64 0) 1 8 Try.underlying24 hi1 hy0 hy1 hy2 rfl (by decide) _ _ _ rfl (HM.out.own2.alloc _) ⟨(W7).heap.size, 0, none⟩ 1 1 [.int .i64 ((r : Int))] rfl rfl (one_news _ _ _) (one_cell1 _) (by have := HM.out.count; unfold maxLen; omega) (by have := HM.out.count; omega) (by have := HM.out.below.size; simp; omega) ?_; intro v' w5 hown' hgrow _)
                have HREL : Hid (RfAt mn most L w V7 v' (k + 1) r2 ws2 (rs1 ++ [r2]) w5) := HM.out.next HX.out hown' hgrow
                clear hown' hgrow
                go_wp2
                go_roundw
                case rel => exact ⟨k + 1, r2, ws2, rs1 ++ [r2], by go_num, by rw [← HX.out], HREL.out⟩
                case measure => simp [intOf]; omega
            · have HX : Hid ((r : Int) = (r2 : Int)) := by have := HR2.out; rw [if_neg (fun h => hc1 h.1)] at this; unfold Hid; omega
              have d1 : ¬ (4 : Int) * ((ws1.length - q : Nat) : Int) ≤ (r : Int) - (r : Int) % 4 := by omega
              go_upto_region 35 with fail
              generalize wr.alloc (.cells #[.int .i64 o.kind, .int .i64 q, .int .i64 o.v] 36) = W7 at HM ⊢
              generalize hV7 : Value.slice ao (ws1.length - q) cap = V7 at HM ⊢
              clear hV7
              go_wp2_with (at_builtin; refine wpList_append_own _ rfl _ _ 24 rfl w.heap.size 3 i1 (.int .i64 0) 1 8 Try.underlying24 hi1 hy0 hy1 hy2 rfl (by decide) _ _ _ rfl (HM.out.own2.alloc _) ⟨(W7).heap.size, 0, none⟩ 1 1 [.int .i64 ((r : Int))] rfl rfl (one_news _ _ _) (one_cell1 _) (by have := HM.out.count; unfold maxLen; omega) (by have := HM.out.count; omega) (by have := HM.out.below.size; simp; omega) ?_; intro v' w5 hown' hgrow _)
              have HREL : Hid (RfAt mn most L w V7 v' (k + 1) r2 ws2 (rs1 ++ [r2]) w5) := HM.out.next HX.out hown' hgrow
              clear hown' hgrow
              go_wp2
              go_roundw
              case rel => exact ⟨k + 1, r2, ws2, rs1 ++ [r2], by go_num, by rw [← HX.out], HREL.out⟩
              case measure => simp [intOf]; omega
        · have e2 : (o.kind == 2) = false := by simp [hk2]
          by_cases hk3 : o.kind = 3
          · have e3 : (o.kind == 3) = true := by simp [hk3]
            have hE := Sk.err3 most ws1.length o hk3
            by_cases hm : o.n < 0 ∨ (ws1.length : Int) ≤ o.n
            · rw [if_pos hm] at hE
              clear hk1 hk2 hk3
              by_cases hm1 : o.n < 0
              · clear hm
                have HFIN : Hid (ws = [] ∧ rs = [] ∧ E = 3 ∧ P = k) := by
                  have hh := hgo.out
                  rw [HA.out.go, Sk.go_bad HOP.out ws1 r rs1 (by rw [hE]; decide), hE] at hh
                  simp only [Prod.mk.injEq] at hh
                  exact ⟨hh.1.symm, hh.2.1.symm, hh.2.2.1.symm, hh.2.2.2.symm⟩
                clear hE
                go_wp2
                refine bodyPost_ret (v := .tuple #[.slice none 0 0, .slice none 0 0, .agg #[.int .i64 3, .int .i64 k]]) (by simp [results, Try.results10, go_sem, z0, z1, hN]) rfl ?_
                obtain ⟨rfl, rfl, rfl, rfl⟩ := HFIN.out
                exact ⟨_, _, rfl, World.ownsRow_nil _ _ _ _, World.ownsRow_nil _ _ _ _, ((HA.out.below.setCell (p := ⟨w.heap.size, 0, none⟩) (Nat.le_refl _) _).setCell (p := ⟨w.heap.size, 1, none⟩) (Nat.le_refl _) _).alloc (by simpa using HA.out.below.size) _⟩
              · have hm2 : (ws1.length : Int) ≤ o.n := by omega
                clear hm
                have HFIN : Hid (ws = [] ∧ rs = [] ∧ E = 3 ∧ P = k) := by
                  have hh := hgo.out
                  rw [HA.out.go, Sk.go_bad HOP.out ws1 r rs1 (by rw [hE]; decide), hE] at hh
                  simp only [Prod.mk.injEq] at hh
                  exact ⟨hh.1.symm, hh.2.1.symm, hh.2.2.1.symm, hh.2.2.2.symm⟩
                clear hE
                go_wp2
                refine bodyPost_ret (v := .tuple #[.slice none 0 0, .slice none 0 0, .agg #[.int .i64 3, .int .i64 k]]) (by simp [results, Try.results10, go_sem, z0, z1, hN]) rfl ?_
                obtain ⟨rfl, rfl, rfl, rfl⟩ := HFIN.out
                exact ⟨_, _, rfl, World.ownsRow_nil _ _ _ _, World.ownsRow_nil _ _ _ _, ((HA.out.below.setCell (p := ⟨w.heap.size, 0, none⟩) (Nat.le_refl _) _).setCell (p := ⟨w.heap.size, 1, none⟩) (Nat.le_refl _) _).alloc (by simpa using HA.out.below.size) _⟩
            · rw [if_neg hm] at hE
              obtain ⟨q, hq⟩ : ∃ q : Nat, o.n = q := ⟨o.n.toNat, by omega⟩
              obtain ⟨ws2, hws2⟩ : ∃ ws2, ws2 = Sk.wds ws1 o := ⟨_, rfl⟩
              obtain ⟨r2, hr2⟩ : ∃ r2, r2 = Sk.rm mn most r ws1.length o := ⟨_, rfl⟩
              have HW2 : Hid (ws2 = ws1.set q o.v) := by unfold Hid; rw [hws2]; unfold Sk.wds; rw [if_neg hk1, if_neg hk2, if_pos hk3, hq]; rfl
              have er : Sk.rm mn most r ws1.length o = r := by unfold Sk.rm; rw [if_neg hk1, if_neg hk2]
              have HMK : Hid (∀ (v' : Value) (W : World), W.ownsRow w.heap.size 2 1 v' ws2.length (ints ws2) → Below wr.heap.size wr W → RfMid mn most L w v' u10 k r2 ws2 rs1 W) := fun v' W h1 h2 => HA.out.mid HOP.out hE hws2 hr2 h1 h2
              rw [er] at hr2
              have HX : Hid ((r : Int) = (r2 : Int)) := by unfold Hid; omega
              have hqw : q < ws1.length := by omega
              rw [hq] at c1
              clear er hr2 hws2 hE hk1 hk2 hk3 hm hq
              have n1 : ¬ (q : Int) < 0 := by omega
              have n2 : ¬ (ws1.length : Int) ≤ (q : Int) := by omega
              go_upto_region 32 with (at_builtin; refine wpList_append_two rfl _ _ 23 rfl (wr.heap.size + 1) 2 i0 (.int .i64 0) 1 8 Try.underlying23 hi hz0 hz1 hz2 rfl (by decide) (.slice (some ⟨wr.heap.size + 1, 0, none⟩) 0 0) 0 [] rfl (own_new0 _ _ (sz1 _ _) (Nat.le_refl _)) w.heap.size (.slice ao ws1.length cap) ws1.length (ints ws1) rfl ((HA.out.own.alloc _).alloc _) (ints_one ws1) (by unfold maxLen; omega) (by omega) (le_al2 _ _ _) ?_; intro v5 w5 h5 g5)
              simp only [Nat.zero_add, List.nil_append] at h5
              have B5 : Hid (Below (wr.heap.size + 1) (wr.alloc (.cells #[.int .i64 o.kind, .int .i64 q, .int .i64 o.v] 36)) w5) := below_grown (q := wr.heap.size + 1) (below_alloc (Below.refl _ _) (le_al _ _) _) (le_al _ _) g5 (Nat.le_refl _)
              obtain ⟨gg, cap5, u5, rfl, k1, k2, k3, k4, k5⟩ := own_cell h5 hqw
              have HK5 := hide k5
              have j1 : w5.cell? ⟨wr.heap.size, 1, none⟩ = some (.int .i64 q) := by rw [B5.out.cell (p := ⟨wr.heap.size, 1, none⟩) (Nat.lt_succ_self _)]; simp [World.cell?_alloc_mark]
              have j2 : w5.cell? ⟨wr.heap.size, 2, none⟩ = some (.int .i64 o.v) := by rw [B5.out.cell (p := ⟨wr.heap.size, 2, none⟩) (Nat.lt_succ_self _)]; simp [World.cell?_alloc_mark]
              have HM : Hid (RfMid mn most L w (.slice (some ⟨gg, 0, none⟩) ws1.length cap5) u10 k r2 ws2 rs1 (w5.setCell ⟨gg, q, none⟩ (.int .i64 o.v))) := HMK.out _ _ (by rw [HW2.out, List.length_set]; exact own_base (HK5.out o.v) (by omega)) ((((Below.refl _ wr).alloc (Nat.le_refl _) _).trans (B5.out.mono (Nat.le_succ _))).setCell (by show wr.heap.size ≤ gg; omega) _)
              have n3 : (0 : Int) ≤ (q : Int) := by omega
              have n4 : (q : Int) < (ws1.length : Int) := by omega
              clear h5 g5 k5 k4
              go_upto_region 35 with fail
              generalize w5.setCell ⟨gg, q, none⟩ (.int .i64 o.v) = W7 at HM ⊢
              go_wp2_with (at_builtin; refine wpList_append_own _ rfl _ _ 24 rfl w.heap.size 3 i1 (.int .i64 0) 1 8 Try.underlying24 hi1 hy0 hy1 hy2 rfl (by decide) _ _ _ rfl (HM.out.own2.alloc _) ⟨(W7).heap.size, 0, none⟩ 1 1 [.int .i64 ((r : Int))] rfl rfl (one_news _ _ _) (one_cell1 _) (by have := HM.out.count; unfold maxLen; omega) (by have := HM.out.count; omega) (by have := HM.out.below.size; simp; omega) ?_; intro v' w5 hown' hgrow _)
              have HREL : Hid (RfAt mn most L w (.slice (some ⟨gg, 0, none⟩) ws1.length cap5) v' (k + 1) r2 ws2 (rs1 ++ [r2]) w5) := HM.out.next HX.out hown' hgrow
              clear hown' hgrow
              go_wp2
              go_roundw
              case rel => exact ⟨k + 1, r2, ws2, rs1 ++ [r2], by go_num, by rw [← HX.out], HREL.out⟩
              case measure => simp [intOf]; omega
          · have e3 : (o.kind == 3) = false := by simp [hk3]
            have hE := Sk.err0 most ws1.length o hk1 hk2 hk3
            clear hk1 hk2 hk3
            have HFIN : Hid (ws = [] ∧ rs = [] ∧ E = 1 ∧ P = k) := by
              have hh := hgo.out
              rw [HA.out.go, Sk.go_bad HOP.out ws1 r rs1 (by rw [hE]; decide), hE] at hh
              simp only [Prod.mk.injEq] at hh
              exact ⟨hh.1.symm, hh.2.1.symm, hh.2.2.1.symm, hh.2.2.2.symm⟩
            clear hE
            go_wp2
            refine bodyPost_ret (v := .tuple #[.slice none 0 0, .slice none 0 0, .agg #[.int .i64 1, .int .i64 k]]) (by simp [results, Try.results10, go_sem, z0, z1, hN]) rfl ?_
            obtain ⟨rfl, rfl, rfl, rfl⟩ := HFIN.out
            exact ⟨_, _, rfl, World.ownsRow_nil _ _ _ _, World.ownsRow_nil _ _ _ _, ((HA.out.below.setCell (p := ⟨w.heap.size, 0, none⟩) (Nat.le_refl _) _).setCell (p := ⟨w.heap.size, 1, none⟩) (Nat.le_refl _) _).alloc (by simpa using HA.out.below.size) _⟩
    · have HFIN : Hid (ws = ws1 ∧ rs = rs1 ∧ E = 0 ∧ P = 0) := by
        have hh := hgo.out
        rw [HA.out.go, Sk.go_end (by omega)] at hh
        simp only [Prod.mk.injEq] at hh
        exact ⟨hh.1.symm, hh.2.1.symm, hh.2.2.1.symm, hh.2.2.2.symm⟩
      have HN1 : Hid (u10.ownBlock ≠ some w.heap.size) := own_ty HA.out.own2 HA.out.zf (by decide)
      have HN2 : Hid ((Value.slice ao ws1.length cap).ownBlock ≠ some w.heap.size) := own_ty HA.out.own HA.out.zf (by decide)
      go_wp2
      refine bodyPost_ret (v := .tuple #[.slice ao ws1.length cap, u10, .agg #[.int .i64 0, .int .i64 0]]) (by simp [results, Try.results10, go_sem, z0, z1]) rfl ?_
      obtain ⟨rfl, rfl, rfl, rfl⟩ := HFIN.out
      refine ⟨_, u10, rfl, ?_, ?_, (HA.out.below.setCell (p := ⟨w.heap.size, 0, none⟩) (Nat.le_refl _) _).setCell (p := ⟨w.heap.size, 1, none⟩) (Nat.le_refl _) _⟩
      · exact ownsRow_setCell_other (a := ⟨w.heap.size, 1, none⟩) (ownsRow_setCell_other (a := ⟨w.heap.size, 0, none⟩) HA.out.own HN2.out _) HN2.out _
      · exact ownsRow_setCell_other (a := ⟨w.heap.size, 1, none⟩) (ownsRow_setCell_other (a := ⟨w.heap.size, 0, none⟩) HA.out.own2 HN1.out _) HN1.out _

/-- WHAT THE DOCUMENT's Play ANSWERS. -/
theorem rplay_any (mn most : Int) (L : List Sk.Op) (a : Option Addr) (c : Nat) (w : World) (hin : Hid (OpsIn w.heap.size w L a)) (hlen : L.length ≤ 8796093022208) (ws : List Int) (rs : List Nat) (E P : Nat) (hgo : Hid (Sk.play mn most L = (ws, rs, E, P))) :
    Calls Try.prog 10 #[.int .i64 mn, .int .i64 most, .slice a L.length c] w fun e w' => ∃ v1 v2, e = .returned (.tuple #[v1, v2, .agg #[.int .i64 E, .int .i64 P]]) ∧ w'.ownsRow w.heap.size 2 1 v1 ws.length (ints ws) ∧ w'.ownsRow w.heap.size 3 1 v2 rs.length (nats rs) ∧ Below w.heap.size w w' := by
  by_cases h : mn < 1 ∨ most < mn ∨ 400 < most
  · refine (rplay_range mn most L a c w h).mono ?_
    rintro e w' ⟨rfl, hb⟩
    have hh := hgo.out
    unfold Sk.play at hh
    rw [if_pos h] at hh
    simp only [Prod.mk.injEq] at hh
    obtain ⟨rfl, rfl, rfl, rfl⟩ := hh
    exact ⟨_, _, rfl, World.ownsRow_nil _ _ _ _, World.ownsRow_nil _ _ _ _, hb⟩
  · have hh := hgo.out
    unfold Sk.play at hh
    rw [if_neg h] at hh
    obtain ⟨m, rfl⟩ : ∃ m : Nat, mn = m := ⟨mn.toNat, by omega⟩
    obtain ⟨t, rfl⟩ : ∃ t : Nat, most = t := ⟨most.toNat, by omega⟩
    simp only [Int.toNat_natCast] at hh
    exact rplay_go m t L a c w hin hlen (by omega) (by omega) (by omega) ws rs E P hh

end Go.Proofs.Ytnoecaapmcidhaa
