/- Lists as a task's boxes; nobody hears. -/
import Derived.Test.YtnfbfdajdflfgaaGreatM26
import Derived.Test.YtnfbfdajdflfgaaGreatM4
import Derived.Maps.RangeWalk
namespace Go.Proofs.YtnfbfdajdflfgaaGreat.Vw
open Go.RowKit Vf Vm

theorem lsX_take {x : List Lst} {n : Nat} {q : Lst} (h : x[n]? = some q) : lsX.take x n = x.set n { q with took := q.took + 1 } := by simp [lsX, h]
theorem lsX_put {x : List Lst} {n : Nat} {q : Lst} (v : Int) (h : x[n]? = some q) : lsX.put x n v = x.set n { q with sent := q.sent ++ [v] } := by simp [lsX, h]
theorem lsX_empty {x : List Lst} {n : Nat} {q : Lst} (h : x[n]? = some q) : lsX.empty x n = decide (q.took = q.feed.length) := by simp [lsX, h]
theorem lsX_head {x : List Lst} {n : Nat} {q : Lst} (h : x[n]? = some q) : lsX.head x n = (q.feed[q.took]?).getD 0 := by simp [lsX, h]

theorem ls_runF (p : Value) (w : World) : Sem.run Tryz.prog (do let q ← program; let y ← method (q.types.size + 100) 64 p "Full"; callFunc y.fst #[y.snd]) w = .ok (.enter 117 #[p]) w := by kernel_rfl
theorem ls_runE (p : Value) (w : World) : Sem.run Tryz.prog (do let q ← program; let y ← method (q.types.size + 100) 64 p "Empty"; callFunc y.fst #[y.snd]) w = .ok (.enter 116 #[p]) w := by kernel_rfl
theorem ls_runP (p v : Value) (w : World) : Sem.run Tryz.prog (do let q ← program; let y ← method (q.types.size + 100) 64 p "Put"; callFunc y.fst #[y.snd, v]) w = .ok (.enter 118 #[p, v]) w := by kernel_rfl
theorem ls_runT (p : Value) (w : World) : Sem.run Tryz.prog (do let q ← program; let y ← method (q.types.size + 100) 64 p "Take"; callFunc y.fst #[y.snd]) w = .ok (.enter 119 #[p]) w := by kernel_rfl

theorem box_ls (Q : Nat → Nat) (nb rb off : Nat) (c : Cx) (n : Nat) (hn : n < nb) : BoxAt (lsE Q nb rb off) lsX c n 64 (.pointer (some ⟨Q n, 0, none⟩)) 117 116 118 119 := by
  have at' : ∀ (L : Lab) (w : World) (x : List Lst), LsEn Q nb rb off L w x → ∃ q af cf vS, x[n]? = some q ∧ LAt L w (Q n) n q af cf vS := fun L w x h => by
    obtain ⟨q, hq⟩ : ∃ q, x[n]? = some q := ⟨_, List.getElem?_eq_getElem (by have := h.len; omega)⟩
    obtain ⟨af, cf, vS, hA⟩ := h.lists n q hq
    exact ⟨q, af, cf, vS, hq, hA⟩
  refine ⟨ls_runF _, ls_runE _, ls_runP _, ls_runT _, fun L w l x h => ?_, fun L w l x h => ?_, fun L w l x v h hk hm => ?_, fun L w l x h hk hm => ?_⟩
  · exact full_ls (Q n) w
  · obtain ⟨q, af, cf, vS, hq, hA⟩ := at' L w x h.out
    rw [lsX_empty hq]
    exact empty_ls L (Q n) n q af cf vS w (Sb.hide hA) _ (Sb.hide rfl)
  · obtain ⟨q, af, cf, vS, hq, hA⟩ := at' L w x h.out
    rw [lsX_put v hq]
    refine (put_ls L (Q n) n q af cf vS w (Sb.hide hA) v (hm.out q hq)).mono ?_
    rintro e w' ⟨rfl, R, cap, w4, rfl, h1, h2, h3⟩
    exact ⟨rfl, h.out.put hk.out hq hA h1 h2 h3⟩
  · obtain ⟨q, af, cf, vS, hq, hA⟩ := at' L w x h.out
    have hne := hm.out
    rw [lsX_empty hq] at hne
    have ht := hA.took
    have hlt : q.took < q.feed.length := by simp at hne; omega
    rw [lsX_take hq, lsX_head hq]
    obtain ⟨u, hu⟩ : ∃ u, q.feed[q.took]? = some u := ⟨_, List.getElem?_eq_getElem hlt⟩
    rw [hu]
    refine (take_ls L (Q n) n q af cf vS w (Sb.hide hA) u (Sb.hide hu)).mono ?_
    rintro e w' ⟨rfl, h1, h2⟩
    exact ⟨rfl, h.out.take hk.out hq hA h1 h2⟩
theorem boxes_ls (Q : Nat → Nat) (rb off cap : Nat) (c : Cx) : BoxesAt (lsE Q c.m.boxes.length rb off) lsX c (.slice (some ⟨rb, off, none⟩) c.m.boxes.length cap) :=
  ⟨fun n hn => ⟨rb, off, cap, _, _, _, _, _, _, rfl, fun _ _ _ _ h => (LsEn.row h n hn).2.2, box_ls Q _ rb off c n hn⟩⟩

theorem LsEn.below {Q : Nat → Nat} {nb rb off : Nat} {L : Lab} {w w' : World} {x : List Lst} (h : LsEn Q nb rb off L w x) (hb : Below w.heap.size w w') : LsEn Q nb rb off L w' x := (lsE Q nb rb off).keep (l := []) h (.refl _ _) hb.size (fun b hs _ => hb.block b hs)

theorem hears_ls (Q : Nat → Nat) (nb rb off : Nat) (c : Cx) : Hears (lsE Q nb rb off) c 26 #[] := by
  refine ⟨fun args w => by kernel_rfl, fun e L w l x h hk _ => (nobody e w).mono ?_⟩
  rintro r w' ⟨rfl, hb⟩
  exact ⟨rfl, L, LsEn.below h.out hb, ⟨.refl _ _, fun b => .inl rfl⟩, hk.out.on hb.size, Chg.of_below hb⟩
end Go.Proofs.YtnfbfdajdflfgaaGreat.Vw

/- The walk of speak, a kind of instruction each. -/
namespace Go.Proofs.YtnfbfdajdflfgaaGreat
open Go.RowKit

set_option maxRecDepth 100000 in
set_option maxHeartbeats 2000000 in
theorem speak23 (c : FC) (F B : Nat) (top : Option Addr) (st : List Int) (f : Vf.Fl) (n : Int) (row : Value) (nn : Int) (k : Nat) (u : Vf.Un) (hu : Hid (c.m.units[k]? = some u)) (hp : Hid (0 ≤ u.params ∧ u.params ≤ u.locals.length ∧ u.locals.length ≤ 200)) (pl : List Int) (hpl : Hid (pl = u.locals.take u.params.toNat)) (w : World) (h : Hid (FlIn c w F top st f n row)) (hE : Hid (Env c B F w)) (hl : st.length ≤ 300) (r : Except Int (List Int)) (hr : Hid (r = Vf.turn u.result pl st)) :
    Calls Tryz.prog 87 #[.pointer (some ⟨F, 0, none⟩), .agg #[.int .i64 23, .int .i64 (k : Int), .int .i64 nn]] w fun e w' => SEnds c F f n row r w e w' := by
  have hlt := hE.out.lt
  have hBF := hE.out.base
  obtain ⟨b, off, al, cl, ac, cc, ha, hb, hui, u0, u1, u2, u3, u4, u5⟩ := hE.out.md.units k u hu.out
  have hku : k < c.m.units.length := (List.getElem?_eq_some_iff.1 hu.out).1
  have hk1 : (k : Int) < (c.m.units.length : Int) := by omega
  have hF0 := hide (h.out.alloc (insO 23 (k : Int) nn))
  have d1 : (w.alloc (insO 23 (k : Int) nn)).cell? ⟨F, 1, none⟩ = some (.slice (some ⟨b, off, none⟩) c.m.units.length c.cu) := by have := (fl_cells hF0.out.blk).2.1; rw [ha] at this; exact this
  have d2 : (w.alloc (insO 23 (k : Int) nn)).cell? ⟨w.heap.size, 1, none⟩ = some (.int .i64 (k : Int)) := (ins_cells (alloc_at w _)).2.1
  have d3 : (w.alloc (insO 23 (k : Int) nn)).cell? ⟨b, off + k * 6 + 3, none⟩ = some (.int .i64 u.result) := (cell_new _ _ (by omega)).trans u3
  have HA := hide ha
  clear hui u0 u1 u2 u3 u4 u5 ha
  have hpll : pl.length < 1000 := by rw [hpl.out]; have := hp.out.2.2; simp; omega
  go_enter Tryz.func87, Tryz.ntmps87
  go_wp2_with fail
  refine wp_region_held_drew (S := fun w' => w'.cell? ⟨F, 1, none⟩ = some (.slice (some ⟨b, off, none⟩) c.m.units.length c.cu) ∧ w'.cell? ⟨w.heap.size, 1, none⟩ = some (.int .i64 (k : Int)) ∧ w'.cell? ⟨b, off + k * 6 + 3, none⟩ = some (.int .i64 u.result)) (by kernel_rfl) ⟨d1, d2, d3⟩ (fun hHeld => ?_)
  refine wpAnyH_take (i := 0) (oi := _) (v := ?_) rfl (by kernel_rfl) (by kernel_rfl) (by kernel_rfl) (fun _ _ _ h => h) (Or.inl ⟨by rfl, ?_⟩) (by assumption) ?_
  rotate_left
  · intro w hSw
    (try dsimp only at hSw)
    go_simp
    (try with_reducible rfl)
  (try go_frame)
  refine wpAnyH_take (i := 1) (oi := _) (v := ?_) rfl (by kernel_rfl) (by kernel_rfl) (by kernel_rfl) (fun _ _ _ h => h) (Or.inl ⟨by rfl, ?_⟩) (by assumption) ?_
  rotate_left
  · intro w hSw
    (try dsimp only at hSw)
    go_simp
    (try with_reducible rfl)
  (try go_frame)
  refine wpAnyH_take (i := 2) (oi := _) (v := ?_) rfl (by kernel_rfl) (by kernel_rfl) (by kernel_rfl) (fun _ _ _ h => h) (Or.inl ⟨by rfl, ?_⟩) (by assumption) ?_
  rotate_left
  · intro w hSw
    (try dsimp only at hSw)
    go_simp
    (try with_reducible rfl)
  (try go_frame)
  refine wpAnyH_take (i := 3) (oi := _) (v := ?_) rfl (by kernel_rfl) (by kernel_rfl) (by kernel_rfl) (fun _ _ _ h => h) (Or.inl ⟨by rfl, ?_⟩) (by assumption) ?_
  rotate_left
  · intro w hSw
    (try dsimp only at hSw)
    go_simp
    (try with_reducible rfl)
  (try go_frame)
  refine wpAnyH_take (i := 4) (oi := _) (v := ?_) rfl (by kernel_rfl) (by kernel_rfl) (by kernel_rfl) (fun _ _ _ h => h) (Or.inl ⟨by rfl, ?_⟩) (by assumption) ?_
  rotate_left
  · intro w hSw
    (try dsimp only at hSw)
    go_simp
    (try with_reducible rfl)
  (try go_frame)
  refine wpAnyH_take (i := 5) (oi := _) (v := ?_) rfl (by kernel_rfl) (by kernel_rfl) (by kernel_rfl) (fun _ _ _ h => h) (Or.inl ⟨by rfl, ?_⟩) (by assumption) ?_
  rotate_left
  · intro w hSw
    (try dsimp only at hSw)
    go_simp
    (try with_reducible rfl)
  (try go_frame)
  refine wpAnyH_take (i := 6) (oi := _) (v := ?_) rfl (by kernel_rfl) (by kernel_rfl) (by kernel_rfl) (fun _ _ _ h => h) (Or.inl ⟨by rfl, ?_⟩) (by assumption) ?_
  rotate_left
  · intro w hSw
    (try dsimp only at hSw)
    go_simp
    (try with_reducible rfl)
  (try go_frame)
  refine wpAnyH_take (i := 7) (oi := _) (v := ?_) rfl (by kernel_rfl) (by kernel_rfl) (by kernel_rfl) (fun _ _ _ h => h) (Or.inl ⟨by rfl, ?_⟩) (by assumption) ?_
  rotate_left
  · intro w hSw
    (try dsimp only at hSw)
    go_simp
    (try with_reducible rfl)
  (try go_frame)
  refine wpAnyH_take (i := 8) (oi := _) (v := ?_) rfl (by kernel_rfl) (by kernel_rfl) (by kernel_rfl) (fun _ _ _ h => h) (Or.inl ⟨by rfl, ?_⟩) (by assumption) ?_
  rotate_left
  · intro w hSw
    (try dsimp only at hSw)
    go_simp
    (try with_reducible rfl)
  (try go_frame)
  refine wpAnyH_take (i := 9) (oi := _) (v := ?_) rfl (by kernel_rfl) (by kernel_rfl) (by kernel_rfl) (fun _ _ _ h => h) (Or.inl ⟨by rfl, ?_⟩) (by assumption) ?_
  rotate_left
  · intro w hSw
    (try dsimp only at hSw)
    go_simp
    (try with_reducible rfl)
  (try go_frame)
  refine wpAnyH_take (i := 10) (oi := _) (v := ?_) rfl (by kernel_rfl) (by kernel_rfl) (by kernel_rfl) (fun _ _ _ h => h) (Or.inl ⟨by rfl, ?_⟩) (by assumption) ?_
  rotate_left
  · intro w hSw
    (try dsimp only at hSw)
    go_simp
    (try with_reducible rfl)
  (try go_frame)
  refine wpAnyH_take (i := 11) (oi := _) (v := ?_) rfl (by kernel_rfl) (by kernel_rfl) (by kernel_rfl) (fun _ _ _ h => h) (Or.inl ⟨by rfl, ?_⟩) (by assumption) ?_
  rotate_left
  · intro w hSw
    (try dsimp only at hSw)
    go_simp
    (try with_reducible rfl)
  (try go_frame)
  refine wpAnyH_take (i := 12) (oi := _) (v := ?_) rfl (by kernel_rfl) (by kernel_rfl) (by kernel_rfl) (fun _ _ _ h => h) (Or.inl ⟨by rfl, ?_⟩) (by assumption) ?_
  rotate_left
  · intro w hSw
    (try dsimp only at hSw)
    go_simp
    (try with_reducible rfl)
  (try go_frame)
  refine wpAnyH_take (i := 13) (oi := _) (v := ?_) rfl (by kernel_rfl) (by kernel_rfl) (by kernel_rfl) (fun _ _ _ h => h) (Or.inl ⟨by rfl, ?_⟩) (by assumption) ?_
  rotate_left
  · intro w hSw
    (try dsimp only at hSw)
    go_simp
    (try with_reducible rfl)
  (try go_frame)
  refine wpAnyH_take (i := 14) (oi := _) (v := ?_) rfl (by kernel_rfl) (by kernel_rfl) (by kernel_rfl) (fun _ _ _ h => h) (Or.inl ⟨by rfl, ?_⟩) (by assumption) ?_
  rotate_left
  · intro w hSw
    (try dsimp only at hSw)
    go_simp
    (try with_reducible rfl)
  (try go_frame)
  refine wpAnyH_take (i := 15) (oi := _) (v := ?_) rfl (by kernel_rfl) (by kernel_rfl) (by kernel_rfl) (fun _ _ _ h => h) (Or.inl ⟨by rfl, ?_⟩) (by assumption) ?_
  rotate_left
  · intro w hSw
    (try dsimp only at hSw)
    go_simp
    (try with_reducible rfl)
  (try go_frame)
  refine wpAnyH_ready (rs := [16]) (by kernel_rfl) (by simp) ?_
  refine AllReadyH.cons (o := _) rfl (fun K hK => ?_) AllReadyH.nil
  go_simp
  refine (params_any c F B top st f n row k u _ (hide hF0.out.drew) (hide (hE.out.grown (grown_new _)).drew) hu hp pl hpl).mono ?_
  rintro e w2 ⟨⟨a2, cp, rfl, hI⟩, hg2, hF2⟩
  have HG2 : Hid (w.grownBy w2 (some F)) := grown_tr (grown_new _) (grown_drew hg2)
  have HS2 : Hid (∀ w3, w2.grownBy w3 (some F) → w3.cell? ⟨F, 1, none⟩ = some (.slice c.au c.m.units.length c.cu) → (w3.cell? ⟨F, 1, none⟩ = some (.slice (some ⟨b, off, none⟩) c.m.units.length c.cu) ∧ w3.cell? ⟨w.heap.size, 1, none⟩ = some (.int .i64 (k : Int)) ∧ w3.cell? ⟨b, off + k * 6 + 3, none⟩ = some (.int .i64 u.result))) := fun w3 hg3 h1 => ⟨by rw [h1, HA.out], (cell_eq (kept (grown_tr (grown_drew hg2) hg3) (by simp) (by omega)) _).trans d2, (cell_eq (kept (grown_tr (grown_drew hg2) hg3) (by simp; omega) (by omega)) _).trans d3⟩
  have HF2 := hide hF2
  have HI := hide hI
  refine hK.out _ _ (HS2.out w2 (grown_refl _ _) (fl_cells hF2.blk).2.1) (fun hHeld => ?_)
  clear hK hI hF2 hg2
  refine wpAnyH_ready (rs := [17]) (by kernel_rfl) (by simp) ?_
  refine AllReadyH.cons (o := _) rfl (fun K hK => ?_) AllReadyH.nil
  go_simp
  refine (turn_any c F B top st f n row u.result pl a2 cp _ HF2 (by omega) hpll HI (by have := HG2.out.size; omega) (hide (fun b off _ hb => by omega)) r hr).mono ?_
  rintro e w9 hS
  have HG9 : Hid (w.grownBy w9 (some F)) := grown_tr HG2.out hS.grown
  cases r with
  | error er =>
    obtain rfl := hS.no er rfl
    clear hS hK
    go_wp2
    exact ⟨rfl, SEnds.bad HG9.out rfl⟩
  | ok st9 =>
    obtain ⟨rfl, top9, hF9⟩ := hS.yes st9 rfl
    have HF9 := hide hF9
    refine hK.out _ _ (HS2.out w9 hS.grown (fl_cells HF9.out.blk).2.1) (fun hHeld => ?_)
    clear hK hS hF9
    refine wpAnyH_done (by kernel_rfl) ?_ _
    go_wp2
    go_end0
    exact SEnds.good HG9.out rfl HF9.out

set_option maxRecDepth 100000 in
set_option maxHeartbeats 2000000 in
theorem speak29 (c : FC) (F B : Nat) (top : Option Addr) (st : List Int) (f : Vf.Fl) (n : Int) (row : Value) (nn : Int) (k : Nat) (u : Vf.Un) (hu : Hid (c.m.units[k]? = some u)) (hp : Hid (0 ≤ u.params ∧ u.params ≤ u.locals.length ∧ u.locals.length ≤ 200)) (hun : c.m.units.length ≤ 30) (pl : List Int) (hpl : Hid (pl = u.locals.take u.params.toNat)) (w : World) (h : Hid (FlIn c w F top st f n row)) (hE : Hid (Env c B F w)) (hl : st.length ≤ 300) (r : Except Int (List Int)) (hr : Hid (r = Vf.turn (10 + (k : Int)) pl st)) :
    Calls Tryz.prog 87 #[.pointer (some ⟨F, 0, none⟩), .agg #[.int .i64 29, .int .i64 (k : Int), .int .i64 nn]] w fun e w' => SEnds c F f n row r w e w' := by
  have hlt := hE.out.lt
  have hBF := hE.out.base
  obtain ⟨b, off, al, cl, ac, cc, ha, hb, hui, u0, u1, u2, u3, u4, u5⟩ := hE.out.md.units k u hu.out
  have hku : k < c.m.units.length := (List.getElem?_eq_some_iff.1 hu.out).1
  have hk1 : (k : Int) < (c.m.units.length : Int) := by omega
  have hF0 := hide (h.out.alloc (insO 29 (k : Int) nn))
  have d1 : (w.alloc (insO 29 (k : Int) nn)).cell? ⟨F, 1, none⟩ = some (.slice (some ⟨b, off, none⟩) c.m.units.length c.cu) := by have := (fl_cells hF0.out.blk).2.1; rw [ha] at this; exact this
  have d2 : (w.alloc (insO 29 (k : Int) nn)).cell? ⟨w.heap.size, 1, none⟩ = some (.int .i64 (k : Int)) := (ins_cells (alloc_at w _)).2.1
  have d3 : (w.alloc (insO 29 (k : Int) nn)).cell? ⟨b, off + k * 6 + 3, none⟩ = some (.int .i64 u.result) := (cell_new _ _ (by omega)).trans u3
  have HA := hide ha
  clear hui u0 u1 u2 u3 u4 u5 ha
  have hpll : pl.length < 1000 := by rw [hpl.out]; have := hp.out.2.2; simp; omega
  have e10 : IntKind.i64.wrap (10 + (k : Int)) = 10 + (k : Int) := by simp [IntKind.wrap, IntKind.bits, IntKind.signed]; omega
  go_enter Tryz.func87, Tryz.ntmps87
  go_wp2_with fail
  refine wp_region_held_drew (S := fun w' => w'.cell? ⟨F, 1, none⟩ = some (.slice (some ⟨b, off, none⟩) c.m.units.length c.cu) ∧ w'.cell? ⟨w.heap.size, 1, none⟩ = some (.int .i64 (k : Int)) ∧ w'.cell? ⟨b, off + k * 6 + 3, none⟩ = some (.int .i64 u.result)) (by kernel_rfl) ⟨d1, d2, d3⟩ (fun hHeld => ?_)
  refine wpAnyH_take (i := 0) (oi := _) (v := ?_) rfl (by kernel_rfl) (by kernel_rfl) (by kernel_rfl) (fun _ _ _ h => h) (Or.inl ⟨by rfl, ?_⟩) (by assumption) ?_
  rotate_left
  · intro w hSw
    (try dsimp only at hSw)
    go_simp
    (try with_reducible rfl)
  (try go_frame)
  refine wpAnyH_take (i := 1) (oi := _) (v := ?_) rfl (by kernel_rfl) (by kernel_rfl) (by kernel_rfl) (fun _ _ _ h => h) (Or.inl ⟨by rfl, ?_⟩) (by assumption) ?_
  rotate_left
  · intro w hSw
    (try dsimp only at hSw)
    go_simp
    (try with_reducible rfl)
  (try go_frame)
  refine wpAnyH_take (i := 2) (oi := _) (v := ?_) rfl (by kernel_rfl) (by kernel_rfl) (by kernel_rfl) (fun _ _ _ h => h) (Or.inl ⟨by rfl, ?_⟩) (by assumption) ?_
  rotate_left
  · intro w hSw
    (try dsimp only at hSw)
    go_simp
    (try with_reducible rfl)
  (try go_frame)
  refine wpAnyH_take (i := 3) (oi := _) (v := ?_) rfl (by kernel_rfl) (by kernel_rfl) (by kernel_rfl) (fun _ _ _ h => h) (Or.inl ⟨by rfl, ?_⟩) (by assumption) ?_
  rotate_left
  · intro w hSw
    (try dsimp only at hSw)
    go_simp
    (try with_reducible rfl)
  (try go_frame)
  refine wpAnyH_take (i := 4) (oi := _) (v := ?_) rfl (by kernel_rfl) (by kernel_rfl) (by kernel_rfl) (fun _ _ _ h => h) (Or.inl ⟨by rfl, ?_⟩) (by assumption) ?_
  rotate_left
  · intro w hSw
    (try dsimp only at hSw)
    go_simp
    (try with_reducible rfl)
  (try go_frame)
  refine wpAnyH_take (i := 5) (oi := _) (v := ?_) rfl (by kernel_rfl) (by kernel_rfl) (by kernel_rfl) (fun _ _ _ h => h) (Or.inl ⟨by rfl, ?_⟩) (by assumption) ?_
  rotate_left
  · intro w hSw
    (try dsimp only at hSw)
    go_simp
    (try with_reducible rfl)
  (try go_frame)
  refine wpAnyH_take (i := 6) (oi := _) (v := ?_) rfl (by kernel_rfl) (by kernel_rfl) (by kernel_rfl) (fun _ _ _ h => h) (Or.inl ⟨by rfl, ?_⟩) (by assumption) ?_
  rotate_left
  · intro w hSw
    (try dsimp only at hSw)
    go_simp
    (try with_reducible rfl)
  (try go_frame)
  refine wpAnyH_ready (rs := [7]) (by kernel_rfl) (by simp) ?_
  refine AllReadyH.cons (o := _) rfl (fun K hK => ?_) AllReadyH.nil
  go_simp
  refine (params_any c F B top st f n row k u _ (hide hF0.out.drew) (hide (hE.out.grown (grown_new _)).drew) hu hp pl hpl).mono ?_
  rintro e w2 ⟨⟨a2, cp, rfl, hI⟩, hg2, hF2⟩
  have HG2 : Hid (w.grownBy w2 (some F)) := grown_tr (grown_new _) (grown_drew hg2)
  have HS2 : Hid (∀ w3, w2.grownBy w3 (some F) → w3.cell? ⟨F, 1, none⟩ = some (.slice c.au c.m.units.length c.cu) → (w3.cell? ⟨F, 1, none⟩ = some (.slice (some ⟨b, off, none⟩) c.m.units.length c.cu) ∧ w3.cell? ⟨w.heap.size, 1, none⟩ = some (.int .i64 (k : Int)) ∧ w3.cell? ⟨b, off + k * 6 + 3, none⟩ = some (.int .i64 u.result))) := fun w3 hg3 h1 => ⟨by rw [h1, HA.out], (cell_eq (kept (grown_tr (grown_drew hg2) hg3) (by simp) (by omega)) _).trans d2, (cell_eq (kept (grown_tr (grown_drew hg2) hg3) (by simp; omega) (by omega)) _).trans d3⟩
  have HF2 := hide hF2
  have HI := hide hI
  refine hK.out _ _ (HS2.out w2 (grown_refl _ _) (fl_cells hF2.blk).2.1) (fun hHeld => ?_)
  clear hK hI hF2 hg2
  refine wpAnyH_ready (rs := [8]) (by kernel_rfl) (by simp) ?_
  refine AllReadyH.cons (o := _) rfl (fun K hK => ?_) AllReadyH.nil
  go_simp
  refine (turn_any c F B top st f n row (10 + (k : Int)) pl a2 cp _ HF2 (by omega) hpll HI (by have := HG2.out.size; omega) (hide (fun b off _ hb => by omega)) r hr).mono ?_
  rintro e w9 hS
  have HG9 : Hid (w.grownBy w9 (some F)) := grown_tr HG2.out hS.grown
  cases r with
  | error er =>
    obtain rfl := hS.no er rfl
    clear hS hK
    go_wp2
    exact ⟨rfl, SEnds.bad HG9.out rfl⟩
  | ok st9 =>
    obtain ⟨rfl, top9, hF9⟩ := hS.yes st9 rfl
    have HF9 := hide hF9
    refine hK.out _ _ (HS2.out w9 hS.grown (fl_cells HF9.out.blk).2.1) (fun hHeld => ?_)
    clear hK hS hF9
    refine wpAnyH_done (by kernel_rfl) ?_ _
    go_wp2
    go_end0
    exact SEnds.good HG9.out rfl HF9.out

end Go.Proofs.YtnfbfdajdflfgaaGreat

