/- Boxes of package mail, as tasks have them; who hears. -/
import Derived.Test.YtekjhefmhhcboaaGreatM17
import Derived.Test.YtekjhefmhhcboaaGreatM18
import Derived.Test.YtekjhefmhhcboaaGreatM3
import Derived.Maps.RangeWalk
namespace Go.Proofs.YtekjhefmhhcboaaGreat.Vw
open Go.RowKit Vf Vm

/-- A box: so many places; its words, the first one first. -/
structure Bq where
  cap : Nat
  ws : List Int
def mbX : Bxs (List Bq) where
  full := fun x n => match x[n]? with | some q => decide (q.ws.length = q.cap) | none => false
  may := fun x n => ∀ q, x[n]? = some q → q.ws.length < q.cap
  empty := fun x n => match x[n]? with | some q => decide (q.ws.length = 0) | none => true
  put := fun x n v => match x[n]? with | some q => x.set n { q with ws := q.ws ++ [v] } | none => x
  head := fun x n => match x[n]? with | some q => (q.ws[0]?).getD 0 | none => 0
  take := fun x n => match x[n]? with | some q => x.set n { q with ws := q.ws.tail } | none => x

/-- Who hears, in memory. -/
structure Ear where
  En : Lab → World → List Ev → Prop
  keep : ∀ {L L' : Lab} {w w' : World} {l : List Ev}, En L w l → Ext L L' w → w.heap.size ≤ w'.heap.size → (∀ b, b < w.heap.size → (L b).cls = 3 → w'.heap[b]? = w.heap[b]?) → En L' w' l
def deaf : Ear := ⟨fun _ _ _ => True, fun _ _ _ _ => trivial⟩

structure MBAt (L : Lab) (w : World) (S n : Nat) (q : Bq) (g f : Nat) : Prop where
  box : Mb.BX w S g q.ws f q.cap
  lS : L S = ⟨2, n, 0, 0⟩
  lg : L g = ⟨2, n, 0, 1⟩
theorem BX_keep {w w' : World} {S g : Nat} {ws : List Int} {f n : Nat} (h : Mb.BX w S g ws f n) (h1 : w'.heap[S]? = w.heap[S]?) (h2 : w'.heap[g]? = w.heap[g]?) : Mb.BX w' S g ws f n := ⟨h1.trans h.blk, Mb.RK.far h2 h.row, h.few, h.at', h.most⟩
theorem MBAt.keep {L L' : Lab} {w w' : World} {S n : Nat} {q : Bq} {g f : Nat} (h : MBAt L w S n q g f) (hE : Ext L L' w) (hb : ∀ b, b < w.heap.size → (L b).cls = 2 ∧ (L b).idx = n → w'.heap[b]? = w.heap[b]?) : MBAt L' w' S n q g f := by
  obtain ⟨hS, hg⟩ := h.box.lt
  exact ⟨BX_keep h.box (hb S hS (by rw [h.lS]; exact ⟨rfl, rfl⟩)) (hb g hg (by rw [h.lg]; exact ⟨rfl, rfl⟩)), (hE S hS).trans h.lS, (hE g hg).trans h.lg⟩

structure MbEn (Q : Nat → Nat) (nb rb off : Nat) (L : Lab) (w : World) (x : List Bq) : Prop where
  len : x.length = nb
  row : ∀ n, n < nb → rb < w.heap.size ∧ (L rb).cls = 0 ∧ w.cell? ⟨rb, off + n, none⟩ = some (.iface 77 (.pointer (some ⟨Q n, 0, none⟩)))
  boxes : ∀ (n : Nat) q, x[n]? = some q → ∃ g f, MBAt L w (Q n) n q g f
theorem MbEn.keep {Q : Nat → Nat} {nb rb off : Nat} {L L' : Lab} {w w' : World} {x : List Bq} (h : MbEn Q nb rb off L w x) (hE : Ext L L' w) (hz : w.heap.size ≤ w'.heap.size) (hb : ∀ b, b < w.heap.size → b = rb ∨ (L b).cls = 2 → w'.heap[b]? = w.heap[b]?) : MbEn Q nb rb off L' w' x :=
  ⟨h.len, fun n hn => by
    obtain ⟨h1, h2, h3⟩ := h.row n hn
    exact ⟨by omega, by rw [hE rb h1]; exact h2, (cell_eq (hb rb h1 (.inl rfl)) _).trans h3⟩, fun n q hq => by
    obtain ⟨g, f, hA⟩ := h.boxes n q hq
    exact ⟨g, f, hA.keep hE (fun b hs hx => hb b hs (.inr hx.1))⟩⟩
def mbE (Q : Nat → Nat) (nb rb off : Nat) (A : Ear) : Env (List Bq) where
  En := fun L w l x => MbEn Q nb rb off L w x ∧ A.En L w l
  keep := fun {L L' w w' _ x} h hE hz hb => by
    refine ⟨?_, A.keep h.2 hE hz (fun b hs h1 => hb b hs (by omega))⟩
    by_cases h0 : 0 < nb
    · have := (h.1.row 0 h0).2.1
      exact h.1.keep hE hz (fun b hs hx => hb b hs (by rcases hx with rfl | hx <;> omega))
    · have hx0 : x = [] := List.eq_nil_of_length_eq_zero (by have := h.1.len; omega)
      exact ⟨h.1.len, fun n hn => by omega, fun n q hq => by rw [hx0] at hq; cases hq⟩

/-- A box has turned. -/
theorem MbEn.turned {Q : Nat → Nat} {nb rb off : Nat} {L : Lab} {w w' : World} {x : List Bq} (h : MbEn Q nb rb off L w x) {n : Nat} {q q' : Bq} {g f f' : Nat} (hA : MBAt L w (Q n) n q g f) (hb : Mb.BX w' (Q n) g q'.ws f' q'.cap) (hm : Mb.Mv w w' (Q n) g) : MbEn Q nb rb off L w' (x.set n q') := by
  have hS := hA.lS
  have hgl := hA.lg
  have stay : ∀ b, b < w.heap.size → ¬ ((L b).cls = 2 ∧ (L b).idx = n) → w'.heap[b]? = w.heap[b]? := fun b hs hx => hm.block b hs (fun e => hx (by rw [e, hS]; exact ⟨rfl, rfl⟩)) (fun e => hx (by rw [e, hgl]; exact ⟨rfl, rfl⟩))
  refine ⟨by simpa using h.len, fun k hk => ?_, fun k p hp => ?_⟩
  · obtain ⟨h1, h2, h3⟩ := h.row k hk
    exact ⟨by have := hm.size; omega, h2, (cell_eq (stay rb h1 (by omega)) _).trans h3⟩
  · rw [List.getElem?_set] at hp
    split at hp
    · rename_i e
      subst e
      split at hp
      · cases hp
        exact ⟨g, f', hb, hS, hgl⟩
      · cases hp
    · rename_i e
      obtain ⟨g2, f2, hA2⟩ := h.boxes k p hp
      exact ⟨g2, f2, hA2.keep (.refl _ _) (fun b hs hx => stay b hs (by omega))⟩
theorem mv_chg {L : Lab} {w w' : World} {S g n : Nat} (hm : Mb.Mv w w' S g) (hS : L S = ⟨2, n, 0, 0⟩) (hg : L g = ⟨2, n, 0, 1⟩) : Chg (EB L) w w' := ⟨hm.os, hm.tape, hm.output, hm.size, fun b hb hx => hm.block b hb (fun e => hx (by rw [e]; left; rw [hS])) (fun e => hx (by rw [e]; left; rw [hg]))⟩

theorem mb_runF (p : Value) (w : World) : Sem.run Tryz.prog (do let q ← program; let y ← method (q.types.size + 100) 77 p "Full"; callFunc y.fst #[y.snd]) w = .ok (.enter 133 #[p]) w := by kernel_rfl
theorem mb_runE (p : Value) (w : World) : Sem.run Tryz.prog (do let q ← program; let y ← method (q.types.size + 100) 77 p "Empty"; callFunc y.fst #[y.snd]) w = .ok (.enter 132 #[p]) w := by kernel_rfl
theorem mb_runP (p v : Value) (w : World) : Sem.run Tryz.prog (do let q ← program; let y ← method (q.types.size + 100) 77 p "Put"; callFunc y.fst #[y.snd, v]) w = .ok (.enter 134 #[p, v]) w := by kernel_rfl
theorem mb_runT (p : Value) (w : World) : Sem.run Tryz.prog (do let q ← program; let y ← method (q.types.size + 100) 77 p "Take"; callFunc y.fst #[y.snd]) w = .ok (.enter 135 #[p]) w := by kernel_rfl

theorem box_mb (Q : Nat → Nat) (nb rb off : Nat) (A : Ear) (c : Cx) (n : Nat) (hn : n < nb) : BoxAt (mbE Q nb rb off A) mbX c n 77 (.pointer (some ⟨Q n, 0, none⟩)) 133 132 134 135 := by
  have at' : ∀ (L : Lab) (w : World) (x : List Bq), MbEn Q nb rb off L w x → ∃ q g f, x[n]? = some q ∧ MBAt L w (Q n) n q g f := fun L w x h => by
    obtain ⟨q, hq⟩ : ∃ q, x[n]? = some q := ⟨_, List.getElem?_eq_getElem (by have := h.len; omega)⟩
    obtain ⟨g, f, hA⟩ := h.boxes n q hq
    exact ⟨q, g, f, hq, hA⟩
  refine ⟨mb_runF _, mb_runE _, mb_runP _, mb_runT _, fun L w l x h => ?_, fun L w l x h => ?_, fun L w l x v h hk hm => ?_, fun L w l x h hk hm => ?_⟩
  · obtain ⟨q, g, f, hq, hA⟩ := at' L w x h.out.1
    simp only [mbX, hq]
    exact Mb.full_any (Q n) g q.ws f q.cap w (Sb.hide hA.box) _ (Sb.hide rfl)
  · obtain ⟨q, g, f, hq, hA⟩ := at' L w x h.out.1
    simp only [mbX, hq]
    refine (Mb.empty_any (Q n) g q.ws f q.cap w (Sb.hide hA.box) _ (Sb.hide rfl)).mono ?_
    rintro e w' ⟨rfl, rfl⟩
    exact ⟨rfl, 0, rfl⟩
  · obtain ⟨q, g, f, hq, hA⟩ := at' L w x h.out.1
    refine (Mb.put_room (Q n) g q.ws f q.cap v w (Sb.hide hA.box) (hm.out q hq)).mono ?_
    rintro e w' ⟨rfl, h1, h2⟩
    simp only [mbX, hq]
    refine ⟨(by first | rfl | trivial), L, ⟨h.out.1.turned (q' := { q with ws := q.ws ++ [v] }) hA h1 h2, A.keep h.out.2 (.refl _ _) h2.size (fun b hs h2c => h2.block b hs (fun e => by rw [e, hA.lS] at h2c; simp at h2c) (fun e => by rw [e, hA.lg] at h2c; simp at h2c))⟩, ⟨.refl _ _, fun b => .inl rfl⟩, hk.out.on h2.size, mv_chg h2 hA.lS hA.lg⟩
  · obtain ⟨q, g, f, hq, hA⟩ := at' L w x h.out.1
    have hne := hm.out
    simp only [mbX, hq] at hne ⊢
    have hlt : 0 < q.ws.length := by simp at hne; exact List.length_pos_iff.2 hne
    obtain ⟨u, hu⟩ : ∃ u, q.ws[0]? = some u := ⟨_, List.getElem?_eq_getElem hlt⟩
    rw [hu]
    refine (Mb.take_some (Q n) g q.ws u f q.cap w (Sb.hide hA.box) (Sb.hide hu)).mono ?_
    rintro e w' ⟨rfl, h1, h2⟩
    refine ⟨(by first | rfl | trivial), L, ⟨h.out.1.turned (q' := { q with ws := q.ws.tail }) hA h1 h2, A.keep h.out.2 (.refl _ _) h2.size (fun b hs h2c => h2.block b hs (fun e => by rw [e, hA.lS] at h2c; simp at h2c) (fun e => by rw [e, hA.lg] at h2c; simp at h2c))⟩, ⟨.refl _ _, fun b => .inl rfl⟩, hk.out.on h2.size, mv_chg h2 hA.lS hA.lg⟩
theorem boxes_mb (Q : Nat → Nat) (rb off cap : Nat) (A : Ear) (c : Cx) : BoxesAt (mbE Q c.m.boxes.length rb off A) mbX c (.slice (some ⟨rb, off, none⟩) c.m.boxes.length cap) :=
  ⟨fun n hn => ⟨rb, off, cap, _, _, _, _, _, _, rfl, fun _ _ _ _ h => (h.1.row n hn).2.2, box_mb Q _ rb off A c n hn⟩⟩
theorem hears_deaf (Q : Nat → Nat) (nb rb off : Nat) (c : Cx) : Hears (mbE Q nb rb off deaf) c 55 #[] := by
  refine ⟨fun args w => by kernel_rfl, fun e L w l x h hk _ => (nobody e w).mono ?_⟩
  rintro r w' ⟨rfl, hb⟩
  exact ⟨rfl, L, ⟨h.out.1.keep (.refl _ _) hb.size (fun b hs _ => hb.block b hs), trivial⟩, ⟨.refl _ _, fun b => .inl rfl⟩, hk.out.on hb.size, Chg.of_below hb⟩
end Go.Proofs.YtekjhefmhhcboaaGreat.Vw

/- The walk of speak, a kind of instruction each. -/
namespace Go.Proofs.YtekjhefmhhcboaaGreat
open Go.RowKit

set_option maxRecDepth 100000 in
set_option maxHeartbeats 2000000 in
theorem speak23 (c : FC) (F B : Nat) (top : Option Addr) (st : List Int) (f : Vf.Fl) (n : Int) (row : Value) (nn : Int) (k : Nat) (u : Vf.Un) (hu : Hid (c.m.units[k]? = some u)) (hp : Hid (0 ≤ u.params ∧ u.params ≤ u.locals.length ∧ u.locals.length ≤ 200)) (pl : List Int) (hpl : Hid (pl = u.locals.take u.params.toNat)) (w : World) (h : Hid (FlIn c w F top st f n row)) (hE : Hid (Env c B F w)) (hl : st.length ≤ 300) (r : Except Int (List Int)) (hr : Hid (r = Vf.turn u.result pl st)) :
    Calls Tryz.prog 90 #[.pointer (some ⟨F, 0, none⟩), .agg #[.int .i64 23, .int .i64 (k : Int), .int .i64 nn]] w fun e w' => SEnds c F f n row r w e w' := by
  have hlt := hE.out.lt
  have hBF := hE.out.base
  obtain ⟨b, off, al, cl, ac, cc, ha, hb, hui, u0, u1, u2, u3, u4, u5⟩ := hE.out.md.units k u hu.out
  have hku : k < c.m.units.length := (List.getElem?_eq_some_iff.1 hu.out).1
  have hk1 : (k : Int) < (c.m.units.length : Int) := by omega
  have hF0 := hide (h.out.alloc (insO 23 (k : Int) nn))
  have d1 : (w.alloc (insO 23 (k : Int) nn)).cell? ⟨F, 1, none⟩ = some (.slice (some ⟨b, off, none⟩) c.m.units.length c.cu) := by have := (fl_cells hF0.out.blk).2.1; rw [ha] at this; exact this
  have d2 : (w.alloc (insO 23 (k : Int) nn)).cell? ⟨w.heap.size, 1, none⟩ = some (.int .i64 (k : Int)) := (ins_cells (alloc_at w _)).2.1
  have d3 : (w.alloc (insO 23 (k : Int) nn)).cell? ⟨b, off + k * 6 + 3, none⟩ = some (.int .i64 u.result) := (cell_new _ _ (by omega)).trans u3
  have HA := hide ha
  clear hui u0 u1 u2 u3 u4 u5 ha
  have hpll : pl.length < 1000 := by rw [hpl.out]; have := hp.out.2.2; simp; omega
  go_enter Tryz.func90, Tryz.ntmps90
  go_wp2_with fail
  refine wp_region_held_drew (S := fun w' => w'.cell? ⟨F, 1, none⟩ = some (.slice (some ⟨b, off, none⟩) c.m.units.length c.cu) ∧ w'.cell? ⟨w.heap.size, 1, none⟩ = some (.int .i64 (k : Int)) ∧ w'.cell? ⟨b, off + k * 6 + 3, none⟩ = some (.int .i64 u.result)) (by kernel_rfl) ⟨d1, d2, d3⟩ (fun hHeld => ?_)
  refine wpAnyH_take (i := 0) (oi := _) (v := ?_) rfl (by kernel_rfl) (by kernel_rfl) (by kernel_rfl) (fun _ _ _ h => h) (Or.inl ⟨by rfl, ?_⟩) (by assumption) ?_
  rotate_left
  · intro w hSw
    (try dsimp only at hSw)
    go_simp
    (try with_reducible rfl)
  (try go_frame)
  refine wpAnyH_take (i := 1) (oi := _) (v := ?_) rfl (by kernel_rfl) (by kernel_rfl) (by kernel_rfl) (fun _ _ _ h => h) (Or.inl ⟨by rfl, ?_⟩) (by assumption) ?_
  rotate_left
  · intro w hSw
    (try dsimp only at hSw)
    go_simp
    (try with_reducible rfl)
  (try go_frame)
  refine wpAnyH_take (i := 2) (oi := _) (v := ?_) rfl (by kernel_rfl) (by kernel_rfl) (by kernel_rfl) (fun _ _ _ h => h) (Or.inl ⟨by rfl, ?_⟩) (by assumption) ?_
  rotate_left
  · intro w hSw
    (try dsimp only at hSw)
    go_simp
    (try with_reducible rfl)
  (try go_frame)
  refine wpAnyH_take (i := 3) (oi := _) (v := ?_) rfl (by kernel_rfl) (by kernel_rfl) (by kernel_rfl) (fun _ _ _ h => h) (Or.inl ⟨by rfl, ?_⟩) (by assumption) ?_
  rotate_left
  · intro w hSw
    (try dsimp only at hSw)
    go_simp
    (try with_reducible rfl)
  (try go_frame)
  refine wpAnyH_take (i := 4) (oi := _) (v := ?_) rfl (by kernel_rfl) (by kernel_rfl) (by kernel_rfl) (fun _ _ _ h => h) (Or.inl ⟨by rfl, ?_⟩) (by assumption) ?_
  rotate_left
  · intro w hSw
    (try dsimp only at hSw)
    go_simp
    (try with_reducible rfl)
  (try go_frame)
  refine wpAnyH_take (i := 5) (oi := _) (v := ?_) rfl (by kernel_rfl) (by kernel_rfl) (by kernel_rfl) (fun _ _ _ h => h) (Or.inl ⟨by rfl, ?_⟩) (by assumption) ?_
  rotate_left
  · intro w hSw
    (try dsimp only at hSw)
    go_simp
    (try with_reducible rfl)
  (try go_frame)
  refine wpAnyH_take (i := 6) (oi := _) (v := ?_) rfl (by kernel_rfl) (by kernel_rfl) (by kernel_rfl) (fun _ _ _ h => h) (Or.inl ⟨by rfl, ?_⟩) (by assumption) ?_
  rotate_left
  · intro w hSw
    (try dsimp only at hSw)
    go_simp
    (try with_reducible rfl)
  (try go_frame)
  refine wpAnyH_take (i := 7) (oi := _) (v := ?_) rfl (by kernel_rfl) (by kernel_rfl) (by kernel_rfl) (fun _ _ _ h => h) (Or.inl ⟨by rfl, ?_⟩) (by assumption) ?_
  rotate_left
  · intro w hSw
    (try dsimp only at hSw)
    go_simp
    (try with_reducible rfl)
  (try go_frame)
  refine wpAnyH_take (i := 8) (oi := _) (v := ?_) rfl (by kernel_rfl) (by kernel_rfl) (by kernel_rfl) (fun _ _ _ h => h) (Or.inl ⟨by rfl, ?_⟩) (by assumption) ?_
  rotate_left
  · intro w hSw
    (try dsimp only at hSw)
    go_simp
    (try with_reducible rfl)
  (try go_frame)
  refine wpAnyH_take (i := 9) (oi := _) (v := ?_) rfl (by kernel_rfl) (by kernel_rfl) (by kernel_rfl) (fun _ _ _ h => h) (Or.inl ⟨by rfl, ?_⟩) (by assumption) ?_
  rotate_left
  · intro w hSw
    (try dsimp only at hSw)
    go_simp
    (try with_reducible rfl)
  (try go_frame)
  refine wpAnyH_take (i := 10) (oi := _) (v := ?_) rfl (by kernel_rfl) (by kernel_rfl) (by kernel_rfl) (fun _ _ _ h => h) (Or.inl ⟨by rfl, ?_⟩) (by assumption) ?_
  rotate_left
  · intro w hSw
    (try dsimp only at hSw)
    go_simp
    (try with_reducible rfl)
  (try go_frame)
  refine wpAnyH_take (i := 11) (oi := _) (v := ?_) rfl (by kernel_rfl) (by kernel_rfl) (by kernel_rfl) (fun _ _ _ h => h) (Or.inl ⟨by rfl, ?_⟩) (by assumption) ?_
  rotate_left
  · intro w hSw
    (try dsimp only at hSw)
    go_simp
    (try with_reducible rfl)
  (try go_frame)
  refine wpAnyH_take (i := 12) (oi := _) (v := ?_) rfl (by kernel_rfl) (by kernel_rfl) (by kernel_rfl) (fun _ _ _ h => h) (Or.inl ⟨by rfl, ?_⟩) (by assumption) ?_
  rotate_left
  · intro w hSw
    (try dsimp only at hSw)
    go_simp
    (try with_reducible rfl)
  (try go_frame)
  refine wpAnyH_take (i := 13) (oi := _) (v := ?_) rfl (by kernel_rfl) (by kernel_rfl) (by kernel_rfl) (fun _ _ _ h => h) (Or.inl ⟨by rfl, ?_⟩) (by assumption) ?_
  rotate_left
  · intro w hSw
    (try dsimp only at hSw)
    go_simp
    (try with_reducible rfl)
  (try go_frame)
  refine wpAnyH_take (i := 14) (oi := _) (v := ?_) rfl (by kernel_rfl) (by kernel_rfl) (by kernel_rfl) (fun _ _ _ h => h) (Or.inl ⟨by rfl, ?_⟩) (by assumption) ?_
  rotate_left
  · intro w hSw
    (try dsimp only at hSw)
    go_simp
    (try with_reducible rfl)
  (try go_frame)
  refine wpAnyH_take (i := 15) (oi := _) (v := ?_) rfl (by kernel_rfl) (by kernel_rfl) (by kernel_rfl) (fun _ _ _ h => h) (Or.inl ⟨by rfl, ?_⟩) (by assumption) ?_
  rotate_left
  · intro w hSw
    (try dsimp only at hSw)
    go_simp
    (try with_reducible rfl)
  (try go_frame)
  refine wpAnyH_ready (rs := [16]) (by kernel_rfl) (by simp) ?_
  refine AllReadyH.cons (o := _) rfl (fun K hK => ?_) AllReadyH.nil
  go_simp
  refine (params_any c F B top st f n row k u _ (hide hF0.out.drew) (hide (hE.out.grown (grown_new _)).drew) hu hp pl hpl).mono ?_
  rintro e w2 ⟨⟨a2, cp, rfl, hI⟩, hg2, hF2⟩
  have HG2 : Hid (w.grownBy w2 (some F)) := grown_tr (grown_new _) (grown_drew hg2)
  have HS2 : Hid (∀ w3, w2.grownBy w3 (some F) → w3.cell? ⟨F, 1, none⟩ = some (.slice c.au c.m.units.length c.cu) → (w3.cell? ⟨F, 1, none⟩ = some (.slice (some ⟨b, off, none⟩) c.m.units.length c.cu) ∧ w3.cell? ⟨w.heap.size, 1, none⟩ = some (.int .i64 (k : Int)) ∧ w3.cell? ⟨b, off + k * 6 + 3, none⟩ = some (.int .i64 u.result))) := fun w3 hg3 h1 => ⟨by rw [h1, HA.out], (cell_eq (kept (grown_tr (grown_drew hg2) hg3) (by simp) (by omega)) _).trans d2, (cell_eq (kept (grown_tr (grown_drew hg2) hg3) (by simp; omega) (by omega)) _).trans d3⟩
  have HF2 := hide hF2
  have HI := hide hI
  refine hK.out _ _ (HS2.out w2 (grown_refl _ _) (fl_cells hF2.blk).2.1) (fun hHeld => ?_)
  clear hK hI hF2 hg2
  refine wpAnyH_ready (rs := [17]) (by kernel_rfl) (by simp) ?_
  refine AllReadyH.cons (o := _) rfl (fun K hK => ?_) AllReadyH.nil
  go_simp
  refine (turn_any c F B top st f n row u.result pl a2 cp _ HF2 (by omega) hpll HI (by have := HG2.out.size; omega) (hide (fun b off _ hb => by omega)) r hr).mono ?_
  rintro e w9 hS
  have HG9 : Hid (w.grownBy w9 (some F)) := grown_tr HG2.out hS.grown
  cases r with
  | error er =>
    obtain rfl := hS.no er rfl
    clear hS hK
    go_wp2
    exact ⟨rfl, SEnds.bad HG9.out rfl⟩
  | ok st9 =>
    obtain ⟨rfl, top9, hF9⟩ := hS.yes st9 rfl
    have HF9 := hide hF9
    refine hK.out _ _ (HS2.out w9 hS.grown (fl_cells HF9.out.blk).2.1) (fun hHeld => ?_)
    clear hK hS hF9
    refine wpAnyH_done (by kernel_rfl) ?_ _
    go_wp2
    go_end0
    exact SEnds.good HG9.out rfl HF9.out

set_option maxRecDepth 100000 in
set_option maxHeartbeats 2000000 in
theorem speak29 (c : FC) (F B : Nat) (top : Option Addr) (st : List Int) (f : Vf.Fl) (n : Int) (row : Value) (nn : Int) (k : Nat) (u : Vf.Un) (hu : Hid (c.m.units[k]? = some u)) (hp : Hid (0 ≤ u.params ∧ u.params ≤ u.locals.length ∧ u.locals.length ≤ 200)) (hun : c.m.units.length ≤ 30) (pl : List Int) (hpl : Hid (pl = u.locals.take u.params.toNat)) (w : World) (h : Hid (FlIn c w F top st f n row)) (hE : Hid (Env c B F w)) (hl : st.length ≤ 300) (r : Except Int (List Int)) (hr : Hid (r = Vf.turn (10 + (k : Int)) pl st)) :
    Calls Tryz.prog 90 #[.pointer (some ⟨F, 0, none⟩), .agg #[.int .i64 29, .int .i64 (k : Int), .int .i64 nn]] w fun e w' => SEnds c F f n row r w e w' := by
  have hlt := hE.out.lt
  have hBF := hE.out.base
  obtain ⟨b, off, al, cl, ac, cc, ha, hb, hui, u0, u1, u2, u3, u4, u5⟩ := hE.out.md.units k u hu.out
  have hku : k < c.m.units.length := (List.getElem?_eq_some_iff.1 hu.out).1
  have hk1 : (k : Int) < (c.m.units.length : Int) := by omega
  have hF0 := hide (h.out.alloc (insO 29 (k : Int) nn))
  have d1 : (w.alloc (insO 29 (k : Int) nn)).cell? ⟨F, 1, none⟩ = some (.slice (some ⟨b, off, none⟩) c.m.units.length c.cu) := by have := (fl_cells hF0.out.blk).2.1; rw [ha] at this; exact this
  have d2 : (w.alloc (insO 29 (k : Int) nn)).cell? ⟨w.heap.size, 1, none⟩ = some (.int .i64 (k : Int)) := (ins_cells (alloc_at w _)).2.1
  have d3 : (w.alloc (insO 29 (k : Int) nn)).cell? ⟨b, off + k * 6 + 3, none⟩ = some (.int .i64 u.result) := (cell_new _ _ (by omega)).trans u3
  have HA := hide ha
  clear hui u0 u1 u2 u3 u4 u5 ha
  have hpll : pl.length < 1000 := by rw [hpl.out]; have := hp.out.2.2; simp; omega
  have e10 : IntKind.i64.wrap (10 + (k : Int)) = 10 + (k : Int) := by simp [IntKind.wrap, IntKind.bits, IntKind.signed]; omega
  go_enter Tryz.func90, Tryz.ntmps90
  go_wp2_with fail
  refine wp_region_held_drew (S := fun w' => w'.cell? ⟨F, 1, none⟩ = some (.slice (some ⟨b, off, none⟩) c.m.units.length c.cu) ∧ w'.cell? ⟨w.heap.size, 1, none⟩ = some (.int .i64 (k : Int)) ∧ w'.cell? ⟨b, off + k * 6 + 3, none⟩ = some (.int .i64 u.result)) (by kernel_rfl) ⟨d1, d2, d3⟩ (fun hHeld => ?_)
  refine wpAnyH_take (i := 0) (oi := _) (v := ?_) rfl (by kernel_rfl) (by kernel_rfl) (by kernel_rfl) (fun _ _ _ h => h) (Or.inl ⟨by rfl, ?_⟩) (by assumption) ?_
  rotate_left
  · intro w hSw
    (try dsimp only at hSw)
    go_simp
    (try with_reducible rfl)
  (try go_frame)
  refine wpAnyH_take (i := 1) (oi := _) (v := ?_) rfl (by kernel_rfl) (by kernel_rfl) (by kernel_rfl) (fun _ _ _ h => h) (Or.inl ⟨by rfl, ?_⟩) (by assumption) ?_
  rotate_left
  · intro w hSw
    (try dsimp only at hSw)
    go_simp
    (try with_reducible rfl)
  (try go_frame)
  refine wpAnyH_take (i := 2) (oi := _) (v := ?_) rfl (by kernel_rfl) (by kernel_rfl) (by kernel_rfl) (fun _ _ _ h => h) (Or.inl ⟨by rfl, ?_⟩) (by assumption) ?_
  rotate_left
  · intro w hSw
    (try dsimp only at hSw)
    go_simp
    (try with_reducible rfl)
  (try go_frame)
  refine wpAnyH_take (i := 3) (oi := _) (v := ?_) rfl (by kernel_rfl) (by kernel_rfl) (by kernel_rfl) (fun _ _ _ h => h) (Or.inl ⟨by rfl, ?_⟩) (by assumption) ?_
  rotate_left
  · intro w hSw
    (try dsimp only at hSw)
    go_simp
    (try with_reducible rfl)
  (try go_frame)
  refine wpAnyH_take (i := 4) (oi := _) (v := ?_) rfl (by kernel_rfl) (by kernel_rfl) (by kernel_rfl) (fun _ _ _ h => h) (Or.inl ⟨by rfl, ?_⟩) (by assumption) ?_
  rotate_left
  · intro w hSw
    (try dsimp only at hSw)
    go_simp
    (try with_reducible rfl)
  (try go_frame)
  refine wpAnyH_take (i := 5) (oi := _) (v := ?_) rfl (by kernel_rfl) (by kernel_rfl) (by kernel_rfl) (fun _ _ _ h => h) (Or.inl ⟨by rfl, ?_⟩) (by assumption) ?_
  rotate_left
  · intro w hSw
    (try dsimp only at hSw)
    go_simp
    (try with_reducible rfl)
  (try go_frame)
  refine wpAnyH_take (i := 6) (oi := _) (v := ?_) rfl (by kernel_rfl) (by kernel_rfl) (by kernel_rfl) (fun _ _ _ h => h) (Or.inl ⟨by rfl, ?_⟩) (by assumption) ?_
  rotate_left
  · intro w hSw
    (try dsimp only at hSw)
    go_simp
    (try with_reducible rfl)
  (try go_frame)
  refine wpAnyH_ready (rs := [7]) (by kernel_rfl) (by simp) ?_
  refine AllReadyH.cons (o := _) rfl (fun K hK => ?_) AllReadyH.nil
  go_simp
  refine (params_any c F B top st f n row k u _ (hide hF0.out.drew) (hide (hE.out.grown (grown_new _)).drew) hu hp pl hpl).mono ?_
  rintro e w2 ⟨⟨a2, cp, rfl, hI⟩, hg2, hF2⟩
  have HG2 : Hid (w.grownBy w2 (some F)) := grown_tr (grown_new _) (grown_drew hg2)
  have HS2 : Hid (∀ w3, w2.grownBy w3 (some F) → w3.cell? ⟨F, 1, none⟩ = some (.slice c.au c.m.units.length c.cu) → (w3.cell? ⟨F, 1, none⟩ = some (.slice (some ⟨b, off, none⟩) c.m.units.length c.cu) ∧ w3.cell? ⟨w.heap.size, 1, none⟩ = some (.int .i64 (k : Int)) ∧ w3.cell? ⟨b, off + k * 6 + 3, none⟩ = some (.int .i64 u.result))) := fun w3 hg3 h1 => ⟨by rw [h1, HA.out], (cell_eq (kept (grown_tr (grown_drew hg2) hg3) (by simp) (by omega)) _).trans d2, (cell_eq (kept (grown_tr (grown_drew hg2) hg3) (by simp; omega) (by omega)) _).trans d3⟩
  have HF2 := hide hF2
  have HI := hide hI
  refine hK.out _ _ (HS2.out w2 (grown_refl _ _) (fl_cells hF2.blk).2.1) (fun hHeld => ?_)
  clear hK hI hF2 hg2
  refine wpAnyH_ready (rs := [8]) (by kernel_rfl) (by simp) ?_
  refine AllReadyH.cons (o := _) rfl (fun K hK => ?_) AllReadyH.nil
  go_simp
  refine (turn_any c F B top st f n row (10 + (k : Int)) pl a2 cp _ HF2 (by omega) hpll HI (by have := HG2.out.size; omega) (hide (fun b off _ hb => by omega)) r hr).mono ?_
  rintro e w9 hS
  have HG9 : Hid (w.grownBy w9 (some F)) := grown_tr HG2.out hS.grown
  cases r with
  | error er =>
    obtain rfl := hS.no er rfl
    clear hS hK
    go_wp2
    exact ⟨rfl, SEnds.bad HG9.out rfl⟩
  | ok st9 =>
    obtain ⟨rfl, top9, hF9⟩ := hS.yes st9 rfl
    have HF9 := hide hF9
    refine hK.out _ _ (HS2.out w9 hS.grown (fl_cells HF9.out.blk).2.1) (fun hHeld => ?_)
    clear hK hS hF9
    refine wpAnyH_done (by kernel_rfl) ?_ _
    go_wp2
    go_end0
    exact SEnds.good HG9.out rfl HF9.out

end Go.Proofs.YtekjhefmhhcboaaGreat

