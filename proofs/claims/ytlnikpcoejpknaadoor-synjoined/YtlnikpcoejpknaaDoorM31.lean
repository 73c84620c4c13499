/- A body's row of statements as it grows. -/
import Derived.Test.YtlnikpcoejpknaaDoorM30
import Derived.Test.YtlnikpcoejpknaaDoorM24
import Derived.Test.YtlnikpcoejpknaaDoorM27
namespace Go.Proofs.YtlnikpcoejpknaaDoor
open Go.RowKit

theorem Tryd.info67 : (Tryd.prog.info? 67).map (fun i => (i.zero, i.size, i.bytes)) = some (some (.agg #[.int .i64 0, .string ⟨#[]⟩, .int .i64 0, .int .i64 0, .string ⟨#[]⟩, .slice none 0 0, .slice none 0 0, .slice none 0 0]), 8, 128) := by kernel_rfl

abbrev Itm8 := Sy.St × (Option Addr × Nat) × (Option Addr × Nat) × (Option Addr × Nat)
abbrev itc8 (i : Itm8) : List Value := [.int .i64 i.1.kind, .string i.1.name, .int .i64 i.1.x.kind, .int .i64 i.1.x.n, .string i.1.x.name, .slice i.2.1.1 i.1.x.kids.length i.2.1.2, .slice i.2.2.1.1 i.1.body.length i.2.2.1.2, .slice i.2.2.2.1 i.1.els.length i.2.2.2.2]
def cells8 (its : List Itm8) : List Value := its.flatMap itc8

theorem cells8_len : ∀ its, (cells8 its).length = its.length * 8
  | [] => rfl
  | i :: its => by have := cells8_len its; simp only [cells8, List.flatMap_cons, List.length_append, List.length_cons] at *; simp only [this, List.length_nil]; omega
theorem cells8_app (l : List Itm8) (i : Itm8) : cells8 (l ++ [i]) = cells8 l ++ itc8 i := by simp [cells8]
theorem cells8_get : ∀ (its : List Itm8) (i : Nat) (it : Itm8), its[i]? = some it → ∀ j, j < 8 → (cells8 its)[i * 8 + j]? = (itc8 it)[j]?
  | [], i, it, h, _, _ => by simp at h
  | x :: its, 0, it, h, j, hj => by
    simp at h; subst h
    simp only [cells8, List.flatMap_cons, Nat.zero_mul, Nat.zero_add]
    rw [List.getElem?_append_left (by simpa using hj)]
  | x :: its, i + 1, it, h, j, hj => by
    have ih := cells8_get its i it (by simpa using h) j hj
    simp only [cells8, List.flatMap_cons] at ih ⊢
    rw [List.getElem?_append_right (by simp; omega)]
    have e : (i + 1) * 8 + j - (itc8 x).length = i * 8 + j := by simp; omega
    rw [e, ih]
theorem itc8_one (it : Itm8) : ∀ u ∈ itc8 it, u.oneCell' = true := by
  intro u ho
  simp only [List.mem_cons, List.not_mem_nil, or_false] at ho
  rcases ho with rfl | rfl | rfl | rfl | rfl | rfl | rfl | rfl <;> rfl
theorem itc8_news (W : World) (it : Itm8) (t : TypeId) : ∀ j u, (itc8 it)[j]? = some u → (W.alloc (.cells (itc8 it).toArray t)).cell? ((⟨W.heap.size, 0, none⟩ : Addr).add j) = some u := by
  intro j u hu
  have hadd : (⟨W.heap.size, 0, none⟩ : Addr).add j = ⟨W.heap.size, j, none⟩ := by unfold Addr.add; split <;> simp_all
  rw [hadd, World.cell?_alloc_mark]
  simpa using hu

/-- A body's statements, out of its row. -/
theorem own_rowq {Q : Nat → Prop} {w : World} {B n h : Nat} {v : Value} {its : List Itm8} (hown : w.ownsRow B 67 8 v n (cells8 its)) (hit : ∀ it ∈ its, StQ Q w h it.1 it.2.1.1 it.2.2.1.1 it.2.2.2.1) (hQ : ∀ g, v.ownBlock = some g → Q g) :
    ∃ a c, v = .slice a its.length c ∧ RowQ Q w (StQ Q w h) (its.map (·.1)) a := by
  have hl : its.length = n := by have := hown.1; rw [cells8_len] at this; omega
  subst hl
  rcases hown.2 with ⟨rfl, h0⟩ | ⟨g, cap, cur, rfl, hg, hh, _, _, _, ht⟩
  · refine ⟨none, 0, by rw [h0], fun i k hk => ?_⟩
    have := (List.getElem?_eq_some_iff.1 hk).1
    simp at this
    omega
  · refine ⟨_, cap, rfl, fun i k hk => ?_⟩
    obtain ⟨it, hi, rfl⟩ : ∃ it, its[i]? = some it ∧ it.1 = k := by simpa using hk
    have hlt := (List.getElem?_eq_some_iff.1 hi).1
    have key : ∀ j, j < 8 → w.cell? ⟨g, 0 + i * 8 + j, none⟩ = (itc8 it)[j]? := by
      intro j hj
      have e := cells8_get its i it hi j hj
      rw [← ht, List.getElem?_take, if_pos (by omega)] at e
      rw [Nat.zero_add, ← e]
      simp [World.cell?, hh]
    exact ⟨g, 0, it.2.1.1, it.2.1.2, it.2.2.1.1, it.2.2.1.2, it.2.2.2.1, it.2.2.2.2, rfl, hQ g rfl, key 0 (by decide), key 1 (by decide), key 2 (by decide), key 3 (by decide), key 4 (by decide), key 5 (by decide), key 6 (by decide), key 7 (by decide), hit it (List.mem_of_getElem? hi)⟩

/-- What holds at the head of the body's loop. -/
structure BdAt (E : Env) (d : Nat) (w : World) (r : Res (List Sy.St)) (its : List Itm8) (q fu h : Nat) (v : Value) (W : World) : Prop where
  own : W.ownsRow w.heap.size 67 8 v its.length (cells8 its)
  sts : ∀ it ∈ its, StQ (fun b => w.heap.size ≤ b ∧ b < W.heap.size ∧ v.ownBlock ≠ some b) W h it.1 it.2.1.1 it.2.2.1.1 it.2.2.2.1
  rdy : Rdy E W q (200 - (d : Int))
  le : q ≤ E.l.length
  grown : w.grownBy W (some E.R)
  eq : r = Rp.stats E.l E.en (Rp.stat E.l E.en d (Rp.body E.l E.en d)) fu (its.map (·.1)) q
  fuel : E.l.length < q + fu
  few : its.length ≤ q

/-- The row, further on. -/
theorem BdAt.kept {E : Env} {d : Nat} {w : World} {r : Res (List Sy.St)} {its : List Itm8} {q fu h : Nat} {v : Value} {W W' : World} (b : BdAt E d w r its q fu h v W) (hR : E.R < w.heap.size) (hg : W.grownBy W' (some E.R)) :
    W'.ownsRow w.heap.size 67 8 v its.length (cells8 its) ∧ (∀ it ∈ its, StQ (fun b => w.heap.size ≤ b ∧ b < W'.heap.size ∧ v.ownBlock ≠ some b) W' h it.1 it.2.1.1 it.2.2.1.1 it.2.2.2.1) ∧ w.grownBy W' (some E.R) := by
  have hs := hg.size
  refine ⟨b.own.kept hg ?_, fun it hit => (b.sts it hit).keep (fun k hk => ⟨⟨hk.1, by omega, hk.2.2⟩, hg.block k hk.2.1 (by simp; omega)⟩), grown_tr b.grown hg⟩
  cases hv : v.ownBlock with
  | none => exact .inl rfl
  | some g => right; have := b.own.lt g hv; simp; omega

/-- One statement more. -/
theorem BdAt.next {E : Env} {d : Nat} {w : World} {r : Res (List Sy.St)} {its : List Itm8} {q fu h : Nat} {v : Value} {W Wk w3 w4 : World} {q2 hx g cap : Nat} {it : Itm8} {ob : Obj} (G : Good E) {p : Nat} {op : Int} (h0 : Rdy E w p op) (b : BdAt E d w r its q (fu + 1) h v W) (hg1 : W.grownBy Wk (some E.R)) (hg2 : Wk.grownBy w3 (some E.R)) (hd3 : Rdy E w3 q2 (200 - (d : Int)))
    (hit : StQ (Mad Wk w3) w3 hx it.1 it.2.1.1 it.2.2.1.1 it.2.2.2.1) (hq : q < q2 ∧ q2 ≤ E.l.length) (hr : r = Rp.stats E.l E.en (Rp.stat E.l E.en d (Rp.body E.l E.en d)) fu ((its.map (·.1)) ++ [it.1]) q2)
    (hown : w4.ownsRow w.heap.size 67 8 (.slice (some ⟨g, 0, none⟩) (its.length + 1) cap) (its.length + 1) (cells8 its ++ itc8 it)) (hgr : (w3.alloc ob).grownBy w4 v.ownBlock) (hw : v.ownBlock = some g ∨ g = (w3.alloc ob).heap.size) :
    BdAt E d w r (its ++ [it]) q2 fu (max h hx) (.slice (some ⟨g, 0, none⟩) (its.length + 1) cap) w4 := by
  have hR := h0.lt
  obtain ⟨o3, s3, g3⟩ := b.kept hR (grown_tr hg1 hg2)
  have hsk := hg1.size
  have hs3 := hg2.size
  have hs4 := hgr.size
  have hsw := b.grown.size
  simp only [asz] at hs4
  have hvb : ∀ k, v.ownBlock = some k → w.heap.size ≤ k ∧ k < W.heap.size := fun k hk => b.own.lt k hk
  have far : ∀ k, k < w3.heap.size → v.ownBlock ≠ some k → w4.heap[k]? = w3.heap[k]? := fun k hk hn => (hgr.block k (by simp; omega) (fun e => hn e.symm)).trans (Below.heap_alloc _ _ _ hk)
  have hgne : ∀ k, k < w3.heap.size → v.ownBlock ≠ some k → (Value.slice (some ⟨g, 0, none⟩) (its.length + 1) cap).ownBlock ≠ some k := by
    intro k hk hn e
    simp only [Value.ownBlock, Option.some.injEq] at e
    rcases hw with e2 | e2
    · exact hn (by rw [e2, e])
    · simp only [asz] at e2; omega
  have hgw : w.grownBy w4 (some E.R) := ⟨hgr.os.trans g3.os, hgr.tape.trans g3.tape, hgr.output.trans g3.output, by omega, fun k hk hn => by
    rw [far k (by omega) (fun e => by have := (hvb k e).1; omega)]; exact g3.block k hk hn⟩
  refine ⟨by rw [cells8_app]; simpa using hown, fun i hi => ?_, h0.grown G hgw ((far E.R (by omega) (fun e => by have := (hvb _ e).1; omega)).trans hd3.rd), hq.2, hgw, by rw [List.map_append]; exact hr, by have := b.fuel; omega, by have := b.few; simp; omega⟩
  rcases List.mem_append.1 hi with hi | hi
  · exact ((s3 i hi).keep (fun k hk => ⟨⟨hk.1, by omega, hgne k hk.2.1 hk.2.2⟩, far k hk.2.1 hk.2.2⟩)).up (Nat.le_max_left _ _)
  · simp only [List.mem_singleton] at hi
    subst hi
    have hn : ∀ k, Mad Wk w3 k → v.ownBlock ≠ some k := fun k hk e => by have h1 := (hvb k e).2; have h2 := hk.1; omega
    exact (hit.keep (fun k hk => ⟨⟨by have := hk.1; omega, by have := hk.2; omega, hgne k hk.2 (hn k hk)⟩, far k hk.2 (hn k hk)⟩)).up (Nat.le_max_right _ _)

/-- The body, at its end. -/
theorem BdAt.out {E : Env} {d : Nat} {w : World} {r : Res (List Sy.St)} {its : List Itm8} {q fu h : Nat} {v : Value} {W W' : World} (b : BdAt E d w r its q fu h v W) (hR : E.R < w.heap.size) (few : E.l.length ≤ 6000) (hg : W.grownBy W' (some E.R)) : BdV w W' (its.map (·.1)) v := by
  obtain ⟨o3, s3, g3⟩ := b.kept hR hg
  obtain ⟨a, c, hv, hq⟩ := own_rowq (Q := Mad w W') o3 (fun it hit => (s3 it hit).keep (fun k hk => ⟨⟨hk.1, hk.2.1⟩, rfl⟩)) (fun g hgg => o3.lt g hgg)
  exact ⟨a, c, h, by rw [hv]; simp, by have := b.few; have := b.le; simp; omega, hq⟩

def lenV : Value → Nat
  | .slice _ n _ => n
  | _ => 0

end Go.Proofs.YtlnikpcoejpknaaDoor

/- The walk of body. -/
namespace Go.Proofs.YtlnikpcoejpknaaDoor
open Go.RowKit

theorem begins_st : Begins 109 Rp.bgSt := fun t u ht => beginsStat_any t u ht



set_option maxRecDepth 100000 in
set_option maxHeartbeats 1000000 in
theorem body_none (E : Env) (G : Good E) : CBody E 0 := by
  intro p r w h hp hr
  have hR := h.out.lt
  obtain ⟨r1, hr1⟩ : ∃ r1, r1 = Rp.want E.l E.en ⟨#[123]⟩ p := ⟨_, rfl⟩
  have HR1 := hide2 hr1
  have HE0 : Hid (r = Rp.andThen r1 fun q _ => .error (4, (pk E.l q E.en).pos)) := by rw [hr.out, hr1]; rfl
  have HA1 : Hid (∀ q x, r1 = .ok (q, x) → q ≤ E.l.length) := fun q x hx => (Rp.want_adv E.l E.en _ p q x hp (by rw [← hr1, hx])).2
  clear hr1
  go_enter_defers Tryd.func80, Tryd.ntmps80
  go_wp2_with fail
  refine (want_f E G p _ ⟨#[123]⟩ r1 _ h hp HR1).mono ?_
  rintro e w1 ⟨hg1, hf1⟩
  have HG1 := hide2 hg1
  clear hg1
  cases r1 with
  | error er =>
    obtain ⟨e1, e2⟩ := er
    obtain ⟨rfl, hd1⟩ := hf1
    have HD1 := hide2 hd1
    have HRr : Hid (r = .error (e1, e2)) := HE0.out
    clear hd1
    go_wp2
    refine ⟨HG1.out, ?_⟩
    rw [HRr.out]
    exact ⟨rfl, HD1.out⟩
  | ok qx =>
    obtain ⟨q1, u1⟩ := qx
    obtain ⟨⟨v, rfl, rfl⟩, hd1⟩ := hf1
    have HD1 : Hid (Rdy E w1 q1 200) := hd1
    have hq1 : q1 ≤ E.l.length := HA1.out q1 u1 rfl
    have HRr : Hid (r = .error (4, (pk E.l q1 E.en).pos)) := HE0.out
    clear hd1
    go_wp2_with fail
    refine (enter_no E G q1 _ HD1 hq1).mono ?_
    rintro e w2 ⟨rfl, hg2, hd2⟩
    have HG2 : Hid (w.grownBy w2 (some E.R)) := grown_tr HG1.out hg2
    have HD2 := hide2 hd2
    clear hg2 hd2
    go_wp2
    refine ⟨HG2.out, ?_⟩
    rw [HRr.out]
    exact ⟨rfl, HD2.out⟩

set_option maxRecDepth 100000 in
set_option maxHeartbeats 2000000 in
theorem body_more (E : Env) (G : Good E) (d : Nat) (hd : d < 200) (hT : Hid (CStat E d)) : CBody E (d + 1) := by
  intro p r w h hp hr
  have hR := h.out.lt
  have hfew := G.few
  obtain ⟨i0, hi, hz0, hz1, hz2⟩ := info_parts Tryd.info67
  obtain ⟨r1, hr1⟩ : ∃ r1, r1 = Rp.want E.l E.en ⟨#[123]⟩ p := ⟨_, rfl⟩
  have HR1 := hide2 hr1
  have HE0 : Hid (r = Rp.andThen r1 fun q _ => Rp.stats E.l E.en (Rp.stat E.l E.en d (Rp.body E.l E.en d)) (E.l.length + 1) [] q) := by rw [hr.out, hr1]; rfl
  have HA1 : Hid (∀ q x, r1 = .ok (q, x) → q ≤ E.l.length) := fun q x hx => (Rp.want_adv E.l E.en _ p q x hp (by rw [← hr1, hx])).2
  have HOP : Hid ((200 : Int) - ((d + 1 : Nat) : Int) + 1 = 200 - (d : Int)) := by unfold Hid; omega
  clear hr1
  go_enter_defers Tryd.func80, Tryd.ntmps80
  go_wp2_with fail
  refine (want_f E G p _ ⟨#[123]⟩ r1 _ h hp HR1).mono ?_
  rintro e w1 ⟨hg1, hf1⟩
  have HG1 := hide2 hg1
  clear hg1
  cases r1 with
  | error er =>
    obtain ⟨e1, e2⟩ := er
    obtain ⟨rfl, hd1⟩ := hf1
    have HD1 := hide2 hd1
    have HRr : Hid (r = .error (e1, e2)) := HE0.out
    clear hd1
    go_wp2
    refine ⟨HG1.out, ?_⟩
    rw [HRr.out]
    exact ⟨rfl, HD1.out⟩
  | ok qx =>
    obtain ⟨q1, u1⟩ := qx
    obtain ⟨⟨v, rfl, rfl⟩, hd1⟩ := hf1
    have HD1 := hide2 hd1
    have hq1 : q1 ≤ E.l.length := HA1.out q1 u1 rfl
    clear hd1
    go_wp2_with fail
    refine (enter_yes E G q1 _ _ HD1 hq1 (by omega) (by omega)).mono ?_
    rintro e w2 ⟨rfl, hd2, hg2⟩
    rw [HOP.out] at hd2
    have HG2 : Hid (w.grownBy w2 (some E.R)) := grown_tr HG1.out hg2
    have HS0 : Hid (BdAt E d w r [] q1 (E.l.length + 1) 0 (.slice none 0 0) w2) := ⟨World.ownsRow_nil _ _ _ _, fun it hit => by simp at hit, hd2, hq1, HG2.out, HE0.out, by omega, Nat.zero_le _⟩
    clear hg2 hd2
    go_wp2
    go_loopw [3] (fun v wr => ∃ its q fu h, BdAt E d w r its q fu h v wr) (fun v _ => E.l.length + 1 - lenV v)
    case atStart => exact ⟨[], q1, _, 0, HS0.out⟩
    case round =>
      obtain ⟨its, q, fu, hh, hA⟩ := hrel
      clear HS0 HG2 HG1
      have HA := hide2 hA
      have hq := hA.le
      have HD3 := hide2 hA.rdy
      obtain ⟨av, cv, hv⟩ : ∃ a c, u3 = .slice a its.length c := by
        rcases hA.own.2 with ⟨rfl, h0⟩ | ⟨g, cap, cur, rfl, _⟩
        · rw [h0]; exact ⟨_, _, rfl⟩
        · exact ⟨_, _, rfl⟩
      subst hv
      have hil := hA.few
      obtain ⟨f', hf'⟩ : ∃ f', fu = f' + 1 := ⟨fu - 1, by have := hA.fuel; omega⟩
      subst hf'
      clear hA
      obtain ⟨t, ht⟩ : ∃ t, t = tk E.l q ⟨#[125]⟩ := ⟨_, rfl⟩
      have HT := hide2 ht
      have HE3 : Hid (r = if t then .ok (q + 1, its.map (·.1)) else match limitL Rp.bgSt (its.map (·.1)).length 50 (pk E.l q E.en) q with
        | .error e => .error e
        | .ok _ => Rp.andThen (Rp.stat E.l E.en d (Rp.body E.l E.en d) q) fun q s => Rp.stats E.l E.en (Rp.stat E.l E.en d (Rp.body E.l E.en d)) f' ((its.map (·.1)) ++ [s]) q) := by rw [HA.out.eq, ht]; rfl
      clear ht
      go_wp2_with fail
      refine (take_f E G q _ ⟨#[125]⟩ t _ _ HD3 hq HT rfl).mono ?_
      rintro e w3 ⟨rfl, hd3, hg3⟩
      have HG3 := hide2 hg3
      have HD4 := hide2 hd3
      clear hd3 hg3
      cases t with
      | true =>
        have HRr : Hid (r = .ok (q + 1, its.map (·.1))) := HE3.out
        go_wp2
        refine leaves_cons (f := 108) (args := #[.pointer (some ⟨E.R, 0, none⟩)]) (by simp) (by simp [go_sem]) ?_
        refine (leave_d E G (q + 1) _ _ _ HD4 (by omega) (by omega)).mono ?_
        rintro e u' w4 ⟨rfl, rfl, hd4, hg4⟩
        rw [show (200 : Int) - (d : Int) - 1 = 200 - ((d + 1 : Nat) : Int) by omega] at hd4
        show Leaves _ _ _ _ [] .returning _
        have hgg := grown_tr HG3.out hg4
        refine ⟨.slice av its.length cv, by simp [results, Tryd.results80, go_sem], grown_tr HA.out.grown hgg, ?_⟩
        rw [HRr.out]
        exact ⟨⟨_, rfl, HA.out.out hR hfew hgg⟩, hd4⟩
      | false =>
        obtain ⟨r4, hr4⟩ : ∃ r4, r4 = atP () (limitL Rp.bgSt its.length 50 (pk E.l q E.en) q) := ⟨_, rfl⟩
        have HR4 := hide2 hr4
        have HE4 : Hid ((∀ e, r4 = .error e → r = .error e) ∧ (∀ x, r4 = .ok x → r = Rp.andThen (Rp.stat E.l E.en d (Rp.body E.l E.en d) q) fun q s => Rp.stats E.l E.en (Rp.stat E.l E.en d (Rp.body E.l E.en d)) f' ((its.map (·.1)) ++ [s]) q)) := by
          have h3 := HE3.out
          rw [List.length_map] at h3
          unfold Hid
          rw [hr4]
          cases hl : limitL Rp.bgSt its.length 50 (pk E.l q E.en) q with
          | error e => rw [hl] at h3; exact ⟨fun e' he => by simp [atP] at he; rw [← he]; exact h3, fun x hx => by simp [atP] at hx⟩
          | ok x => rw [hl] at h3; exact ⟨fun e' he => by simp [atP] at he, fun x hx => h3⟩
        clear hr4
        go_wp2_with fail
        refine (limit_f E G q _ 109 Rp.bgSt _ 50 r4 _ (by exact HD4) hq (fun a w => by simp [go_sem]) (hide2 begins_st) HR4).mono ?_
        rintro e w4 ⟨hg4, hf4⟩
        have HG4 := hide2 (grown_tr HG3.out hg4)
        have HGE : Hid (w.grownBy w4 (some E.R)) := grown_tr HA.out.grown HG4.out
        clear hg4
        cases r4 with
        | error er =>
          obtain ⟨e1, e2⟩ := er
          obtain ⟨rfl, qe, oe, hde, ho1, ho2⟩ := hf4
          have HDE := hide2 hde
          have HRr : Hid (r = .error (e1, e2)) := (HE4.out.1 _ rfl)
          clear hde
          go_wp2
          refine leaves_cons (f := 108) (args := #[.pointer (some ⟨E.R, 0, none⟩)]) (by simp) (by simp [go_sem]) ?_
          refine (leave_d E G qe oe _ _ HDE (by omega) (by omega)).mono ?_
          rintro e u' we ⟨rfl, rfl, hdl, hgl⟩
          refine ⟨grown_tr HGE.out hgl, ?_⟩
          rw [HRr.out]
          exact ⟨rfl, qe, oe - 1, hdl, by omega, by omega⟩
        | ok qx =>
          obtain ⟨q4, u4⟩ := qx
          have hqq : q4 = q := by
            have := HR4.out
            unfold limitL at this
            split at this
            · simp [atP] at this
            · simp [atP] at this; exact this
          obtain ⟨⟨v, rfl, rfl⟩, hd4⟩ := hf4
          rw [hqq] at hd4
          have HD5 := hide2 hd4
          obtain ⟨r5, hr5⟩ : ∃ r5, r5 = Rp.stat E.l E.en d (Rp.body E.l E.en d) q := ⟨_, rfl⟩
          have HR5 := hide2 hr5
          have HE5 : Hid (r = Rp.andThen r5 fun q s => Rp.stats E.l E.en (Rp.stat E.l E.en d (Rp.body E.l E.en d)) f' ((its.map (·.1)) ++ [s]) q) := by rw [HE4.out.2 _ rfl, hr5]; rfl
          have HA5 : Hid (∀ q' x, r5 = .ok (q', x) → q < q' ∧ q' ≤ E.l.length) := fun q' x hx => Rp.stat_adv (Rp.body_adv E.l E.en d) q q' x hq (by rw [← hr5, hx])
          clear hr5 hd4 hqq HGE
          go_wp2_with fail
          refine (hT.out q r5 _ HD5 hq HR5).mono ?_
          rintro e w5 ⟨hg5, hf5⟩
          have HG5 := hide2 hg5
          have HGE : Hid (w.grownBy w5 (some E.R)) := grown_tr HA.out.grown (grown_tr HG4.out hg5)
          clear hg5
          cases r5 with
          | error er =>
            obtain ⟨e1, e2⟩ := er
            obtain ⟨rfl, qe, oe, hde, ho1, ho2⟩ := hf5
            have HDE := hide2 hde
            have HRr : Hid (r = .error (e1, e2)) := HE5.out
            clear hde
            go_wp2
            refine leaves_cons (f := 108) (args := #[.pointer (some ⟨E.R, 0, none⟩)]) (by simp) (by simp [go_sem]) ?_
            refine (leave_d E G qe oe _ _ HDE (by omega) (by omega)).mono ?_
            rintro e u' we ⟨rfl, rfl, hdl, hgl⟩
            refine ⟨grown_tr HGE.out hgl, ?_⟩
            rw [HRr.out]
            exact ⟨rfl, qe, oe - 1, hdl, by omega, by omega⟩
          | ok qx =>
            obtain ⟨q5, s⟩ := qx
            obtain ⟨⟨v, rfl, xa, xc, ba, bc, ea, ec, n, rfl, hsq⟩, hd5⟩ := hf5
            have HSQ := hide2 hsq
            have HD6 := hide2 hd5
            have HQ5 := hide2 (HA5.out q5 s rfl)
            have hq5 := HQ5.out.2
            have HOWN := hide2 (HA.out.kept hR (grown_tr HG4.out HG5.out)).1
            have hs5 := HGE.out.size
            clear hsq hd5
            go_wp2_with (at_builtin; refine wpList_append_where rfl _ _ 45 rfl w.heap.size 67 i0 _ 8 128 Tryd.underlying45 hi hz0 hz1 hz2 rfl (by decide) _ its.length (cells8 its) rfl (HOWN.out.alloc _) ⟨w5.heap.size, 0, none⟩ 1 1 (itc8 (s, (xa, xc), (ba, bc), (ea, ec))) rfl rfl (itc8_news _ (s, (xa, xc), (ba, bc), (ea, ec)) _) (itc8_one _) (by decide) (by unfold maxLen; omega) (by omega) (by simp; omega) ?_; intro g cap w6 hown6 hgr6 hw6)
            have HN := hide2 (HA.out.next (it := (s, (xa, xc), (ba, bc), (ea, ec))) G h.out HG4.out HG5.out HD6.out HSQ.out HQ5.out HE5.out hown6 hgr6 hw6)
            clear hown6 hgr6 hw6
            go_wp2
            go_roundw
            case rel => exact ⟨_, q5, f', _, HN.out⟩
            case measure => simp [lenV]; omega

end Go.Proofs.YtlnikpcoejpknaaDoor

