/- Rows of expressions of the call's own; the walk of exactly. -/
import Derived.Test.YtlnikpcoejpknaaGreatDoorM14
namespace Go.Proofs.YtlnikpcoejpknaaGreatDoor
open Go.RowKit

theorem Tryz.info64 : (Tryz.prog.info? 64).map (fun i => (i.zero, i.size, i.bytes)) = some (some (.agg #[.int .i64 0, .int .i64 0, .string ⟨#[]⟩, .slice none 0 0]), 4, 56) := by kernel_rfl

abbrev Itm := Sy.Ex × Option Addr × Nat
abbrev itc (i : Itm) : List Value := [.int .i64 i.1.kind, .int .i64 i.1.n, .string i.1.name, .slice i.2.1 i.1.kids.length i.2.2]
def cells4 (its : List Itm) : List Value := its.flatMap itc

theorem cells4_len : ∀ its, (cells4 its).length = its.length * 4
  | [] => rfl
  | i :: its => by have := cells4_len its; simp only [cells4, List.flatMap_cons, List.length_append, List.length_cons] at *; simp only [this, List.length_nil]; omega
theorem cells4_app (l m : List Itm) : cells4 (l ++ m) = cells4 l ++ cells4 m := by simp [cells4]
theorem cells4_get : ∀ (its : List Itm) (i : Nat) (it : Itm), its[i]? = some it → ∀ j, j < 4 → (cells4 its)[i * 4 + j]? = (itc it)[j]?
  | [], i, it, h, _, _ => by simp at h
  | x :: its, 0, it, h, j, hj => by
    simp at h; subst h
    simp only [cells4, List.flatMap_cons, Nat.zero_mul, Nat.zero_add]
    rw [List.getElem?_append_left (by simpa using hj)]
  | x :: its, i + 1, it, h, j, hj => by
    have ih := cells4_get its i it (by simpa using h) j hj
    simp only [cells4, List.flatMap_cons] at ih ⊢
    rw [List.getElem?_append_right (by simp; omega)]
    have e : (i + 1) * 4 + j - (itc x).length = i * 4 + j := by simp; omega
    rw [e, ih]
theorem cells4_one (its : List Itm) : ∀ u ∈ cells4 its, u.oneCell' = true := by
  intro u hu
  obtain ⟨o, _, ho⟩ := List.mem_flatMap.1 hu
  simp only [List.mem_cons, List.not_mem_nil, or_false] at ho
  rcases ho with rfl | rfl | rfl | rfl <;> rfl

/-- A row of expressions of the call's own, as kids. -/
theorem own_exq {Q : Nat → Prop} {w : World} {B n h : Nat} {v : Value} {its : List Itm} {k nn : Int} {s : ByteArray} (hown : w.ownsRow B 64 4 v n (cells4 its)) (hit : ∀ it ∈ its, ExQ Q w h it.1 it.2.1) (hQ : ∀ g, v.ownBlock = some g → Q g) (hlen : its.length ≤ 6000) (hs : s.size ≤ 6000) :
    ∃ a c, v = .slice a its.length c ∧ ExQ Q w (h + 1) ⟨k, nn, s, its.map (·.1)⟩ a := by
  have hl : its.length = n := by have := hown.1; rw [cells4_len] at this; omega
  subst hl
  rcases hown.2 with ⟨rfl, h0⟩ | ⟨g, cap, cur, rfl, hg, hh, _, _, _, ht⟩
  · refine ⟨none, 0, by rw [h0], hs, by simp; omega, fun i k hk => ?_⟩
    have := (List.getElem?_eq_some_iff.1 hk).1
    simp at this
    omega
  · refine ⟨_, cap, rfl, hs, by simpa using hlen, fun i k hk => ?_⟩
    obtain ⟨it, hi, rfl⟩ : ∃ it, its[i]? = some it ∧ it.1 = k := by simpa using hk
    have hlt := (List.getElem?_eq_some_iff.1 hi).1
    have key : ∀ j, j < 4 → w.cell? ⟨g, 0 + i * 4 + j, none⟩ = (itc it)[j]? := by
      intro j hj
      have e := cells4_get its i it hi j hj
      rw [← ht, List.getElem?_take, if_pos (by omega)] at e
      rw [Nat.zero_add, ← e]
      simp [World.cell?, hh]
    exact ⟨g, 0, it.2.1, it.2.2, rfl, hQ g rfl, key 0 (by decide), key 1 (by decide), key 2 (by decide), key 3 (by decide), hit it (List.mem_of_getElem? hi)⟩

/-- Kids as a value, in what was made since w. -/
def KsV (w : World) : World → List Sy.Ex → Value → Prop := fun w' ks v => ∃ a c h, v = .slice a ks.length c ∧ ExQ (Mad w w') w' h ⟨0, 0, ⟨#[]⟩, ks⟩ a
theorem ExQ.head {Q : Nat → Prop} {w : World} {h : Nat} {ks : List Sy.Ex} {a : Option Addr} (hq : ExQ Q w h ⟨0, 0, ⟨#[]⟩, ks⟩ a) (k n : Int) (s : ByteArray) (hs : s.size ≤ 6000) : ExQ Q w h ⟨k, n, s, ks⟩ a := by
  cases h with
  | zero => exact hq.elim
  | succ h => exact ⟨hs, hq.2.1, hq.2.2⟩

def CKids (E : Env) (d : Nat) : Prop := ∀ (p : Nat) (r : Res (List Sy.Ex)) (w : World), Hid (Rdy E w p (200 - (d : Int))) → p ≤ E.l.length → Hid (r = Rp.kids E.l E.en d (Rp.prevOf E.l E.en d) p) →
  Calls Tryz.prog 164 #[.pointer (some ⟨E.R, 0, none⟩)] w fun e w' => Ends E (200 - (d : Int)) w r (KsV w) e w'
def CEx1 (E : Env) (d : Nat) : Prop := ∀ (p : Nat) (r : Res (List Sy.Ex)) (w : World), Hid (Rdy E w p (200 - (d : Int))) → p ≤ E.l.length → Hid (r = Rp.exactly1 E.l E.en d (Rp.prevOf E.l E.en d) p) →
  Calls Tryz.prog 166 #[.pointer (some ⟨E.R, 0, none⟩), .int .i64 1] w fun e w' => Ends E (200 - (d : Int)) w r (KsV w) e w'
def CEx2 (E : Env) (d : Nat) : Prop := ∀ (p : Nat) (r : Res (List Sy.Ex)) (w : World), Hid (Rdy E w p (200 - (d : Int))) → p ≤ E.l.length → Hid (r = Rp.exactly2 E.l E.en d (Rp.prevOf E.l E.en d) p) →
  Calls Tryz.prog 166 #[.pointer (some ⟨E.R, 0, none⟩), .int .i64 2] w fun e w' => Ends E (200 - (d : Int)) w r (KsV w) e w'



set_option maxRecDepth 100000 in
set_option maxHeartbeats 1000000 in
theorem exactly1_f (E : Env) (G : Good E) (d : Nat) (hX : Hid (CExpr E d)) : CEx1 E d := by
  intro p r w h hp hr
  have hR := h.out.lt
  obtain ⟨r1, hr1⟩ : ∃ r1, r1 = Rp.want E.l E.en ⟨#[40]⟩ p := ⟨_, rfl⟩
  have HR1 := hide2 hr1
  have HE0 : Hid (r = Rp.andThen r1 fun q1 _ => Rp.andThen (Rp.expr E.l E.en d (Rp.prevOf E.l E.en d) q1) fun q2 x => Rp.andThen (Rp.want E.l E.en ⟨#[41]⟩ q2) fun q3 _ => .ok (q3, [x])) := by rw [hr.out, hr1]; rfl
  have HA1 : Hid (∀ q x, r1 = .ok (q, x) → q ≤ E.l.length) := fun q x hx => (Rp.want_adv E.l E.en _ p q x hp (by rw [← hr1, hx])).2
  clear hr1
  go_enter Tryz.func166, Tryz.ntmps166
  go_wp2_with fail
  refine (want_f E G p _ ⟨#[40]⟩ r1 _ h hp HR1).mono ?_
  rintro e w1 ⟨hg1, hf1⟩
  have HG1 : Hid (w.grownBy w1 (some E.R)) := hg1
  clear hg1
  cases r1 with
  | error er =>
    obtain ⟨e1, e2⟩ := er
    obtain ⟨rfl, hd1⟩ := hf1
    have HD1 := hide2 hd1
    have HRr : Hid (r = .error (e1, e2)) := HE0.out
    clear hd1
    go_wp2
    exact ⟨rfl, HG1.out, by rw [HRr.out]; exact ⟨rfl, HD1.out⟩⟩
  | ok qx =>
    obtain ⟨q1, u1⟩ := qx
    obtain ⟨⟨v, rfl, rfl⟩, hd1⟩ := hf1
    have HD1 := hide2 hd1
    have hq1 : q1 ≤ E.l.length := HA1.out q1 u1 rfl
    obtain ⟨r2, hr2⟩ : ∃ r2, r2 = Rp.expr E.l E.en d (Rp.prevOf E.l E.en d) q1 := ⟨_, rfl⟩
    have HR2 := hide2 hr2
    have HE1 : Hid (r = Rp.andThen r2 fun q2 x => Rp.andThen (Rp.want E.l E.en ⟨#[41]⟩ q2) fun q3 _ => .ok (q3, [x])) := by rw [HE0.out, hr2]; rfl
    have HA2 : Hid (∀ q x, r2 = .ok (q, x) → q ≤ E.l.length) := fun q x hx => (Rp.expr_adv (en := E.en) (d := d) (Rp.prev_adv E.l E.en d) q1 q x hq1 (by rw [← hr2, hx])).2
    clear hr2 hd1
    go_wp2_with fail
    refine (hX.out q1 r2 _ HD1 hq1 HR2).mono ?_
    rintro e w2 ⟨hg2, hf2⟩
    have HG2 : Hid (w.grownBy w2 (some E.R)) := grown_tr HG1.out hg2
    have hs2 := hg2.size
    clear hg2
    cases r2 with
    | error er =>
      obtain ⟨e1, e2⟩ := er
      obtain ⟨rfl, hd2⟩ := hf2
      have HD2 := hide2 hd2
      have HRr : Hid (r = .error (e1, e2)) := HE1.out
      clear hd2
      go_wp2
      exact ⟨rfl, HG2.out, by rw [HRr.out]; exact ⟨rfl, HD2.out⟩⟩
    | ok qx =>
      obtain ⟨q2, x⟩ := qx
      obtain ⟨⟨v, rfl, a, c, n, rfl, hq⟩, hd2⟩ := hf2
      have HD2 := hide2 hd2
      have HQ := hide2 hq
      have hq2 : q2 ≤ E.l.length := HA2.out q2 x rfl
      obtain ⟨r3, hr3⟩ : ∃ r3, r3 = Rp.want E.l E.en ⟨#[41]⟩ q2 := ⟨_, rfl⟩
      have HR3 := hide2 hr3
      have HE2 : Hid (r = Rp.andThen r3 fun q3 _ => .ok (q3, [x])) := by rw [HE1.out, hr3]; rfl
      clear hr3 hd2 hq
      go_wp2
      go_loopw [5] (fun ov wr => ov = .slice (some ⟨w2.heap.size, 0, none⟩) 1 1 ∧ wr = w2.alloc (exO x.kind x.n x.name (.slice a x.kids.length c))) (fun _ _ => 0)
      case atStart => exact ⟨rfl, rfl⟩
      case round =>
        obtain ⟨rfl, rfl⟩ := hrel
        go_wp2_with fail
        refine (want_f E G q2 _ ⟨#[41]⟩ r3 _ (HD2.out.alloc G _) hq2 HR3).mono ?_
        rintro e w3 ⟨hg3, hf3⟩
        have HG3 : Hid (w.grownBy w3 (some E.R)) := grown_tr (grown_alloc HG2.out _) hg3
        have hs3 := hg3.size
        have hw2 := HG2.out.size
        have hw1 := HG1.out.size
        have HK3 : Hid (w3.heap[w2.heap.size]? = some (exO x.kind x.n x.name (.slice a x.kids.length c))) := kept_on hg3 (by omega) (heap_alloc_new w2 _)
        have HQ3 : Hid (ExQ (Mad w w3) w3 n x a) := HQ.out.keep (fun b hb => ⟨⟨by omega, by simp at hs3; omega⟩, by rw [hg3.block b (by simp; omega) (by simp; omega)]; exact Below.heap_alloc _ _ _ hb.2⟩)
        simp at hs3
        clear hg3
        cases r3 with
        | error er =>
          obtain ⟨e1, e2⟩ := er
          obtain ⟨rfl, hd3⟩ := hf3
          have HD3 := hide2 hd3
          have HRr : Hid (r = .error (e1, e2)) := HE2.out
          clear hd3
          go_wp2
          exact ⟨rfl, HG3.out, by rw [HRr.out]; exact ⟨rfl, HD3.out⟩⟩
        | ok qx =>
          obtain ⟨q3, u3⟩ := qx
          obtain ⟨⟨v, rfl, rfl⟩, hd3⟩ := hf3
          have HD3 := hide2 hd3
          have HRr : Hid (r = .ok (q3, [x])) := HE2.out
          clear hd3
          go_wp2
          go_ret
          refine ⟨HG3.out, ?_⟩
          rw [HRr.out]
          exact ⟨⟨_, rfl, some ⟨w2.heap.size, 0, none⟩, 1, n + 1, rfl, ExQ.one HQ3.out ⟨by omega, by omega⟩ (by decide) HK3.out⟩, HD3.out⟩

end Go.Proofs.YtlnikpcoejpknaaGreatDoor

/- The walk of exactly, of two. -/
namespace Go.Proofs.YtlnikpcoejpknaaGreatDoor
open Go.RowKit



/-- One expression in a row of its own. -/
theorem own_row1 {w : World} {B K : Nat} {x : Sy.Ex} {a : Option Addr} {c : Nat} (h : w.heap[K]? = some (exO x.kind x.n x.name (.slice a x.kids.length c))) (hB : B ≤ K) : w.ownsRow B 64 4 (.slice (some ⟨K, 0, none⟩) 1 1) 1 (cells4 [(x, a, c)]) :=
  ⟨rfl, .inr ⟨K, 1, _, rfl, hB, h, Nat.le_refl _, by unfold maxLen; omega, rfl, rfl⟩⟩

theorem ex_news {w : World} {K : Nat} {x : Sy.Ex} {a : Option Addr} {c : Nat} (h : w.heap[K]? = some (exO x.kind x.n x.name (.slice a x.kids.length c))) : ∀ j u, (cells4 [(x, a, c)])[j]? = some u → w.cell? ((⟨K, 0, none⟩ : Addr).add j) = some u := by
  intro j u hu
  have hadd : (⟨K, 0, none⟩ : Addr).add j = ⟨K, j, none⟩ := by unfold Addr.add; split <;> simp_all
  rw [hadd]
  have e : cells4 [(x, a, c)] = [.int .i64 x.kind, .int .i64 x.n, .string x.name, .slice a x.kids.length c] := rfl
  rw [e] at hu
  match j, hu with
  | 0, hu => simp at hu; subst hu; simp [World.cell?, h]
  | 1, hu => simp at hu; subst hu; simp [World.cell?, h]
  | 2, hu => simp at hu; subst hu; simp [World.cell?, h]
  | 3, hu => simp at hu; subst hu; simp [World.cell?, h]
  | n + 4, hu => simp at hu

/-- Behind the second kid. -/
def Ex2At (E : Env) (op : Int) (w : World) (r : Res (List Sy.Ex)) (ov : Value) (u : World) : Prop :=
  ∃ q x y a c h, ov = .slice a 2 c ∧ Rdy E u q op ∧ w.grownBy u (some E.R) ∧ q ≤ E.l.length ∧ r = Rp.andThen (Rp.want E.l E.en ⟨#[41]⟩ q) (fun q5 _ => .ok (q5, [x, y])) ∧ ExQ (Mad w u) u h ⟨0, 0, ⟨#[]⟩, [x, y]⟩ a

set_option maxRecDepth 100000 in
set_option maxHeartbeats 1000000 in
theorem exactly2_f (E : Env) (G : Good E) (d : Nat) (hX : Hid (CExpr E d)) : CEx2 E d := by
  intro p r w h hp hr
  have hR := h.out.lt
  obtain ⟨r1, hr1⟩ : ∃ r1, r1 = Rp.want E.l E.en ⟨#[40]⟩ p := ⟨_, rfl⟩
  have HR1 := hide2 hr1
  have HE0 : Hid (r = Rp.andThen r1 fun q1 _ => Rp.andThen (Rp.expr E.l E.en d (Rp.prevOf E.l E.en d) q1) fun q2 x => Rp.andThen (Rp.want E.l E.en ⟨#[44]⟩ q2) fun q3 _ => Rp.andThen (Rp.expr E.l E.en d (Rp.prevOf E.l E.en d) q3) fun q4 y => Rp.andThen (Rp.want E.l E.en ⟨#[41]⟩ q4) fun q5 _ => .ok (q5, [x, y])) := by rw [hr.out, hr1]; rfl
  have HA1 : Hid (∀ q x, r1 = .ok (q, x) → q ≤ E.l.length) := fun q x hx => (Rp.want_adv E.l E.en _ p q x hp (by rw [← hr1, hx])).2
  clear hr1
  go_enter Tryz.func166, Tryz.ntmps166
  go_wp2_with fail
  refine (want_f E G p _ ⟨#[40]⟩ r1 _ h hp HR1).mono ?_
  rintro e w1 ⟨hg1, hf1⟩
  have HG1 : Hid (w.grownBy w1 (some E.R)) := hg1
  clear hg1
  cases r1 with
  | error er =>
    obtain ⟨e1, e2⟩ := er
    obtain ⟨rfl, hd1⟩ := hf1
    have HD1 := hide2 hd1
    have HRr : Hid (r = .error (e1, e2)) := HE0.out
    clear hd1
    go_wp2
    exact ⟨rfl, HG1.out, by rw [HRr.out]; exact ⟨rfl, HD1.out⟩⟩
  | ok qx =>
    obtain ⟨q1, u1⟩ := qx
    obtain ⟨⟨v, rfl, rfl⟩, hd1⟩ := hf1
    have HD1 := hide2 hd1
    have hq1 : q1 ≤ E.l.length := HA1.out q1 u1 rfl
    obtain ⟨r2, hr2⟩ : ∃ r2, r2 = Rp.expr E.l E.en d (Rp.prevOf E.l E.en d) q1 := ⟨_, rfl⟩
    have HR2 := hide2 hr2
    have HE1 : Hid (r = Rp.andThen r2 fun q2 x => Rp.andThen (Rp.want E.l E.en ⟨#[44]⟩ q2) fun q3 _ => Rp.andThen (Rp.expr E.l E.en d (Rp.prevOf E.l E.en d) q3) fun q4 y => Rp.andThen (Rp.want E.l E.en ⟨#[41]⟩ q4) fun q5 _ => .ok (q5, [x, y])) := by rw [HE0.out, hr2]; rfl
    have HA2 : Hid (∀ q x, r2 = .ok (q, x) → q ≤ E.l.length) := fun q x hx => (Rp.expr_adv (en := E.en) (d := d) (Rp.prev_adv E.l E.en d) q1 q x hq1 (by rw [← hr2, hx])).2
    clear hr2 hd1
    go_wp2_with fail
    refine (hX.out q1 r2 _ HD1 hq1 HR2).mono ?_
    rintro e w2 ⟨hg2, hf2⟩
    have HG2 : Hid (w.grownBy w2 (some E.R)) := grown_tr HG1.out hg2
    have hs2 := hg2.size
    clear hg2
    cases r2 with
    | error er =>
      obtain ⟨e1, e2⟩ := er
      obtain ⟨rfl, hd2⟩ := hf2
      have HD2 := hide2 hd2
      have HRr : Hid (r = .error (e1, e2)) := HE1.out
      clear hd2
      go_wp2
      exact ⟨rfl, HG2.out, by rw [HRr.out]; exact ⟨rfl, HD2.out⟩⟩
    | ok qx =>
      obtain ⟨q2, x⟩ := qx
      obtain ⟨⟨v, rfl, a, c, n, rfl, hq⟩, hd2⟩ := hf2
      have HD2 := hide2 hd2
      have HQ := hide2 hq
      have hq2 : q2 ≤ E.l.length := HA2.out q2 x rfl
      have HE2 : Hid (r = Rp.andThen (Rp.want E.l E.en ⟨#[44]⟩ q2) fun q3 _ => Rp.andThen (Rp.expr E.l E.en d (Rp.prevOf E.l E.en d) q3) fun q4 y => Rp.andThen (Rp.want E.l E.en ⟨#[41]⟩ q4) fun q5 _ => .ok (q5, [x, y])) := HE1.out
      obtain ⟨i0, hi, hz0, hz1, hz2⟩ := info_parts Tryz.info64
      clear hd2 hq
      go_wp2
      go_loopg [5] 2 (fun k ov wr => (k = 2 ∧ ov = .slice (some ⟨w2.heap.size, 0, none⟩) 1 1 ∧ wr = w2.alloc (exO x.kind x.n x.name (.slice a x.kids.length c))) ∨ (k = 1 ∧ Ex2At E (200 - (d : Int)) w r ov wr))
      case atStart => exact .inl ⟨rfl, rfl, rfl⟩
      case round =>
        have hw2 := HG2.out.size
        have hw1 := HG1.out.size
        rcases hrel with ⟨rfl, rfl, rfl⟩ | ⟨rfl, hE2⟩
        · obtain ⟨r3, hr3⟩ : ∃ r3, r3 = Rp.want E.l E.en ⟨#[44]⟩ q2 := ⟨_, rfl⟩
          have HR3 := hide2 hr3
          have HE3 : Hid (r = Rp.andThen r3 fun q3 _ => Rp.andThen (Rp.expr E.l E.en d (Rp.prevOf E.l E.en d) q3) fun q4 y => Rp.andThen (Rp.want E.l E.en ⟨#[41]⟩ q4) fun q5 _ => .ok (q5, [x, y])) := by rw [HE2.out, hr3]; rfl
          have HA3 : Hid (∀ q x, r3 = .ok (q, x) → q ≤ E.l.length) := fun q x hx => (Rp.want_adv E.l E.en _ q2 q x hq2 (by rw [← hr3, hx])).2
          clear hr3
          go_wp2_with fail
          refine (want_f E G q2 _ ⟨#[44]⟩ r3 _ (HD2.out.alloc G _) hq2 HR3).mono ?_
          rintro e w3 ⟨hg3, hf3⟩
          have HG3 : Hid (w.grownBy w3 (some E.R)) := grown_tr (grown_alloc HG2.out _) hg3
          have hs3 := hg3.size
          have HK3 : Hid (w3.heap[w2.heap.size]? = some (exO x.kind x.n x.name (.slice a x.kids.length c))) := kept_on hg3 (by omega) (heap_alloc_new w2 _)
          have HQ3 : Hid (ExQ (fun b => w1.heap.size ≤ b ∧ b < w2.heap.size) w3 n x a) := HQ.out.keep (fun b hb => ⟨hb, by rw [hg3.block b (by simp; omega) (by simp; omega)]; exact Below.heap_alloc _ _ _ hb.2⟩)
          simp at hs3
          clear hg3
          cases r3 with
          | error er =>
            obtain ⟨e1, e2⟩ := er
            obtain ⟨rfl, hd3⟩ := hf3
            have HD3 := hide2 hd3
            have HRr : Hid (r = .error (e1, e2)) := HE3.out
            clear hd3
            go_wp2
            exact ⟨rfl, HG3.out, by rw [HRr.out]; exact ⟨rfl, HD3.out⟩⟩
          | ok qx =>
            obtain ⟨q3, u3⟩ := qx
            obtain ⟨⟨v, rfl, rfl⟩, hd3⟩ := hf3
            have HD3 := hide2 hd3
            have hq3 : q3 ≤ E.l.length := HA3.out q3 u3 rfl
            obtain ⟨r4, hr4⟩ : ∃ r4, r4 = Rp.expr E.l E.en d (Rp.prevOf E.l E.en d) q3 := ⟨_, rfl⟩
            have HR4 := hide2 hr4
            have HE4 : Hid (r = Rp.andThen r4 fun q4 y => Rp.andThen (Rp.want E.l E.en ⟨#[41]⟩ q4) fun q5 _ => .ok (q5, [x, y])) := by rw [HE3.out, hr4]; rfl
            have HA4 : Hid (∀ q x, r4 = .ok (q, x) → q ≤ E.l.length) := fun q x hx => (Rp.expr_adv (en := E.en) (d := d) (Rp.prev_adv E.l E.en d) q3 q x hq3 (by rw [← hr4, hx])).2
            clear hr4 hd3
            go_wp2_with fail
            refine (hX.out q3 r4 _ HD3 hq3 HR4).mono ?_
            rintro e w4 ⟨hg4, hf4⟩
            have HG4 : Hid (w.grownBy w4 (some E.R)) := grown_tr HG3.out hg4
            have hs4 := hg4.size
            have HK4 : Hid (w4.heap[w2.heap.size]? = some (exO x.kind x.n x.name (.slice a x.kids.length c))) := kept_on hg4 (by omega) HK3.out
            have HQ4 : Hid (ExQ (fun b => w1.heap.size ≤ b ∧ b < w2.heap.size) w4 n x a) := HQ3.out.keep (fun b hb => ⟨hb, hg4.block b (by omega) (by simp; omega)⟩)
            clear hg4
            cases r4 with
            | error er =>
              obtain ⟨e1, e2⟩ := er
              obtain ⟨rfl, hd4⟩ := hf4
              have HD4 := hide2 hd4
              have HRr : Hid (r = .error (e1, e2)) := HE4.out
              clear hd4
              go_wp2
              exact ⟨rfl, HG4.out, by rw [HRr.out]; exact ⟨rfl, HD4.out⟩⟩
            | ok qx =>
              obtain ⟨q4, y⟩ := qx
              obtain ⟨⟨v, rfl, a4, c4, n4, rfl, hy⟩, hd4⟩ := hf4
              have HD4 := hide2 hd4
              have HY4 : Hid (ExQ (fun b => w3.heap.size ≤ b ∧ b < w4.heap.size) w4 n4 y a4) := hy
              have hq4 : q4 ≤ E.l.length := HA4.out q4 y rfl
              have HE5 : Hid (r = Rp.andThen (Rp.want E.l E.en ⟨#[41]⟩ q4) fun q5 _ => .ok (q5, [x, y])) := HE4.out
              have HOW : Hid ((w4.alloc (exO y.kind y.n y.name (.slice a4 y.kids.length c4))).ownsRow w.heap.size 64 4 (.slice (some ⟨w2.heap.size, 0, none⟩) 1 1) 1 (cells4 [(x, a, c)])) := (own_row1 HK4.out (by omega)).alloc _
              have HNW := hide2 (ex_news (heap_alloc_new w4 (exO y.kind y.n y.name (.slice a4 y.kids.length c4))))
              have hbs := (HG4.out.size)
              clear hd4 hy
              go_wp2_with (at_builtin; refine wpList_append_own _ rfl _ _ 62 rfl w.heap.size 64 i0 _ 4 56 Tryz.underlying62 hi hz0 hz1 hz2 rfl (by decide) (.slice (some ⟨w2.heap.size, 0, none⟩) 1 1) 1 (cells4 [(x, a, c)]) rfl HOW.out ⟨w4.heap.size, 0, none⟩ 1 1 (cells4 [(y, a4, c4)]) rfl rfl HNW.out (cells4_one _) (by unfold maxLen; omega) (by omega) (grown_alloc HG4.out _).size ?_; intro v5 w5 h5 g5 _)
              have HR5 : Hid (Ex2At E (200 - (d : Int)) w r v5 w5) := by
                have hg6 : (w4.alloc (exO y.kind y.n y.name (.slice a4 y.kids.length c4))).grownBy w5 (some w2.heap.size) := g5
                have hz5 := hg6.size
                simp at hz5
                have blk : ∀ b, b < w4.heap.size → b ≠ w2.heap.size → w5.heap[b]? = w4.heap[b]? := fun b hb hn => (hg6.block b (by simp; omega) (by simp; omega)).trans (Below.heap_alloc _ _ _ hb)
                have h6 : w5.ownsRow w.heap.size 64 4 v5 2 (cells4 [(x, a, c), (y, a4, c4)]) := h5
                have hgr5 : w.grownBy w5 (some E.R) := ⟨hg6.os.trans HG4.out.os, hg6.tape.trans HG4.out.tape, hg6.output.trans HG4.out.output, by omega, fun i hi hn => (blk i (by omega) (by omega)).trans (HG4.out.block i hi hn)⟩
                obtain ⟨a6, c6, hv6, hq6⟩ := own_exq (Q := Mad w w5) (h := max n n4) (k := 0) (nn := 0) (s := ⟨#[]⟩) h6 (by
                  intro it hit
                  simp only [List.mem_cons, List.not_mem_nil, or_false] at hit
                  rcases hit with rfl | rfl
                  · exact (HQ4.out.keep (fun b hb => ⟨⟨by omega, by omega⟩, blk b (by omega) (by omega)⟩)).up (by omega)
                  · exact (HY4.out.keep (fun b hb => ⟨⟨by omega, by omega⟩, blk b (by omega) (by omega)⟩)).up (by omega)) (fun g hg => h6.lt g hg) (by simp) (by decide)
                exact ⟨q4, x, y, a6, c6, _, hv6, h.out.grown G hgr5 ((blk E.R (by omega) (by omega)).trans HD4.out.rd), hgr5, hq4, HE5.out, hq6⟩
              clear h5 g5
              go_wp2
              go_roundg 1
              case measure => omega
              case rel => exact .inr ⟨rfl, HR5.out⟩
        · obtain ⟨q4, x', y, a6, c6, n6, rfl, hd6, hg6, hq4, hr6, hq6⟩ := hE2
          have HD6 := hide2 hd6
          have HG6 := hide2 hg6
          have HQ6 := hide2 hq6
          obtain ⟨r5, hr5⟩ : ∃ r5, r5 = Rp.want E.l E.en ⟨#[41]⟩ q4 := ⟨_, rfl⟩
          have HR5 := hide2 hr5
          have HE6 : Hid (r = Rp.andThen r5 fun q5 _ => .ok (q5, [x', y])) := by rw [hr6, hr5]; rfl
          clear hr5 hd6 hg6 hq6 hr6
          go_wp2_with fail
          refine (want_f E G q4 _ ⟨#[41]⟩ r5 _ HD6 hq4 HR5).mono ?_
          rintro e w7 ⟨hg7, hf7⟩
          have HG7 : Hid (w.grownBy w7 (some E.R)) := grown_tr HG6.out hg7
          have hs7 := hg7.size
          have HQ7 : Hid (ExQ (Mad w w7) w7 n6 ⟨0, 0, ⟨#[]⟩, [x', y]⟩ a6) := HQ6.out.keep (fun b hb => ⟨⟨hb.1, by omega⟩, hg7.block b hb.2 (by simp; omega)⟩)
          clear hg7
          cases r5 with
          | error er =>
            obtain ⟨e1, e2⟩ := er
            obtain ⟨rfl, hd7⟩ := hf7
            have HD7 := hide2 hd7
            have HRr : Hid (r = .error (e1, e2)) := HE6.out
            clear hd7
            go_wp2
            exact ⟨rfl, HG7.out, by rw [HRr.out]; exact ⟨rfl, HD7.out⟩⟩
          | ok qx =>
            obtain ⟨q5, u5⟩ := qx
            obtain ⟨⟨v, rfl, rfl⟩, hd7⟩ := hf7
            have HD7 := hide2 hd7
            have HRr : Hid (r = .ok (q5, [x', y])) := HE6.out
            clear hd7
            go_wp2
            go_ret
            refine ⟨HG7.out, ?_⟩
            rw [HRr.out]
            exact ⟨⟨_, rfl, a6, c6, n6, rfl, HQ7.out⟩, HD7.out⟩

end Go.Proofs.YtlnikpcoejpknaaGreatDoor

/- The walk of named. -/
namespace Go.Proofs.YtlnikpcoejpknaaGreatDoor
open Go.RowKit


theorem Rdy.set {E : Env} {w0 w : World} {p p0 : Nat} {op op0 : Int} (h0 : Rdy E w0 p0 op0) (h : Rdy E w p op) (G : Good E) (hg : w0.grownBy w (some E.R)) {a : Addr} (ha : w0.heap.size ≤ a.block) (x : Value) : Rdy E (w.setCell a x) p op :=
  h0.grown G (grown_set' hg ha x) (h.rd.set (by have := h0.lt; omega) x)

def CNamed (E : Env) (d : Nat) : Prop := ∀ (p : Nat) (r : Res Sy.Ex) (w : World), Hid (Rdy E w p (200 - (d : Int))) → p ≤ E.l.length → Hid (r = Rp.named E.l E.en d (Rp.prevOf E.l E.en d) p) →
  Calls Tryz.prog 167 #[.pointer (some ⟨E.R, 0, none⟩)] w fun e w' => Ends E (200 - (d : Int)) w r (ExV w) e w'

theorem ex_set0 {w : World} {N : Nat} {k n : Int} {s : ByteArray} {v : Value} (h : w.heap[N]? = some (exO k n s v)) (k' : Int) : (w.setCell ⟨N, 0, none⟩ (.int .i64 k')).heap[N]? = some (exO k' n s v) := by
  simp only [World.setCell, Array.getElem?_modify, if_true, h, Option.map_some]
  rfl

set_option maxRecDepth 100000 in
set_option maxHeartbeats 1000000 in
theorem named_f (E : Env) (G : Good E) (d : Nat) (hK : Hid (CKids E d)) : CNamed E d := by
  intro p r w h hp hr
  have hR := h.out.lt
  obtain ⟨r1, hr1⟩ : ∃ r1, r1 = Rp.name E.l E.en p := ⟨_, rfl⟩
  have HR1 := hide2 hr1
  have HE0 : Hid (r = Rp.andThen r1 fun q s => if (pk E.l q E.en).text = ⟨#[40]⟩ then Rp.andThen (Rp.kids E.l E.en d (Rp.prevOf E.l E.en d) q) fun q2 ks => .ok (q2, ⟨19, 0, s, ks⟩) else .ok (q, ⟨3, 0, s, []⟩)) := by rw [hr.out, hr1]; rfl
  have HA1 : Hid (∀ q x, r1 = .ok (q, x) → q ≤ E.l.length) := fun q x hx => (Rp.name_adv E.l E.en p q x hp (by rw [← hr1, hx])).2
  clear hr1
  go_enter Tryz.func167, Tryz.ntmps167
  go_wp2_with fail
  refine (name_f E G p _ r1 _ (h.out.alloc G _) hp HR1).mono ?_
  rintro e w1 ⟨hg1, hf1⟩
  have HG1 : Hid (w.grownBy w1 (some E.R)) := grown_tr (grown_alloc (grown_bel (Below.refl _ w)) _) hg1
  have HZ1 : Hid (w1.heap[w.heap.size]? = some ZE) := kept_on hg1 (by omega) (heap_alloc_new w ZE)
  have hw1 : w.heap.size < w1.heap.size := lt_of_block HZ1.out
  clear hg1
  cases r1 with
  | error er =>
    obtain ⟨e1, e2⟩ := er
    obtain ⟨rfl, hd1⟩ := hf1
    have HD1 := hide2 hd1
    have HRr : Hid (r = .error (e1, e2)) := HE0.out
    clear hd1
    go_wp2
    exact ⟨rfl, HG1.out, by rw [HRr.out]; exact ⟨rfl, HD1.out⟩⟩
  | ok qx =>
    obtain ⟨q1, s⟩ := qx
    obtain ⟨⟨v, rfl, rfl, hs⟩, hd1⟩ := hf1
    have HD1 := hide2 hd1
    have hq1 : q1 ≤ E.l.length := HA1.out q1 s rfl
    obtain ⟨t, ht⟩ : ∃ t, t = pk E.l q1 E.en := ⟨_, rfl⟩
    have HT := hide2 ht
    have HE1 : Hid (r = if t.text = ⟨#[40]⟩ then Rp.andThen (Rp.kids E.l E.en d (Rp.prevOf E.l E.en d) q1) fun q2 ks => .ok (q2, ⟨19, 0, s, ks⟩) else .ok (q1, ⟨3, 0, s, []⟩)) := by rw [HE0.out, ht]; rfl
    clear ht hd1
    go_wp2_with fail
    refine (peek_f E G q1 _ t _ (HD1.out.alloc G _) hq1 HT).mono ?_
    rintro e w2 ⟨rfl, hb2⟩
    have HG2 : Hid (w.grownBy w2 (some E.R)) := grown_tr (grown_alloc HG1.out _) (grown_bel hb2)
    have HD2 : Hid (Rdy E w2 q1 (200 - (d : Int))) := (HD1.out.alloc G _).on G hb2
    have hZ2 : w2.heap[w.heap.size]? = some ZE := (hb2.block _ (by simp; omega)).trans ((Below.heap_alloc _ _ _ hw1).trans HZ1.out)
    have hX2 : w2.heap[w1.heap.size]? = some (exO 3 0 s (.slice none 0 0)) := (hb2.block _ (by simp)).trans (heap_alloc_new w1 _)
    have hw2 : w1.heap.size < w2.heap.size := lt_of_block hX2
    clear hb2
    obtain ⟨b, hb⟩ : ∃ b, b = decide (t.text = ⟨#[40]⟩) := ⟨_, rfl⟩
    have e0 := tok_text t.kind t.num t.pos t.text w2
    have el : ByteArray.toList ⟨#[40]⟩ = [40] := by simp
    have e1 : (t.text.toList == [40]) = b := by rw [← el]; exact beq_text hb
    clear el
    cases b with
    | false =>
      have HRr : Hid (r = .ok (q1, ⟨3, 0, s, []⟩)) := by unfold Hid; rw [HE1.out, if_neg (by simpa using hb)]
      obtain ⟨⟨z0, z1, z2, z3⟩, y0, y1, y2, y3⟩ := ex_cells hZ2
      obtain ⟨⟨x0, x1, x2, x3⟩, _⟩ := ex_cells hX2
      clear hb hZ2 hX2
      go_wp2
      refine bodyPost_ret (v := exV ⟨3, 0, s, []⟩ none 0) (by simp [results, Tryz.results167, go_sem, z0, z1, z2, z3]) rfl ?_
      exact ⟨grown_four HG2.out (Nat.le_refl _) _ _ _ _, by rw [HRr.out]; exact ⟨⟨_, rfl, none, 0, 1, rfl, ExQ.leaf _ _ _ _ _ hs _⟩, h.out.grown G (grown_four HG2.out (Nat.le_refl _) _ _ _ _) (HD2.out.rd.four (by omega) _ _ _ _)⟩⟩
    | true =>
      obtain ⟨r3, hr3⟩ : ∃ r3, r3 = Rp.kids E.l E.en d (Rp.prevOf E.l E.en d) q1 := ⟨_, rfl⟩
      have HR3 := hide2 hr3
      have HE2 : Hid (r = Rp.andThen r3 fun q2 ks => .ok (q2, ⟨19, 0, s, ks⟩)) := by unfold Hid; rw [HE1.out, if_pos (by simpa using hb), hr3]
      obtain ⟨⟨x0, x1, x2, x3⟩, f0, f1, f2, f3⟩ := ex_cells hX2
      have HZ2 := hide2 hZ2
      have HX2 := hide2 hX2
      clear hb hr3 hZ2 hX2
      go_wp2_with fail
      refine (hK.out q1 r3 _ (Rdy.set h.out HD2.out G HG2.out (a := ⟨w1.heap.size, 0, none⟩) (by simp; omega) _) hq1 HR3).mono ?_
      rintro e w3 ⟨hg3, hf3⟩
      have HG3 : Hid (w.grownBy w3 (some E.R)) := grown_tr (grown_set' HG2.out (a := ⟨w1.heap.size, 0, none⟩) (by simp; omega) _) hg3
      have hs3 := hg3.size
      simp only [World.setCell_size] at hs3
      have hZ3 : w3.heap[w.heap.size]? = some ZE := kept_on hg3 (by omega) ((Below.heap_setCell _ _ _ _ (by simp; omega)).trans HZ2.out)
      have hX3 : w3.heap[w1.heap.size]? = some (exO 19 0 s (.slice none 0 0)) := kept_on hg3 (by omega) (ex_set0 HX2.out 19)
      clear hg3 x0 x1 x2 x3 f0 f1 f2 f3
      cases r3 with
      | error er =>
        clear hZ3 hX3
        obtain ⟨e1, e2⟩ := er
        obtain ⟨rfl, hd3⟩ := hf3
        have HD3 := hide2 hd3
        have HRr : Hid (r = .error (e1, e2)) := HE2.out
        clear hd3
        go_wp2
        exact ⟨rfl, HG3.out, by rw [HRr.out]; exact ⟨rfl, HD3.out⟩⟩
      | ok qx =>
        obtain ⟨q3, ks⟩ := qx
        obtain ⟨⟨v, rfl, a, c, n, rfl, hq⟩, hd3⟩ := hf3
        have HD3 := hide2 hd3
        have HQ : Hid (ExQ (fun b => w2.heap.size ≤ b ∧ b < w3.heap.size) w3 n ⟨0, 0, ⟨#[]⟩, ks⟩ a) := hq.keep (fun b hb => ⟨⟨by have := hb.1; simp only [World.setCell_size] at this; omega, hb.2⟩, rfl⟩)
        have HRr : Hid (r = .ok (q3, ⟨19, 0, s, ks⟩)) := HE2.out
        obtain ⟨⟨z0, z1, z2, z3⟩, y0, y1, y2, y3⟩ := ex_cells hZ3
        obtain ⟨⟨x0, x1, x2, x3⟩, f0, f1, f2, f3⟩ := ex_cells hX3
        have hne : w.heap.size ≠ w1.heap.size := by omega
        clear hd3 hq hZ3 hX3
        go_wp2
        refine bodyPost_ret (v := exV ⟨19, 0, s, ks⟩ a c) (by simp [results, Tryz.results167, go_sem, z0, z1, z2, z3]) rfl ?_
        have hg4 := grown_set' HG3.out (a := ⟨w1.heap.size, 3, none⟩) (by simp; omega) (.slice a ks.length c)
        refine ⟨grown_four hg4 (Nat.le_refl _) _ _ _ _, ?_⟩
        rw [HRr.out]
        refine ⟨⟨_, rfl, a, c, n, rfl, (HQ.out.head 19 0 s hs).keep (fun b hb => ⟨⟨by omega, by simp only [World.setCell_size]; omega⟩, (far_four (by omega) _ _ _ _).trans (Below.heap_setCell _ _ _ _ (by simp; omega))⟩)⟩, ?_⟩
        exact h.out.grown G (grown_four hg4 (Nat.le_refl _) _ _ _ _) ((HD3.out.rd.set (a := ⟨w1.heap.size, 3, none⟩) (by simp; omega) _).four (by omega) _ _ _ _)

end Go.Proofs.YtlnikpcoejpknaaGreatDoor

