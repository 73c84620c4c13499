/- The walk of body. -/
import Derived.Test.YtlnikpcoejpknaaGreatDoorM22
import Derived.Test.YtlnikpcoejpknaaGreatDoorM26
import Derived.Test.YtlnikpcoejpknaaGreatDoorM16
namespace Go.Proofs.YtlnikpcoejpknaaGreatDoor
open Go.RowKit

theorem begins_st : Begins 108 Rp.bgSt := fun t u ht => beginsStat_any t u ht



set_option maxRecDepth 100000 in
set_option maxHeartbeats 1000000 in
theorem body_none (E : Env) (G : Good E) : CBody E 0 := by
  intro p r w h hp hr
  have hR := h.out.lt
  obtain ⟨r1, hr1⟩ : ∃ r1, r1 = Rp.want E.l E.en ⟨#[123]⟩ p := ⟨_, rfl⟩
  have HR1 := hide2 hr1
  have HE0 : Hid (r = Rp.andThen r1 fun q _ => .error (4, (pk E.l q E.en).pos)) := by rw [hr.out, hr1]; rfl
  have HA1 : Hid (∀ q x, r1 = .ok (q, x) → q ≤ E.l.length) := fun q x hx => (Rp.want_adv E.l E.en _ p q x hp (by rw [← hr1, hx])).2
  clear hr1
  go_enter_defers Tryz.func74, Tryz.ntmps74
  go_wp2_with fail
  refine (want_f E G p _ ⟨#[123]⟩ r1 _ h hp HR1).mono ?_
  rintro e w1 ⟨hg1, hf1⟩
  have HG1 := hide2 hg1
  clear hg1
  cases r1 with
  | error er =>
    obtain ⟨e1, e2⟩ := er
    obtain ⟨rfl, hd1⟩ := hf1
    have HD1 := hide2 hd1
    have HRr : Hid (r = .error (e1, e2)) := HE0.out
    clear hd1
    go_wp2
    refine ⟨HG1.out, ?_⟩
    rw [HRr.out]
    exact ⟨rfl, HD1.out⟩
  | ok qx =>
    obtain ⟨q1, u1⟩ := qx
    obtain ⟨⟨v, rfl, rfl⟩, hd1⟩ := hf1
    have HD1 : Hid (Rdy E w1 q1 200) := hd1
    have hq1 : q1 ≤ E.l.length := HA1.out q1 u1 rfl
    have HRr : Hid (r = .error (4, (pk E.l q1 E.en).pos)) := HE0.out
    clear hd1
    go_wp2_with fail
    refine (enter_no E G q1 _ HD1 hq1).mono ?_
    rintro e w2 ⟨rfl, hg2, hd2⟩
    have HG2 : Hid (w.grownBy w2 (some E.R)) := grown_tr HG1.out hg2
    have HD2 := hide2 hd2
    clear hg2 hd2
    go_wp2
    refine ⟨HG2.out, ?_⟩
    rw [HRr.out]
    exact ⟨rfl, HD2.out⟩

set_option maxRecDepth 100000 in
set_option maxHeartbeats 2000000 in
theorem body_more (E : Env) (G : Good E) (d : Nat) (hd : d < 200) (hT : Hid (CStat E d)) : CBody E (d + 1) := by
  intro p r w h hp hr
  have hR := h.out.lt
  have hfew := G.few
  obtain ⟨i0, hi, hz0, hz1, hz2⟩ := info_parts Tryz.info66
  obtain ⟨r1, hr1⟩ : ∃ r1, r1 = Rp.want E.l E.en ⟨#[123]⟩ p := ⟨_, rfl⟩
  have HR1 := hide2 hr1
  have HE0 : Hid (r = Rp.andThen r1 fun q _ => Rp.stats E.l E.en (Rp.stat E.l E.en d (Rp.body E.l E.en d)) (E.l.length + 1) [] q) := by rw [hr.out, hr1]; rfl
  have HA1 : Hid (∀ q x, r1 = .ok (q, x) → q ≤ E.l.length) := fun q x hx => (Rp.want_adv E.l E.en _ p q x hp (by rw [← hr1, hx])).2
  have HOP : Hid ((200 : Int) - ((d + 1 : Nat) : Int) + 1 = 200 - (d : Int)) := by unfold Hid; omega
  clear hr1
  go_enter_defers Tryz.func74, Tryz.ntmps74
  go_wp2_with fail
  refine (want_f E G p _ ⟨#[123]⟩ r1 _ h hp HR1).mono ?_
  rintro e w1 ⟨hg1, hf1⟩
  have HG1 := hide2 hg1
  clear hg1
  cases r1 with
  | error er =>
    obtain ⟨e1, e2⟩ := er
    obtain ⟨rfl, hd1⟩ := hf1
    have HD1 := hide2 hd1
    have HRr : Hid (r = .error (e1, e2)) := HE0.out
    clear hd1
    go_wp2
    refine ⟨HG1.out, ?_⟩
    rw [HRr.out]
    exact ⟨rfl, HD1.out⟩
  | ok qx =>
    obtain ⟨q1, u1⟩ := qx
    obtain ⟨⟨v, rfl, rfl⟩, hd1⟩ := hf1
    have HD1 := hide2 hd1
    have hq1 : q1 ≤ E.l.length := HA1.out q1 u1 rfl
    clear hd1
    go_wp2_with fail
    refine (enter_yes E G q1 _ _ HD1 hq1 (by omega) (by omega)).mono ?_
    rintro e w2 ⟨rfl, hd2, hg2⟩
    rw [HOP.out] at hd2
    have HG2 : Hid (w.grownBy w2 (some E.R)) := grown_tr HG1.out hg2
    have HS0 : Hid (BdAt E d w r [] q1 (E.l.length + 1) 0 (.slice none 0 0) w2) := ⟨World.ownsRow_nil _ _ _ _, fun it hit => by simp at hit, hd2, hq1, HG2.out, HE0.out, by omega, Nat.zero_le _⟩
    clear hg2 hd2
    go_wp2
    go_loopw [3] (fun v wr => ∃ its q fu h, BdAt E d w r its q fu h v wr) (fun v _ => E.l.length + 1 - lenV v)
    case atStart => exact ⟨[], q1, _, 0, HS0.out⟩
    case round =>
      obtain ⟨its, q, fu, hh, hA⟩ := hrel
      clear HS0 HG2 HG1
      have HA := hide2 hA
      have hq := hA.le
      have HD3 := hide2 hA.rdy
      obtain ⟨av, cv, hv⟩ : ∃ a c, u3 = .slice a its.length c := by
        rcases hA.own.2 with ⟨rfl, h0⟩ | ⟨g, cap, cur, rfl, _⟩
        · rw [h0]; exact ⟨_, _, rfl⟩
        · exact ⟨_, _, rfl⟩
      subst hv
      have hil := hA.few
      obtain ⟨f', hf'⟩ : ∃ f', fu = f' + 1 := ⟨fu - 1, by have := hA.fuel; omega⟩
      subst hf'
      clear hA
      obtain ⟨t, ht⟩ : ∃ t, t = tk E.l q ⟨#[125]⟩ := ⟨_, rfl⟩
      have HT := hide2 ht
      have HE3 : Hid (r = if t then .ok (q + 1, its.map (·.1)) else match limitL Rp.bgSt (its.map (·.1)).length 50 (pk E.l q E.en) q with
        | .error e => .error e
        | .ok _ => Rp.andThen (Rp.stat E.l E.en d (Rp.body E.l E.en d) q) fun q s => Rp.stats E.l E.en (Rp.stat E.l E.en d (Rp.body E.l E.en d)) f' ((its.map (·.1)) ++ [s]) q) := by rw [HA.out.eq, ht]; rfl
      clear ht
      go_wp2_with fail
      refine (take_f E G q _ ⟨#[125]⟩ t _ _ HD3 hq HT rfl).mono ?_
      rintro e w3 ⟨rfl, hd3, hg3⟩
      have HG3 := hide2 hg3
      have HD4 := hide2 hd3
      clear hd3 hg3
      cases t with
      | true =>
        have HRr : Hid (r = .ok (q + 1, its.map (·.1))) := HE3.out
        go_wp2
        refine leaves_cons (f := 107) (args := #[.pointer (some ⟨E.R, 0, none⟩)]) (by simp) (by simp [go_sem]) ?_
        refine (leave_d E G (q + 1) _ _ _ HD4 (by omega) (by omega)).mono ?_
        rintro e u' w4 ⟨rfl, rfl, hd4, hg4⟩
        rw [show (200 : Int) - (d : Int) - 1 = 200 - ((d + 1 : Nat) : Int) by omega] at hd4
        show Leaves _ _ _ _ [] .returning _
        have hgg := grown_tr HG3.out hg4
        refine ⟨.slice av its.length cv, by simp [results, Tryz.results74, go_sem], grown_tr HA.out.grown hgg, ?_⟩
        rw [HRr.out]
        exact ⟨⟨_, rfl, HA.out.out hR hfew hgg⟩, hd4⟩
      | false =>
        obtain ⟨r4, hr4⟩ : ∃ r4, r4 = atP () (limitL Rp.bgSt its.length 50 (pk E.l q E.en) q) := ⟨_, rfl⟩
        have HR4 := hide2 hr4
        have HE4 : Hid ((∀ e, r4 = .error e → r = .error e) ∧ (∀ x, r4 = .ok x → r = Rp.andThen (Rp.stat E.l E.en d (Rp.body E.l E.en d) q) fun q s => Rp.stats E.l E.en (Rp.stat E.l E.en d (Rp.body E.l E.en d)) f' ((its.map (·.1)) ++ [s]) q)) := by
          have h3 := HE3.out
          rw [List.length_map] at h3
          unfold Hid
          rw [hr4]
          cases hl : limitL Rp.bgSt its.length 50 (pk E.l q E.en) q with
          | error e => rw [hl] at h3; exact ⟨fun e' he => by simp [atP] at he; rw [← he]; exact h3, fun x hx => by simp [atP] at hx⟩
          | ok x => rw [hl] at h3; exact ⟨fun e' he => by simp [atP] at he, fun x hx => h3⟩
        clear hr4
        go_wp2_with fail
        refine (limit_f E G q _ 108 Rp.bgSt _ 50 r4 _ (by exact HD4) hq (fun a w => by simp [go_sem]) (hide2 begins_st) HR4).mono ?_
        rintro e w4 ⟨hg4, hf4⟩
        have HG4 := hide2 (grown_tr HG3.out hg4)
        have HGE : Hid (w.grownBy w4 (some E.R)) := grown_tr HA.out.grown HG4.out
        clear hg4
        cases r4 with
        | error er =>
          obtain ⟨e1, e2⟩ := er
          obtain ⟨rfl, qe, oe, hde, ho1, ho2⟩ := hf4
          have HDE := hide2 hde
          have HRr : Hid (r = .error (e1, e2)) := (HE4.out.1 _ rfl)
          clear hde
          go_wp2
          refine leaves_cons (f := 107) (args := #[.pointer (some ⟨E.R, 0, none⟩)]) (by simp) (by simp [go_sem]) ?_
          refine (leave_d E G qe oe _ _ HDE (by omega) (by omega)).mono ?_
          rintro e u' we ⟨rfl, rfl, hdl, hgl⟩
          refine ⟨grown_tr HGE.out hgl, ?_⟩
          rw [HRr.out]
          exact ⟨rfl, qe, oe - 1, hdl, by omega, by omega⟩
        | ok qx =>
          obtain ⟨q4, u4⟩ := qx
          have hqq : q4 = q := by
            have := HR4.out
            unfold limitL at this
            split at this
            · simp [atP] at this
            · simp [atP] at this; exact this
          obtain ⟨⟨v, rfl, rfl⟩, hd4⟩ := hf4
          rw [hqq] at hd4
          have HD5 := hide2 hd4
          obtain ⟨r5, hr5⟩ : ∃ r5, r5 = Rp.stat E.l E.en d (Rp.body E.l E.en d) q := ⟨_, rfl⟩
          have HR5 := hide2 hr5
          have HE5 : Hid (r = Rp.andThen r5 fun q s => Rp.stats E.l E.en (Rp.stat E.l E.en d (Rp.body E.l E.en d)) f' ((its.map (·.1)) ++ [s]) q) := by rw [HE4.out.2 _ rfl, hr5]; rfl
          have HA5 : Hid (∀ q' x, r5 = .ok (q', x) → q < q' ∧ q' ≤ E.l.length) := fun q' x hx => Rp.stat_adv (Rp.body_adv E.l E.en d) q q' x hq (by rw [← hr5, hx])
          clear hr5 hd4 hqq HGE
          go_wp2_with fail
          refine (hT.out q r5 _ HD5 hq HR5).mono ?_
          rintro e w5 ⟨hg5, hf5⟩
          have HG5 := hide2 hg5
          have HGE : Hid (w.grownBy w5 (some E.R)) := grown_tr HA.out.grown (grown_tr HG4.out hg5)
          clear hg5
          cases r5 with
          | error er =>
            obtain ⟨e1, e2⟩ := er
            obtain ⟨rfl, qe, oe, hde, ho1, ho2⟩ := hf5
            have HDE := hide2 hde
            have HRr : Hid (r = .error (e1, e2)) := HE5.out
            clear hde
            go_wp2
            refine leaves_cons (f := 107) (args := #[.pointer (some ⟨E.R, 0, none⟩)]) (by simp) (by simp [go_sem]) ?_
            refine (leave_d E G qe oe _ _ HDE (by omega) (by omega)).mono ?_
            rintro e u' we ⟨rfl, rfl, hdl, hgl⟩
            refine ⟨grown_tr HGE.out hgl, ?_⟩
            rw [HRr.out]
            exact ⟨rfl, qe, oe - 1, hdl, by omega, by omega⟩
          | ok qx =>
            obtain ⟨q5, s⟩ := qx
            obtain ⟨⟨v, rfl, xa, xc, ba, bc, ea, ec, n, rfl, hsq⟩, hd5⟩ := hf5
            have HSQ := hide2 hsq
            have HD6 := hide2 hd5
            have HQ5 := hide2 (HA5.out q5 s rfl)
            have hq5 := HQ5.out.2
            have HOWN := hide2 (HA.out.kept hR (grown_tr HG4.out HG5.out)).1
            have hs5 := HGE.out.size
            clear hsq hd5
            go_wp2_with (at_builtin; refine wpList_append_where rfl _ _ 55 rfl w.heap.size 66 i0 _ 8 128 Tryz.underlying55 hi hz0 hz1 hz2 rfl (by decide) _ its.length (cells8 its) rfl (HOWN.out.alloc _) ⟨w5.heap.size, 0, none⟩ 1 1 (itc8 (s, (xa, xc), (ba, bc), (ea, ec))) rfl rfl (itc8_news _ (s, (xa, xc), (ba, bc), (ea, ec)) _) (itc8_one _) (by decide) (by unfold maxLen; omega) (by omega) (by simp; omega) ?_; intro g cap w6 hown6 hgr6 hw6)
            have HN := hide2 (HA.out.next (it := (s, (xa, xc), (ba, bc), (ea, ec))) G h.out HG4.out HG5.out HD6.out HSQ.out HQ5.out HE5.out hown6 hgr6 hw6)
            clear hown6 hgr6 hw6
            go_wp2
            go_roundw
            case rel => exact ⟨_, q5, f', _, HN.out⟩
            case measure => simp [lenV]; omega

end Go.Proofs.YtlnikpcoejpknaaGreatDoor

/- Bodies, by induction on the levels that are left; types, places; parameters. -/
namespace Go.Proofs.YtlnikpcoejpknaaGreatDoor
open Go.RowKit

/-- WHAT reader.body ANSWERS. -/
theorem body_f (E : Env) (G : Good E) : ∀ d, d ≤ 200 → CBody E d
  | 0, _ => body_none E G
  | d + 1, hd => by
    have hB := hide2 (body_f E G d (by omega))
    have hX := hide2 (expr_f E G d (by omega))
    exact body_more E G d (by omega) (hide2 (stat_f E G d hX hB (hide2 (setting_f E G d hX)) (hide2 (saying_f E G d hX)) (hide2 (choice_f E G d hX hB))))

abbrev TyV : World → Sy.Ty → Value → Prop := fun _ t v => v = .agg #[.int .i64 t.kind, .string t.gen] ∧ t.gen.size ≤ 6000
abbrev NumV : World → Int → Value → Prop := fun _ n v => v = .int .i64 n

theorem typ_f (E : Env) (G : Good E) (p : Nat) (op : Int) (r : Res Sy.Ty) (w : World) (h : Hid (Rdy E w p op)) (hp : p ≤ E.l.length) (hr : Hid (r = Rp.typ E.l E.en p)) :
    Calls Tryz.prog 101 #[.pointer (some ⟨E.R, 0, none⟩)] w fun e w' => Ends E op w r TyV e w' := by
  have hz := (G.toks.pk p E.en).1
  have hz2 : (tyAt E.l p E.en).gen.size ≤ 6000 := by
    unfold tyAt
    split
    · decide
    · split
      · decide
      · exact hz
  refine (valueType_any E.B E.R E.ta E.tc E.l p E.en _ op (typL E.l p E.en) (tyAt E.l p E.en) w h.out.rd h.out.tk G.below hp rfl (by unfold maxLen; omega) rfl).mono ?_
  intro e w' hf
  exact ends_mk (x := tyAt E.l p E.en) G h.out hf (by rw [hr.out]; unfold Rp.typ; cases typL E.l p E.en <;> rfl) ⟨rfl, hz2⟩

theorem places_f (E : Env) (G : Good E) (p : Nat) (op : Int) (r : Res Int) (w : World) (h : Hid (Rdy E w p op)) (hp : p ≤ E.l.length) (hr : Hid (r = Rp.places E.l E.en p)) :
    Calls Tryz.prog 102 #[.pointer (some ⟨E.R, 0, none⟩)] w fun e w' => Ends E op w r NumV e w' := by
  refine (places_any E.B E.R E.ta E.tc E.l p E.en _ op (placesL E.l p E.en) (pk E.l p E.en) w h.out.rd h.out.tk G.below hp rfl ?_ rfl).mono ?_
  · have := (G.toks.pk p E.en).2; first | exact this | exact this.2 | omega
  · intro e w' hf
    exact ends_mk (x := ((pk E.l p E.en).num : Int)) G h.out hf (by rw [hr.out]; unfold Rp.places; cases placesL E.l p E.en <;> rfl) rfl

theorem Tryz.info61 : (Tryz.prog.info? 61).map (fun i => (i.zero, i.size, i.bytes)) = some (some (.agg #[.string ⟨#[]⟩, .int .i64 0, .string ⟨#[]⟩]), 3, 40) := by kernel_rfl

abbrev itc3 (i : Sy.Pm) : List Value := [.string i.name, .int .i64 i.ty.kind, .string i.ty.gen]
def cells3 (its : List Sy.Pm) : List Value := its.flatMap itc3

theorem cells3_app (l : List Sy.Pm) (i : Sy.Pm) : cells3 (l ++ [i]) = cells3 l ++ itc3 i := by simp [cells3]
theorem cells3_get : ∀ (its : List Sy.Pm) (i : Nat) (it : Sy.Pm), its[i]? = some it → ∀ j, j < 3 → (cells3 its)[i * 3 + j]? = (itc3 it)[j]?
  | [], i, it, h, _, _ => by simp at h
  | x :: its, 0, it, h, j, hj => by
    simp at h; subst h
    simp only [cells3, List.flatMap_cons, Nat.zero_mul, Nat.zero_add]
    rw [List.getElem?_append_left (by simpa using hj)]
  | x :: its, i + 1, it, h, j, hj => by
    have ih := cells3_get its i it (by simpa using h) j hj
    simp only [cells3, List.flatMap_cons] at ih ⊢
    rw [List.getElem?_append_right (by simp; omega)]
    have e : (i + 1) * 3 + j - (itc3 x).length = i * 3 + j := by simp; omega
    rw [e, ih]
theorem itc3_one (it : Sy.Pm) : ∀ u ∈ itc3 it, u.oneCell' = true := by
  intro u ho
  simp only [List.mem_cons, List.not_mem_nil, or_false] at ho
  rcases ho with rfl | rfl | rfl <;> rfl
theorem itc3_news (W : World) (it : Sy.Pm) (t : TypeId) : ∀ j u, (itc3 it)[j]? = some u → (W.alloc (.cells (itc3 it).toArray t)).cell? ((⟨W.heap.size, 0, none⟩ : Addr).add j) = some u := by
  intro j u hu
  have hadd : (⟨W.heap.size, 0, none⟩ : Addr).add j = ⟨W.heap.size, j, none⟩ := by unfold Addr.add; split <;> simp_all
  rw [hadd, World.cell?_alloc_mark]
  simpa using hu

/-- Parameters in blocks of which Q holds. -/
def PmsQ (Q : Nat → Prop) (w : World) (l : List Sy.Pm) (a : Option Addr) : Prop :=
  l.length ≤ 6000 ∧ ∀ i p, l[i]? = some p → ∃ b off, a = some ⟨b, off, none⟩ ∧ Q b ∧ w.cell? ⟨b, off + i * 3, none⟩ = some (.string p.name) ∧
      w.cell? ⟨b, off + i * 3 + 1, none⟩ = some (.int .i64 p.ty.kind) ∧ w.cell? ⟨b, off + i * 3 + 2, none⟩ = some (.string p.ty.gen) ∧ p.name.size ≤ 6000 ∧ p.ty.gen.size ≤ 6000
theorem PmsQ.keep {Q Q' : Nat → Prop} {w w' : World} (hk : ∀ b, Q b → Q' b ∧ w'.heap[b]? = w.heap[b]?) {l : List Sy.Pm} {a : Option Addr} (h : PmsQ Q w l a) : PmsQ Q' w' l a := ⟨h.1, fun i p hi => by
  obtain ⟨b, off, ha, hb, c0, c1, c2, r⟩ := h.2 i p hi
  have hc : ∀ o, w'.cell? ⟨b, o, none⟩ = w.cell? ⟨b, o, none⟩ := fun o => World.cell?_of_block (a := ⟨b, o, none⟩) (hk b hb).2
  exact ⟨b, off, ha, (hk b hb).1, (hc _).trans c0, (hc _).trans c1, (hc _).trans c2, r⟩⟩
theorem PmsQ.toIn {Q : Nat → Prop} {w : World} {B : Nat} (hQ : ∀ b, Q b → b < B) {l : List Sy.Pm} {a : Option Addr} (h : PmsQ Q w l a) : PmsIn B w l a := ⟨by have := h.1; unfold maxLen; omega, fun i p hi => by
  obtain ⟨b, off, ha, hb, c0, c1, c2, h1, h2⟩ := h.2 i p hi
  exact ⟨b, off, ha, hQ b hb, c0, c1, c2, by unfold maxLen; omega, by unfold maxLen; omega⟩⟩

abbrev rowP (v : Value) : Obj := .cells #[v] 54 (0, 0)

/-- So far these parameters are there: the reader's box at N, the row's box behind it. -/
structure PAt (E : Env) (N : Nat) (w : World) (its : List Sy.Pm) (v : Value) : Prop where
  rb : w.heap[N]? = some (rbO E.R)
  ob : w.heap[N + 1]? = some (rowP v)
  row : w.ownsRow (N + 2) 61 3 v its.length (cells3 its)
  few : ∀ it ∈ its, it.name.size ≤ 6000 ∧ it.ty.gen.size ≤ 6000
def PSt (E : Env) (N : Nat) (w : World) (out : List Sy.Pm) : Prop := ∃ v, PAt E N w out v

theorem PAt.kept {E : Env} {N : Nat} {w w' : World} {its : List Sy.Pm} {v : Value} (k : PAt E N w its v) (hg : w.grownBy w' (some E.R)) (hR : E.R < N) : PAt E N w' its v :=
  ⟨(hg.block N (lt_of_block k.rb) (by simp; omega)).trans k.rb, (hg.block (N + 1) (lt_of_block k.ob) (by simp; omega)).trans k.ob,
   k.row.kept hg (by
    cases hv : v.ownBlock with
    | none => exact .inl rfl
    | some g => right; have := k.row.lt g hv; simp; omega), k.few⟩

abbrev PmsV (w : World) : World → List Sy.Pm → Value → Prop := fun w' ps v => ∃ a c, v = .slice a ps.length c ∧ PmsQ (Mad w w') w' ps a

theorem PAt.out {E : Env} {w w' : World} {its : List Sy.Pm} {v : Value} (k : PAt E w.heap.size w' its v) (hl : its.length ≤ 6000) : PmsV w w' its v := by
  rcases k.row.2 with ⟨rfl, h0⟩ | ⟨g, cap, cur, rfl, hg, hh, _, _, _, ht⟩
  · exact ⟨none, 0, by rw [h0], hl, fun i p hi => by have := (List.getElem?_eq_some_iff.1 hi).1; omega⟩
  · refine ⟨_, cap, rfl, hl, fun i p hi => ?_⟩
    have hlt := (List.getElem?_eq_some_iff.1 hi).1
    have key : ∀ j, j < 3 → w'.cell? ⟨g, 0 + i * 3 + j, none⟩ = (itc3 p)[j]? := by
      intro j hj
      have e := cells3_get its i p hi j hj
      rw [← ht, List.getElem?_take, if_pos (by omega)] at e
      rw [Nat.zero_add, ← e]
      simp [World.cell?, hh]
    have := k.few p (List.mem_of_getElem? hi)
    exact ⟨g, 0, rfl, ⟨by omega, lt_of_block hh⟩, key 0 (by decide), key 1 (by decide), key 2 (by decide), this.1, this.2⟩

end Go.Proofs.YtlnikpcoejpknaaGreatDoor

/- The walks of params and its closure. -/
namespace Go.Proofs.YtlnikpcoejpknaaGreatDoor
open Go.RowKit

/-- One parameter more. -/
theorem PAt.more {E : Env} {N : Nat} {w0 W w4 : World} {its : List Sy.Pm} {v : Value} {it : Sy.Pm} {g cap : Nat} {ob : Obj} (k : PAt E N W its v) (hN : w0.heap.size ≤ N) (hg0 : w0.grownBy W (some E.R)) (hs : it.name.size ≤ 6000 ∧ it.ty.gen.size ≤ 6000)
    (hown : w4.ownsRow (N + 2) 61 3 (.slice (some ⟨g, 0, none⟩) (its.length + 1) cap) (its.length + 1) (cells3 its ++ itc3 it)) (hgr : (W.alloc ob).grownBy w4 v.ownBlock) :
    PAt E N (w4.setCell ⟨N + 1, 0, none⟩ (.slice (some ⟨g, 0, none⟩) (its.length + 1) cap)) (its ++ [it]) (.slice (some ⟨g, 0, none⟩) (its.length + 1) cap) ∧ w0.grownBy (w4.setCell ⟨N + 1, 0, none⟩ (.slice (some ⟨g, 0, none⟩) (its.length + 1) cap)) (some E.R) ∧
      (∀ b, b < W.heap.size → v.ownBlock ≠ some b → b ≠ N + 1 → (w4.setCell ⟨N + 1, 0, none⟩ (.slice (some ⟨g, 0, none⟩) (its.length + 1) cap)).heap[b]? = W.heap[b]?) ∧ w4.heap[N + 1]? = some (rowP v) := by
  have hgl := hown.lt g rfl
  have hvb : ∀ b, v.ownBlock = some b → N + 2 ≤ b ∧ b < W.heap.size := fun b hb => k.row.lt b hb
  have hs4 := hgr.size
  simp only [asz] at hs4
  have hsW := hg0.size
  have hN1 : N + 1 < W.heap.size := lt_of_block k.ob
  have far : ∀ b, b < N + 2 → w4.heap[b]? = W.heap[b]? := fun b hb => (hgr.block b (by simp; omega) (fun e => by have := (hvb b e.symm).1; omega)).trans (Below.heap_alloc _ _ _ (by omega))
  have far2 : ∀ b u, b ≠ N + 1 → (w4.setCell ⟨N + 1, 0, none⟩ u).heap[b]? = w4.heap[b]? := fun b u hb => Below.heap_setCell _ _ _ _ hb
  refine ⟨⟨by rw [far2 _ _ (by omega), far _ (by omega)]; exact k.rb, ?_, ?_, fun i hi => ?_⟩, ⟨hgr.os.trans hg0.os, hgr.tape.trans hg0.tape, hgr.output.trans hg0.output, by simp only [World.setCell_size]; omega, fun b hb hn => ?_⟩, fun b hb h1 h2 => ?_, (far _ (by omega)).trans k.ob⟩
  · have h1 : w4.heap[N + 1]? = some (rowP v) := (far _ (by omega)).trans k.ob
    simp only [World.setCell, Array.getElem?_modify, if_true, h1, Option.map_some]
    rfl
  · rw [cells3_app]
    have := ownsRow_setCell_other (a := ⟨N + 1, 0, none⟩) hown (by simp only [Value.ownBlock]; intro e; simp at e; omega) (.slice (some ⟨g, 0, none⟩) (its.length + 1) cap)
    simpa using this
  · rcases List.mem_append.1 hi with hi | hi
    · exact k.few i hi
    · simp only [List.mem_singleton] at hi; subst hi; exact hs
  · rw [far2 _ _ (by omega), far _ (by omega)]; exact hg0.block b hb hn
  · rw [far2 _ _ h2, hgr.block b (by simp; omega) (fun e => h1 e.symm), Below.heap_alloc _ _ _ hb]

/-- The reader stands where it stood, where its own blocks are as they were. -/
theorem Rdy.cells {E : Env} (G : Good E) {w u : World} {q : Nat} {op : Int} (h : Rdy E w q op) (hR : ∀ b, b ≤ E.R → u.heap[b]? = w.heap[b]?) (hM : u.heap[E.M]? = w.heap[E.M]?) : Rdy E u q op :=
  ⟨(hR _ (Nat.le_refl _)).trans h.rd, h.tk.on (fun b o hb => World.cell?_of_block (a := ⟨b, o, none⟩) (hR b (by have := G.below; omega))), hM.trans h.mp⟩
theorem Rdy.ne {E : Env} {w : World} {q : Nat} {op : Int} (h : Rdy E w q op) {b : Nat} {cs : Array Value} {t : TypeId} {fr : Nat × Nat} (hb : w.heap[b]? = some (.cells cs t fr)) : E.M ≠ b := fun e => by
  have hm := h.mp
  rw [e, hb] at hm
  simp at hm
theorem Rdy.own {E : Env} {w : World} {q : Nat} {op : Int} (h : Rdy E w q op) {B e size n : Nat} {v : Value} {xs : List Value} (ho : w.ownsRow B e size v n xs) : v.ownBlock ≠ some E.M := fun e => by
  rcases ho.2 with ⟨h1, _⟩ | ⟨g', cap', cur, h1, _, hh, _⟩
  · rw [h1] at e; simp [Value.ownBlock] at e
  · rw [h1] at e
    simp only [Value.ownBlock, Option.some.injEq] at e
    exact h.ne hh e.symm

theorem itc3_news2 (W : World) (it : Sy.Pm) (t : TypeId) (q : Nat) (hq : q = W.heap.size) : ∀ j u, (itc3 it)[j]? = some u → (W.alloc (.cells (itc3 it).toArray t)).cell? ((⟨q, 0, none⟩ : Addr).add j) = some u := by
  subst hq
  exact itc3_news W it t

abbrev pmO (s : ByteArray) (k : Int) (gn : ByteArray) : Obj := .cells #[.string s, .int .i64 k, .string gn] 61 (0, 0)
theorem pm_cells {w : World} {N : Nat} {k : Int} {s gn : ByteArray} (h : w.heap[N]? = some (pmO s k gn)) : (w.cell? ⟨N, 0, none⟩ = some (.string s) ∧ w.cell? ⟨N, 1, none⟩ = some (.int .i64 k) ∧ w.cell? ⟨N, 2, none⟩ = some (.string gn)) ∧ w.frozen? ⟨N, 0, none⟩ = false ∧ w.frozen? ⟨N, 1, none⟩ = false ∧ w.frozen? ⟨N, 2, none⟩ = false := by
  simp [World.cell?, World.frozen?, h]
theorem pm_set {w : World} {N : Nat} {k k' : Int} {s gn gn' : ByteArray} (h : w.heap[N]? = some (pmO s k gn)) : ((w.setCell ⟨N, 1, none⟩ (.int .i64 k')).setCell ⟨N, 2, none⟩ (.string gn')).heap[N]? = some (pmO s k' gn') := by
  simp only [World.setCell, Array.getElem?_modify, if_true, h, Option.map_some]
  rfl
theorem box_cell {w : World} {N : Nat} {v : Value} {t : TypeId} (h : w.heap[N]? = some (.cells #[v] t (0, 0))) : w.cell? ⟨N, 0, none⟩ = some v ∧ w.frozen? ⟨N, 0, none⟩ = false := by simp [World.cell?, World.frozen?, h]

def CParam (E : Env) (op : Int) : Prop := ∀ (p N : Nat) (r : Res Sy.Pm) (out : List Sy.Pm) (w0 w : World), Hid (Rdy E w p op) → p ≤ E.l.length → out.length ≤ 6 → w0.heap.size ≤ N → E.R < w0.heap.size → Hid (w0.grownBy w (some E.R)) → Hid (PSt E N w out) → Hid (r = Rp.param E.l E.en p) →
  Calls Tryz.prog 125 #[.pointer (some ⟨N, 0, none⟩), .pointer (some ⟨N + 1, 0, none⟩)] w fun e w' => OneEnds E op w0 (PSt E N) out r e w'


set_option maxRecDepth 100000 in
set_option maxHeartbeats 1000000 in
theorem param_f (E : Env) (G : Good E) (op : Int) : CParam E op := by
  intro p N r out w0 w h hp ho hN hR hg0 hk hr
  obtain ⟨i0, hi, hz0, hz1, hz2⟩ := info_parts Tryz.info61
  obtain ⟨v, k⟩ := hk.out
  have HK := hide2 k
  obtain ⟨k0, _⟩ := box_cell k.rb
  have hN1 : N + 1 < w.heap.size := lt_of_block k.ob
  clear k
  obtain ⟨r1, hr1⟩ : ∃ r1, r1 = Rp.name E.l E.en p := ⟨_, rfl⟩
  have HR1 := hide2 hr1
  have HE0 : Hid (r = Rp.andThen r1 fun q1 s => Rp.andThen (Rp.typ E.l E.en q1) fun q2 t => .ok (q2, ⟨s, t⟩)) := by rw [hr.out, hr1]; rfl
  have HA1 : Hid (∀ q x, r1 = .ok (q, x) → q ≤ E.l.length) := fun q x hx => (Rp.name_adv E.l E.en p q x hp (by rw [← hr1, hx])).2
  clear hr1
  go_enter Tryz.func125, Tryz.ntmps125
  go_wp2_with fail
  refine (name_f E G p _ r1 _ h hp HR1).mono ?_
  rintro e w1 ⟨hg1, hf1⟩
  have HG1 : Hid (w0.grownBy w1 (some E.R)) := grown_tr hg0.out hg1
  have HK1 := hide2 (HK.out.kept hg1 (by omega))
  have hs1 := hg1.size
  clear hg1 k0
  cases r1 with
  | error er =>
    obtain ⟨e1, e2⟩ := er
    obtain ⟨rfl, hd1⟩ := hf1
    have HD1 := hide2 hd1
    have HRr : Hid (r = .error (e1, e2)) := HE0.out
    clear hd1
    go_wp2
    exact ⟨rfl, HG1.out, by rw [HRr.out]; exact ⟨rfl, HD1.out⟩⟩
  | ok qx =>
    obtain ⟨q1, s⟩ := qx
    obtain ⟨⟨v', rfl, rfl, hs⟩, hd1⟩ := hf1
    have HD1 := hide2 hd1
    have hq1 : q1 ≤ E.l.length := HA1.out q1 s rfl
    obtain ⟨k0, _⟩ := box_cell HK1.out.rb
    have hNw : N < w1.heap.size := by omega
    obtain ⟨r2, hr2⟩ : ∃ r2, r2 = Rp.typ E.l E.en q1 := ⟨_, rfl⟩
    have HR2 := hide2 hr2
    have HE1 : Hid (r = Rp.andThen r2 fun q2 t => .ok (q2, ⟨s, t⟩)) := by rw [HE0.out, hr2]; rfl
    clear hr2 hd1
    go_wp2_with fail
    refine (typ_f E G q1 _ r2 _ (hide2 (HD1.out.alloc G _)) hq1 HR2).mono ?_
    rintro e w2 ⟨hg2, hf2⟩
    have HG2 : Hid (w0.grownBy w2 (some E.R)) := grown_tr (grown_alloc HG1.out _) hg2
    have hs2 := hg2.size
    simp only [asz] at hs2
    have HK2 := hide2 (HK1.out.kept (grown_tr (grown_alloc (grown_bel (Below.refl _ w1)) _) hg2) (by omega))
    have hP2 : w2.heap[w1.heap.size]? = some (pmO s 0 ⟨#[]⟩) := kept_on hg2 (by omega) (heap_alloc_new w1 _)
    clear hg2 k0
    cases r2 with
    | error er =>
      clear hP2
      obtain ⟨e1, e2⟩ := er
      obtain ⟨rfl, hd2⟩ := hf2
      have HD2 := hide2 hd2
      have HRr : Hid (r = .error (e1, e2)) := HE1.out
      clear hd2
      go_wp2
      exact ⟨rfl, HG2.out, by rw [HRr.out]; exact ⟨rfl, HD2.out⟩⟩
    | ok qx =>
      obtain ⟨q2, t⟩ := qx
      obtain ⟨⟨v', rfl, rfl, htz⟩, hd2⟩ := hf2
      have HD2 := hide2 hd2
      have HRr : Hid (r = .ok (q2, ⟨s, t⟩)) := HE1.out
      obtain ⟨⟨x0, x1, x2⟩, f0, f1, f2⟩ := pm_cells hP2
      have hw12 : w0.heap.size ≤ w1.heap.size := HG1.out.size
      have HGV : Hid (w0.grownBy ((w2.setCell ⟨w1.heap.size, 1, none⟩ (.int .i64 t.kind)).setCell ⟨w1.heap.size, 2, none⟩ (.string t.gen)) (some E.R)) := grown_set' (grown_set' HG2.out hw12 _) hw12 _
      have hfarV : ∀ b, b ≠ w1.heap.size → ((w2.setCell ⟨w1.heap.size, 1, none⟩ (.int .i64 t.kind)).setCell ⟨w1.heap.size, 2, none⟩ (.string t.gen)).heap[b]? = w2.heap[b]? := fun b hb => by rw [Below.heap_setCell _ _ _ _ hb, Below.heap_setCell _ _ _ _ hb]
      have HKV : Hid (PAt E N ((w2.setCell ⟨w1.heap.size, 1, none⟩ (.int .i64 t.kind)).setCell ⟨w1.heap.size, 2, none⟩ (.string t.gen)) out v) := by
        have k := HK2.out
        refine ⟨(hfarV N (by omega)).trans k.rb, (hfarV (N + 1) (by omega)).trans k.ob, ?_, k.few⟩
        have hvn : v.ownBlock ≠ some w1.heap.size := fun e => by have := (HK1.out.row.lt _ e).2; omega
        exact ownsRow_setCell_other (a := ⟨w1.heap.size, 2, none⟩) (ownsRow_setCell_other (a := ⟨w1.heap.size, 1, none⟩) k.row hvn _) hvn _
      have HPV : Hid (((w2.setCell ⟨w1.heap.size, 1, none⟩ (.int .i64 t.kind)).setCell ⟨w1.heap.size, 2, none⟩ (.string t.gen)).heap[w1.heap.size]? = some (pmO s t.kind t.gen)) := pm_set hP2
      obtain ⟨k1, g1⟩ := box_cell HK2.out.ob
      have hsV : w2.heap.size = ((w2.setCell ⟨w1.heap.size, 1, none⟩ (.int .i64 t.kind)).setCell ⟨w1.heap.size, 2, none⟩ (.string t.gen)).heap.size := by simp only [World.setCell_size]
      have HSV := hide2 hsV
      have hNe : ¬ N + 1 = w1.heap.size := by omega
      have hN2 : N + 1 < w2.heap.size := by omega
      have HP2 := hide2 hP2
      have HFV := hide2 hfarV
      clear hd2 hP2 hfarV hsV
      go_wp2_with (at_builtin; refine wpList_append_where rfl (.tmp 11) (.tmp 13) 54 rfl (N + 2) 61 i0 _ 3 40 Tryz.underlying54 hi hz0 hz1 hz2 rfl (by decide) _ out.length (cells3 out) rfl (HKV.out.row.alloc _) ⟨w2.heap.size, 0, none⟩ 1 1 (itc3 ⟨s, t⟩) rfl rfl (itc3_news2 _ ⟨s, t⟩ _ _ HSV.out) (itc3_one _) (by decide) (by unfold maxLen; omega) (by omega) (by simp only [asz, World.setCell_size]; omega) ?_; intro g cap w6 hown6 hgr6 hw6; obtain ⟨hkM, hgM, hrM, hob⟩ := HKV.out.more (it := ⟨s, t⟩) hN HGV.out ⟨hs, htz⟩ hown6 hgr6; have HKM := hide2 hkM; have HGM := hide2 hgM; have HRM := hide2 hrM; obtain ⟨k3, k2⟩ := box_cell hob; clear hown6 hgr6 hkM hgM hrM hob)
      go_end0
      have hm1 := HD2.out.ne HK2.out.ob
      have hm2 := HD2.out.ne HP2.out
      have hm3 := HD2.out.own HK2.out.row
      have hml := lt_of_block HD2.out.mp
      have hvb := HK1.out.row.lt
      have hfin : ∀ b, b < w2.heap.size → v.ownBlock ≠ some b → b ≠ N + 1 → b ≠ w1.heap.size → (w6.setCell ⟨N + 1, 0, none⟩ (.slice (some ⟨g, 0, none⟩) (out.length + 1) cap)).heap[b]? = w2.heap[b]? := fun b h1 h2 h3 h4 => (HRM.out b (by simp only [World.setCell_size]; exact h1) h2 h3).trans (HFV.out b h4)
      have hdm : Rdy E (w6.setCell ⟨N + 1, 0, none⟩ (.slice (some ⟨g, 0, none⟩) (out.length + 1) cap)) q2 op := Rdy.cells G HD2.out (fun b hb => hfin b (by omega) (fun e => by have := (hvb b e).1; omega) (by omega) (by omega)) (hfin E.M hml hm3 hm1 hm2)
      exact ⟨HGM.out, by rw [HRr.out]; exact ⟨rfl, hdm, _, HKM.out⟩⟩

theorem begins_pm : Begins 124 Rp.bgPm := fun t u ht => beginsParam_any t u ht

theorem bg_param {l : List Lx.Tk} {en p q : Nat} {x : Sy.Pm} (h : Rp.param l en p = .ok (q, x)) : Rp.bgPm (pk l p en) = true := by
  unfold Rp.param at h
  obtain ⟨q1, y, h1, _⟩ := Rp.ok_andThen h
  exact name_named h1

theorem param_one (E : Env) (G : Good E) (op : Int) (N : Nat) (w0 : World) (hN : w0.heap.size ≤ N) (hR : E.R < w0.heap.size) : One E op 125 #[.pointer (some ⟨N, 0, none⟩), .pointer (some ⟨N + 1, 0, none⟩)] w0 (PSt E N) (Rp.param E.l E.en) :=
  ⟨fun w w' out h hg => h.elim fun v k => ⟨v, k.kept hg (by omega)⟩, fun p out w r h hp ho hg hs hr => param_f E G op p N r out w0 w h hp ho hN hR hg hs hr⟩

theorem pst_nil (E : Env) (w : World) : PSt E w.heap.size ((w.alloc (rbO E.R)).alloc (rowP (.slice none 0 0))) [] := by
  refine ⟨.slice none 0 0, ?_, ?_, World.ownsRow_nil _ _ _ _, fun it hit => by simp at hit⟩
  · rw [Below.heap_alloc _ _ _ (by simp)]; exact heap_alloc_new w _
  · have := heap_alloc_new (w.alloc (rbO E.R)) (rowP (.slice none 0 0)); simpa using this

set_option maxRecDepth 100000 in
set_option maxHeartbeats 1000000 in
theorem params_f (E : Env) (G : Good E) (p : Nat) (op : Int) (r : Res (List Sy.Pm)) (w : World) (h : Hid (Rdy E w p op)) (hp : p ≤ E.l.length) (hr : Hid (r = Rp.params E.l E.en p)) :
    Calls Tryz.prog 103 #[.pointer (some ⟨E.R, 0, none⟩)] w fun e w' => Ends E op w r (PmsV w) e w' := by
  have hR := h.out.lt
  have HL : Hid (∀ q y, r = .ok (q, y) → y.length ≤ 6000) := fun q y e => Nat.le_trans (list_len (fun p q x => bg_param) (by have := hr.out; rw [e] at this; exact this.symm)) (by decide)
  go_enter Tryz.func103, Tryz.ntmps103
  go_wp2_with fail
  refine (list_f E G op 124 Rp.bgPm 125 _ (PSt E w.heap.size) (Rp.param E.l E.en) p r w _ (fun a w => by simp [go_sem]) (hide2 begins_pm) (fun w => by simp [go_sem]) (hide2 (param_one E G op w.heap.size w (Nat.le_refl _) hR)) (hide2 (Rp.param_adv E.l E.en)) (hide2 (fun p q x => bg_param)) (hide2 (pst_nil E w)) (hide2 (grown_alloc (grown_alloc (grown_bel (Below.refl _ w)) _) _)) (hide2 ((h.out.alloc G _).alloc G _)) hp hr).mono ?_
  rintro e w1 ⟨hg1, hf1⟩
  have HG1 := hide2 hg1
  clear hg1
  cases r with
  | error er =>
    obtain ⟨e1, e2⟩ := er
    obtain ⟨rfl, hd1⟩ := hf1
    have HD1 := hide2 hd1
    clear hd1
    go_wp2
    exact ⟨rfl, HG1.out, rfl, HD1.out⟩
  | ok qx =>
    obtain ⟨q, out⟩ := qx
    obtain ⟨rfl, hd1, v, hs1⟩ := hf1
    have HD1 := hide2 hd1
    have HKS := hide2 (hs1.out (HL.out q out rfl))
    obtain ⟨cv, _⟩ := box_cell hs1.ob
    have hlt := lt_of_block hs1.ob
    clear hd1 hs1
    go_wp2
    go_ret
    exact ⟨HG1.out, ⟨v, rfl, HKS.out⟩, HD1.out⟩

end Go.Proofs.YtlnikpcoejpknaaGreatDoor

