/- A list in brackets, whatever reads what stands in it. -/
import Derived.Test.YtlnikpcoejpknaaGreatDoorM12
import Derived.Test.YtlnikpcoejpknaaGreatDoorM17
import Derived.Test.YtlnikpcoejpknaaGreatDoorM25
namespace Go.Proofs.YtlnikpcoejpknaaGreatDoor
open Go.RowKit

/-- What comes of reading one thing more: what is kept of all has it at its end. -/
def OneEnds {α : Type} (E : Env) (op : Int) (w0 : World) (St : World → List α → Prop) (out : List α) (r : Res α) (e : Ending) (w' : World) : Prop :=
  w0.grownBy w' (some E.R) ∧ match r with
    | .ok (q, x) => e = .returned (.tuple #[]) ∧ Rdy E w' q op ∧ St w' (out ++ [x])
    | .error (er, at') => e = .panicked [fltE er at'] ∧ ∃ (q : Nat) (o : Int), Rdy E w' q o ∧ op ≤ o ∧ o ≤ op + 2

/-- Whoever reads one thing. -/
structure One {α : Type} (E : Env) (op : Int) (f : FuncId) (caps : Array Value) (w0 : World) (St : World → List α → Prop) (one : Nat → Res α) : Prop where
  keep : ∀ w w' out, St w out → w.grownBy w' (some E.R) → St w' out
  call : ∀ (p : Nat) (out : List α) (w : World) (r : Res α), Hid (Rdy E w p op) → p ≤ E.l.length → out.length ≤ 6 → Hid (w0.grownBy w (some E.R)) → Hid (St w out) → Hid (r = one p) → Calls Tryz.prog f caps w fun e w' => OneEnds E op w0 St out r e w'

/-- What comes of reading all. -/
def ListEnds {α : Type} (E : Env) (op : Int) (w0 : World) (St : World → List α → Prop) (r : Res (List α)) (e : Ending) (w' : World) : Prop :=
  w0.grownBy w' (some E.R) ∧ match r with
    | .ok (q, out) => e = .returned (.tuple #[]) ∧ Rdy E w' q op ∧ St w' out
    | .error (er, at') => e = .panicked [fltE er at'] ∧ ∃ (q : Nat) (o : Int), Rdy E w' q o ∧ op ≤ o ∧ o ≤ op + 2

abbrev Begins (g : FuncId) (bg : Lx.Tk → Bool) : Prop := ∀ (t : Lx.Tk) (u : World), t.text.size ≤ maxLen → Calls Tryz.prog g #[tkV t] u fun e w' => e = .returned (.bool (bg t)) ∧ Below u.heap.size u w'

theorem limit_f (E : Env) (G : Good E) (p : Nat) (op : Int) (g : FuncId) (bg : Lx.Tk → Bool) (n most : Int) (r : Res Unit) (w : World) (h : Hid (Rdy E w p op)) (hp : p ≤ E.l.length)
    (hcf : ∀ (a : Value) (w : World), (callFunc g #[a]).run Tryz.prog w = .ok (.enter g #[a]) w) (hg : Hid (Begins g bg)) (hr : Hid (r = atP () (limitL bg n most (pk E.l p E.en) p))) :
    Calls Tryz.prog 35 #[.pointer (some ⟨E.R, 0, none⟩), .int .i64 n, .int .i64 most, .func (.func g) #[] #[]] w fun e w' => Ends E op w r UnitV e w' := by
  have hz := (G.toks.pk p E.en).1
  refine (limit_any E.B E.R E.ta E.tc E.l p E.en _ op g bg n most (pk E.l p E.en) (limitL bg n most (pk E.l p E.en) p) w h.out.rd h.out.tk G.below hp rfl hcf (fun u => hg.out _ u (by unfold maxLen; omega)) rfl).mono ?_
  intro e w' hf
  exact ends_mk (x := ()) G h.out hf hr.out rfl

/-- What holds at the head of the list's loop. -/
structure ItAt {α : Type} (E : Env) (op : Int) (bg : Lx.Tk → Bool) (w0 : World) (St : World → List α → Prop) (one : Nat → Res α) (r : Res (List α)) (out : List α) (q fu : Nat) (w : World) : Prop where
  few : out.length ≤ 6
  rdy : Rdy E w q op
  le : q ≤ E.l.length
  st : St w out
  grown : w0.grownBy w (some E.R)
  eq : r = Rp.items E.l E.en bg one fu out q
  fuel : E.l.length < q + fu

theorem items_no {α : Type} {l : List Lx.Tk} {en : Nat} {bg : Lx.Tk → Bool} {one : Nat → Res α} {f : Nat} {out : List α} {q : Nat} {e : Int × Nat} (h : .error e = atP () (limitL bg out.length 6 (pk l q en) q)) : Rp.items l en bg one (f + 1) out q = .error e := by
  unfold Rp.items
  cases hl : limitL bg out.length 6 (pk l q en) q with
  | ok q' => rw [hl] at h; simp [atP] at h
  | error e' => rw [hl] at h; simp [atP] at h; rw [h]
theorem items_yes {α : Type} {l : List Lx.Tk} {en : Nat} {bg : Lx.Tk → Bool} {one : Nat → Res α} {f : Nat} {out : List α} {q q' : Nat} {u : Unit} (h : .ok (q', u) = atP () (limitL bg out.length 6 (pk l q en) q)) :
    q' = q ∧ ¬ ((out.length : Int) = 6 ∧ bg (pk l q en) = true) ∧ Rp.items l en bg one (f + 1) out q = Rp.andThen (one q) fun q x => if tk l q ⟨#[41]⟩ then .ok (q + 1, out ++ [x]) else Rp.andThen (Rp.want l en ⟨#[44]⟩ q) fun q2 _ => Rp.items l en bg one f (out ++ [x]) q2 := by
  have hd : limitL bg out.length 6 (pk l q en) q = if (out.length : Int) = 6 ∧ bg (pk l q en) = true then .error (5, (pk l q en).pos) else .ok q := rfl
  by_cases hc : (out.length : Int) = 6 ∧ bg (pk l q en) = true
  · rw [hd, if_pos hc] at h; simp [atP] at h
  · rw [hd, if_neg hc] at h
    simp [atP] at h
    refine ⟨h, hc, ?_⟩
    rw [Rp.items, hd, if_neg hc]


set_option maxRecDepth 100000 in
set_option maxHeartbeats 1000000 in
theorem list_f {α : Type} (E : Env) (G : Good E) (op : Int) (g : FuncId) (bg : Lx.Tk → Bool) (f : FuncId) (caps : Array Value) (St : World → List α → Prop) (one : Nat → Res α) (p : Nat) (r : Res (List α)) (w0 w : World)
    (hcg : ∀ (a : Value) (w : World), (callFunc g #[a]).run Tryz.prog w = .ok (.enter g #[a]) w) (hg : Hid (Begins g bg)) (hcf : ∀ w : World, (callFunc f caps).run Tryz.prog w = .ok (.enter f caps) w) (hO : Hid (One E op f caps w0 St one)) (hadv : Hid (Rp.Adv E.l one)) (hbg : Hid (∀ p q x, one p = .ok (q, x) → bg (pk E.l p E.en) = true))
    (hS : Hid (St w [])) (hG0 : Hid (w0.grownBy w (some E.R))) (h : Hid (Rdy E w p op)) (hp : p ≤ E.l.length) (hr : Hid (r = Rp.list E.l E.en bg one p)) :
    Calls Tryz.prog 123 #[.pointer (some ⟨E.R, 0, none⟩), .func (.func g) #[] #[], .func (.func f) #[] caps] w fun e w' => ListEnds E op w0 St r e w' := by
  have hR := h.out.lt
  obtain ⟨r1, hr1⟩ : ∃ r1, r1 = Rp.want E.l E.en ⟨#[40]⟩ p := ⟨_, rfl⟩
  have HR1 := hide2 hr1
  have HE0 : Hid (r = Rp.andThen r1 fun q _ => if tk E.l q ⟨#[41]⟩ then .ok (q + 1, []) else Rp.items E.l E.en bg one (E.l.length + 1) [] q) := by rw [hr.out, hr1]; rfl
  have HA1 : Hid (∀ q x, r1 = .ok (q, x) → q ≤ E.l.length) := fun q x hx => (Rp.want_adv E.l E.en _ p q x hp (by rw [← hr1, hx])).2
  clear hr1
  go_enter Tryz.func123, Tryz.ntmps123
  go_wp2_with fail
  refine (want_f E G p _ ⟨#[40]⟩ r1 _ h hp HR1).mono ?_
  rintro e w1 ⟨hg1, hf1⟩
  have HG1 : Hid (w0.grownBy w1 (some E.R)) := grown_tr hG0.out hg1
  have HS1 := hide2 (hO.out.keep _ _ _ hS.out hg1)
  clear hg1
  cases r1 with
  | error er =>
    obtain ⟨e1, e2⟩ := er
    obtain ⟨rfl, hd1⟩ := hf1
    have HD1 := hide2 hd1
    have HRr : Hid (r = .error (e1, e2)) := HE0.out
    clear hd1
    go_wp2
    exact ⟨rfl, HG1.out, by rw [HRr.out]; exact ⟨rfl, HD1.out⟩⟩
  | ok qx =>
    obtain ⟨q1, u1⟩ := qx
    obtain ⟨⟨v, rfl, rfl⟩, hd1⟩ := hf1
    have HD1 := hide2 hd1
    have hq1 : q1 ≤ E.l.length := HA1.out q1 u1 rfl
    obtain ⟨b, hb⟩ : ∃ b, b = tk E.l q1 ⟨#[41]⟩ := ⟨_, rfl⟩
    have HB := hide2 hb
    have HE1 : Hid (r = if b then .ok (q1 + 1, []) else Rp.items E.l E.en bg one (E.l.length + 1) [] q1) := by rw [HE0.out, hb]; rfl
    clear hb hd1
    go_wp2_with fail
    refine (take_f E G q1 _ ⟨#[41]⟩ b _ _ HD1 hq1 HB rfl).mono ?_
    rintro e w2 ⟨rfl, hd2, hg2⟩
    have HG2 : Hid (w0.grownBy w2 (some E.R)) := grown_tr HG1.out hg2
    have HS2 := hide2 (hO.out.keep _ _ _ HS1.out hg2)
    have HD2 := hide2 hd2
    clear hg2 hd2
    cases b with
    | true =>
      go_wp2
      go_end0
      exact ⟨HG2.out, by rw [HE1.out]; exact ⟨rfl, HD2.out, HS2.out⟩⟩
    | false =>
      have HS0 : Hid (ItAt E op bg w0 St one r [] q1 (E.l.length + 1) w2) := ⟨by simp, HD2.out, hq1, HS2.out, HG2.out, HE1.out, by omega⟩
      clear HD2 HE1 HE0
      go_wp2
      go_loopw [6] (fun n wr => ∃ (out : List α) (q fu : Nat), n = .int .i64 out.length ∧ ItAt E op bg w0 St one r out q fu wr) (fun n _ => 7 - (intOf n).toNat)
      case atStart => exact ⟨[], q1, _, rfl, HS0.out⟩
      case round =>
        obtain ⟨out, q, fu, rfl, hA⟩ := hrel
        clear HS0 HG1 HG2
        have HA := hide2 hA
        have hfew := hA.few
        have hq := hA.le
        have HD3 := hide2 hA.rdy
        obtain ⟨f', hf'⟩ : ∃ f', fu = f' + 1 := ⟨fu - 1, by have := hA.fuel; omega⟩
        have HFU := hide2 hf'
        clear hA hf'
        obtain ⟨r3, hr3⟩ : ∃ r3, r3 = atP () (limitL bg out.length 6 (pk E.l q E.en) q) := ⟨_, rfl⟩
        have HR3 := hide2 hr3
        clear hr3
        go_wp2_with fail
        refine (limit_f E G q _ g bg _ 6 r3 _ HD3 hq hcg hg HR3).mono ?_
        rintro e w3 ⟨hg3, hf3⟩
        have HG3 : Hid (w0.grownBy w3 (some E.R)) := grown_tr HA.out.grown hg3
        have HS3 := hide2 (hO.out.keep _ _ _ HA.out.st hg3)
        clear hg3
        cases r3 with
        | error er =>
          obtain ⟨e1, e2⟩ := er
          obtain ⟨rfl, hd3⟩ := hf3
          have HD3 := hide2 hd3
          have HRr : Hid (r = .error (e1, e2)) := (by rw [HA.out.eq, HFU.out]; exact items_no HR3.out)
          clear hd3
          go_wp2
          exact ⟨rfl, HG3.out, by rw [HRr.out]; exact ⟨rfl, HD3.out⟩⟩
        | ok qx =>
          obtain ⟨q3, u3⟩ := qx
          obtain ⟨⟨v, rfl, rfl⟩, hd3⟩ := hf3
          obtain ⟨hqq, hlim, hit⟩ := items_yes (one := one) (f := f') HR3.out
          subst hqq
          have HD4 := hide2 hd3
          obtain ⟨r4, hr4⟩ : ∃ r4, r4 = one q3 := ⟨_, rfl⟩
          have HR4 := hide2 hr4
          have HE4 : Hid (r = Rp.andThen r4 fun q x => if tk E.l q ⟨#[41]⟩ then .ok (q + 1, out ++ [x]) else Rp.andThen (Rp.want E.l E.en ⟨#[44]⟩ q) fun q2 _ => Rp.items E.l E.en bg one f' (out ++ [x]) q2) := by rw [HA.out.eq, HFU.out, hit, hr4]; rfl
          have HA4 : Hid (∀ q x, r4 = .ok (q, x) → q3 < q ∧ q ≤ E.l.length ∧ out.length + 1 ≤ 6) := fun q x hx => by
            have h1 := hadv.out q3 q x hq (by rw [← hr4, hx])
            have h2 := hbg.out q3 q x (by rw [← hr4, hx])
            refine ⟨h1.1, h1.2, ?_⟩
            rcases Nat.lt_or_ge out.length 6 with h3 | h3
            · omega
            · exact absurd ⟨by omega, h2⟩ hlim
          have hfu := HA.out.fuel
          have HFU2 : Hid (E.l.length < q3 + (f' + 1)) := by rw [← HFU.out]; exact hfu
          clear hd3 hr4 hlim hit HR3 hfu
          go_wp2_with fail
          refine (hO.out.call q3 out _ r4 HD4 hq hfew HG3 HS3 HR4).mono ?_
          rintro e w4 ⟨hg4, hf4⟩
          have HG4 := hide2 hg4
          clear hg4
          cases r4 with
          | error er =>
            obtain ⟨e1, e2⟩ := er
            obtain ⟨rfl, hd4⟩ := hf4
            have HD4 := hide2 hd4
            have HRr : Hid (r = .error (e1, e2)) := HE4.out
            clear hd4
            go_wp2
            exact ⟨rfl, HG4.out, by rw [HRr.out]; exact ⟨rfl, HD4.out⟩⟩
          | ok qx =>
            obtain ⟨q4, x⟩ := qx
            obtain ⟨rfl, hd4, hs4⟩ := hf4
            have HD5 := hide2 hd4
            have HS4 := hide2 hs4
            obtain ⟨hlt4, hq4, hfew4⟩ := HA4.out q4 x rfl
            obtain ⟨b4, hb4⟩ : ∃ b, b = tk E.l q4 ⟨#[41]⟩ := ⟨_, rfl⟩
            have HB4 := hide2 hb4
            have HE5 : Hid (r = if b4 then .ok (q4 + 1, out ++ [x]) else Rp.andThen (Rp.want E.l E.en ⟨#[44]⟩ q4) fun q2 _ => Rp.items E.l E.en bg one f' (out ++ [x]) q2) := by rw [HE4.out, hb4]; rfl
            clear hd4 hs4 hb4
            go_wp2_with fail
            refine (take_f E G q4 _ ⟨#[41]⟩ b4 _ _ HD5 hq4 HB4 rfl).mono ?_
            rintro e w5 ⟨rfl, hd5, hg5⟩
            have HG5 : Hid (w0.grownBy w5 (some E.R)) := grown_tr HG4.out hg5
            have HS5 := hide2 (hO.out.keep _ _ _ HS4.out hg5)
            have HD6 := hide2 hd5
            clear hg5 hd5
            cases b4 with
            | true =>
              go_wp2
              go_end0
              exact ⟨HG5.out, by rw [HE5.out]; exact ⟨rfl, HD6.out, HS5.out⟩⟩
            | false =>
              obtain ⟨r6, hr6⟩ : ∃ r6, r6 = Rp.want E.l E.en ⟨#[44]⟩ q4 := ⟨_, rfl⟩
              have HR6 := hide2 hr6
              have HE6 : Hid (r = Rp.andThen r6 fun q2 _ => Rp.items E.l E.en bg one f' (out ++ [x]) q2) := by rw [HE5.out, hr6]; rfl
              have HA6 : Hid (∀ q x, r6 = .ok (q, x) → q4 < q ∧ q ≤ E.l.length) := fun q x hx => Rp.want_adv E.l E.en _ q4 q x hq4 (by rw [← hr6, hx])
              clear hr6
              go_wp2_with fail
              refine (want_f E G q4 _ ⟨#[44]⟩ r6 _ HD6 hq4 HR6).mono ?_
              rintro e w6 ⟨hg6, hf6⟩
              have HG6 : Hid (w0.grownBy w6 (some E.R)) := grown_tr HG5.out hg6
              have HS6 := hide2 (hO.out.keep _ _ _ HS5.out hg6)
              clear hg6
              cases r6 with
              | error er =>
                obtain ⟨e1, e2⟩ := er
                obtain ⟨rfl, hd6⟩ := hf6
                have HD6 := hide2 hd6
                have HRr : Hid (r = .error (e1, e2)) := HE6.out
                clear hd6
                go_wp2
                exact ⟨rfl, HG6.out, by rw [HRr.out]; exact ⟨rfl, HD6.out⟩⟩
              | ok qx =>
                obtain ⟨q6, u6⟩ := qx
                obtain ⟨⟨v, rfl, rfl⟩, hd6⟩ := hf6
                obtain ⟨hlt6, hq6⟩ := HA6.out q6 u6 rfl
                have HN : Hid (ItAt E op bg w0 St one r (out ++ [x]) q6 f' w6) := ⟨by simpa using hfew4, hd6, hq6, HS6.out, HG6.out, HE6.out, by have := HFU2.out; omega⟩
                clear hd6
                go_wp2
                go_roundw
                case rel => exact ⟨out ++ [x], q6, f', by simp <;> go_num, HN.out⟩
                case measure => simp [intOf]; omega

end Go.Proofs.YtlnikpcoejpknaaGreatDoor

/- kids, out of its closure and list. -/
namespace Go.Proofs.YtlnikpcoejpknaaGreatDoor
open Go.RowKit

theorem tk_text {l : List Lx.Tk} {p : Nat} {s : ByteArray} (en : Nat) (h : tk l p s = true) : (pk l p en).text = s := by
  unfold tk at h
  unfold pk
  cases hl : l[p]? with
  | none => rw [hl] at h; simp at h
  | some t => rw [hl] at h; simpa using h
theorem name_named {l : List Lx.Tk} {en p q : Nat} {x : ByteArray} (h : Rp.name l en p = .ok (q, x)) : Lx.named (pk l p en).text.toList = true := by
  unfold Rp.name nameL at h
  split at h
  · rename_i h2
    split at h2
    · simp at h2
    · split at h2
      · simp at h2
      · rename_i h3; simpa using h3
  · simp at h

theorem bg_word {l : List Lx.Tk} {en p : Nat} {s : ByteArray} (h : tk l p s = true) (hs : oneOf s exprW = true) : Rp.bgEx (pk l p en) = true := by
  unfold Rp.bgEx
  rw [tk_text en h, hs]
  simp

theorem bg_ahead {l : List Lx.Tk} {en d : Nat} {prev : Nat → Res Sy.Ex} {p q : Nat} {x : Sy.Ex} (h : Rp.aheadS l en d prev p = .ok (q, x)) : Rp.bgEx (pk l p en) = true := by
  unfold Rp.aheadS at h
  split at h
  · rename_i h1; exact bg_word h1 (by decide)
  split at h
  · rename_i h1; exact bg_word h1 (by decide)
  unfold Rp.piece at h
  split at h
  · rename_i h1; unfold Rp.bgEx; rw [h1]; simp
  split at h
  · rename_i h1; exact bg_word h1 (by decide)
  split at h
  · rename_i h1; exact bg_word h1 (by decide)
  split at h
  · rename_i h1; exact bg_word h1 (by decide)
  split at h
  · rename_i h1; exact bg_word h1 (by decide)
  split at h
  · rename_i h1; exact bg_word h1 (by decide)
  split at h
  · rename_i h1; exact bg_word h1 (by decide)
  split at h
  · rename_i h1; exact bg_word h1 (by decide)
  split at h
  · rename_i h1; exact bg_word h1 (by decide)
  unfold Rp.named at h
  obtain ⟨q1, y, h1, _⟩ := Rp.ok_andThen h
  unfold Rp.bgEx
  rw [name_named h1]
  simp

theorem from_first {l : List Lx.Tk} {en : Nat} {ah : Nat → Res Sy.Ex} : ∀ (k p q : Nat) (x : Sy.Ex), Rp.from' l en ah k p = .ok (q, x) → ∃ q1 y, ah p = .ok (q1, y)
  | 0, p, q, x, h => ⟨q, x, h⟩
  | k + 1, p, q, x, h => by
    rw [Rp.from'] at h
    obtain ⟨q1, y, h1, _⟩ := Rp.ok_andThen h
    exact from_first k p q1 y h1

theorem bg_expr {l : List Lx.Tk} {en d p q : Nat} {x : Sy.Ex} (h : Rp.expr l en d (Rp.prevOf l en d) p = .ok (q, x)) : Rp.bgEx (pk l p en) = true := by
  unfold Rp.expr at h
  split at h
  · simp at h
  · rename_i hd
    obtain ⟨d', rfl⟩ : ∃ d', d = d' + 1 := ⟨d - 1, by omega⟩
    obtain ⟨q1, y, h1⟩ := from_first _ _ _ _ h
    have h2 : Rp.ahead l en d' p = .ok (q1, y) := h1
    rw [Rp.ahead_eq] at h2
    exact bg_ahead h2

theorem kid_one (E : Env) (d N : Nat) (w0 : World) (hK : CKid E d) (hN : w0.heap.size ≤ N) (hR : E.R < w0.heap.size) : One E (200 - (d : Int)) 169 #[.pointer (some ⟨N + 1, 0, none⟩), .pointer (some ⟨N, 0, none⟩)] w0 (KSt E N) (Rp.expr E.l E.en d (Rp.prevOf E.l E.en d)) :=
  ⟨fun w w' out h hg => h.kept hg (by omega), fun p out w r h hp ho hg hs hr => (hK p N r out w0 w h hp ho hN hR hg hs hr).mono (fun e w' he => by cases r <;> exact he)⟩

theorem begins_ex : Begins 168 Rp.bgEx := fun t u ht => beginsExpr_any t u ht

/-- What the row of kids comes to. -/
theorem KSt.out {E : Env} {w w' : World} {out : List Sy.Ex} (h : KSt E w.heap.size w' out) (hl : out.length ≤ 6000) : ∃ v, w'.heap[w.heap.size + 1]? = some (rowO v) ∧ KsV w w' out v := by
  obtain ⟨its, v, n, rfl, k⟩ := h
  have hl2 : its.length ≤ 6000 := by simpa using hl
  obtain ⟨a, c, hv, hq⟩ := own_exq (Q := Mad w w') (k := 0) (nn := 0) (s := ⟨#[]⟩) k.row (fun it hit => (k.kids it hit).keep (fun b hb => ⟨⟨by omega, hb.2.1⟩, rfl⟩)) (fun g hg => by have := k.row.lt g hg; exact ⟨by omega, this.2⟩) hl2 (by decide)
  exact ⟨v, k.ob, a, c, n + 1, by rw [hv]; simp, hq⟩

theorem kst_nil (E : Env) (w : World) : KSt E w.heap.size ((w.alloc (rbO E.R)).alloc (rowO (.slice none 0 0))) [] := by
  refine ⟨[], .slice none 0 0, 0, rfl, ?_, ?_, World.ownsRow_nil _ _ _ _, fun it hit => by simp at hit⟩
  · rw [Below.heap_alloc _ _ _ (by simp)]; exact heap_alloc_new w _
  · have := heap_alloc_new (w.alloc (rbO E.R)) (rowO (.slice none 0 0)); simpa using this

theorem items_len {α : Type} {l : List Lx.Tk} {en : Nat} {bg : Lx.Tk → Bool} {one : Nat → Res α} (hbg : ∀ p q x, one p = .ok (q, x) → bg (pk l p en) = true) : ∀ (f : Nat) (out : List α) (p q : Nat) (y : List α), out.length ≤ 6 → Rp.items l en bg one f out p = .ok (q, y) → y.length ≤ 6
  | 0, out, p, q, y, ho, h => by simp [Rp.items] at h; rw [← h.2]; exact ho
  | f + 1, out, p, q, y, ho, h => by
    cases hl : atP () (limitL bg out.length 6 (pk l p en) p) with
    | error e => rw [items_no hl.symm] at h; simp at h
    | ok qx =>
      obtain ⟨q', u⟩ := qx
      obtain ⟨_, hlim, hit⟩ := items_yes (one := one) (f := f) hl.symm
      rw [hit] at h
      obtain ⟨q1, x, h1, h2⟩ := Rp.ok_andThen h
      have h3 : out.length + 1 ≤ 6 := by
        rcases Nat.lt_or_ge out.length 6 with h3 | h3
        · omega
        · exact absurd ⟨by omega, hbg _ _ _ h1⟩ hlim
      split at h2
      · simp at h2; rw [← h2.2]; simpa using h3
      · obtain ⟨q2, u2, _, h4⟩ := Rp.ok_andThen h2
        exact items_len hbg f _ _ _ _ (by simpa using h3) h4
theorem list_len {α : Type} {l : List Lx.Tk} {en : Nat} {bg : Lx.Tk → Bool} {one : Nat → Res α} (hbg : ∀ p q x, one p = .ok (q, x) → bg (pk l p en) = true) {p q : Nat} {y : List α} (h : Rp.list l en bg one p = .ok (q, y)) : y.length ≤ 6 := by
  unfold Rp.list at h
  obtain ⟨q1, u, _, h2⟩ := Rp.ok_andThen h
  split at h2
  · simp at h2; rw [h2.2]; simp
  · exact items_len hbg _ _ _ _ _ (by simp) h2

set_option maxRecDepth 100000 in
set_option maxHeartbeats 1000000 in
theorem kids_f (E : Env) (G : Good E) (d : Nat) (hK : Hid (CKid E d)) : CKids E d := by
  intro p r w h hp hr
  have hR := h.out.lt
  have HL : Hid (∀ q y, r = .ok (q, y) → y.length ≤ 6000) := fun q y e => Nat.le_trans (list_len (fun p q x => bg_expr) (by have := hr.out; rw [e] at this; exact this.symm)) (by decide)
  go_enter Tryz.func164, Tryz.ntmps164
  go_wp2_with fail
  refine (list_f E G (200 - (d : Int)) 168 Rp.bgEx 169 _ (KSt E w.heap.size) (Rp.expr E.l E.en d (Rp.prevOf E.l E.en d)) p r w _ (fun a w => by simp [go_sem]) (hide2 begins_ex) (fun w => by simp [go_sem]) (hide2 (kid_one E d w.heap.size w hK.out (Nat.le_refl _) hR)) (hide2 (Rp.expr_adv (Rp.prev_adv E.l E.en d))) (hide2 (fun p q x => bg_expr)) (hide2 (kst_nil E w)) (hide2 (grown_alloc (grown_alloc (grown_bel (Below.refl _ w)) _) _)) (hide2 ((h.out.alloc G _).alloc G _)) hp hr).mono ?_
  rintro e w1 ⟨hg1, hf1⟩
  have HG1 := hide2 hg1
  clear hg1
  cases r with
  | error er =>
    obtain ⟨e1, e2⟩ := er
    obtain ⟨rfl, hd1⟩ := hf1
    have HD1 := hide2 hd1
    clear hd1
    go_wp2
    exact ⟨rfl, HG1.out, rfl, HD1.out⟩
  | ok qx =>
    obtain ⟨q, out⟩ := qx
    obtain ⟨rfl, hd1, hs1⟩ := hf1
    have HD1 := hide2 hd1
    obtain ⟨v, hv, hks⟩ := hs1.out (HL.out q out rfl)
    have HKS := hide2 hks
    have cv : w1.cell? ⟨w.heap.size + 1, 0, none⟩ = some v := by simp [World.cell?, hv]
    have hlt := lt_of_block hv
    clear hd1 hs1 hks hv
    go_wp2
    go_ret
    exact ⟨HG1.out, ⟨v, rfl, HKS.out⟩, HD1.out⟩

end Go.Proofs.YtlnikpcoejpknaaGreatDoor

/- Expressions, by induction on the levels that are left. -/
namespace Go.Proofs.YtlnikpcoejpknaaGreatDoor
open Go.RowKit

theorem ahead_of (E : Env) (G : Good E) (d : Nat) (hX : CExpr E d) (hT : CTurned E d) : CAhead E d :=
  have hK := kids_f E G d (hide2 (kid_f E G d (hide2 hX)))
  ahead_f E G d (hide2 hT) (hide2 (piece_f E G d (hide2 hX) (hide2 hK) (hide2 (exactly1_f E G d (hide2 hX))) (hide2 (exactly2_f E G d (hide2 hX))) (hide2 (named_f E G d (hide2 hK)))))

theorem both_f (E : Env) (G : Good E) : ∀ d, d ≤ 200 → CExpr E d ∧ CAhead E d
  | 0, _ => ⟨expr_none E G, ahead_of E G 0 (expr_none E G) (turned_none E G)⟩
  | d + 1, hd => by
    obtain ⟨_, hA⟩ := both_f E G d (by omega)
    have f0 := from_zero E G d (hide2 hA)
    have f1 := from_succ E G d 0 (by omega) (hide2 f0)
    have f2 := from_succ E G d 1 (by omega) (hide2 f1)
    have f3 := from_succ E G d 2 (by omega) (hide2 f2)
    have f4 := from_succ E G d 3 (by omega) (hide2 f3)
    have f5 := from_succ E G d 4 (by omega) (hide2 f4)
    have hX := expr_more E G d (by omega) (hide2 f5)
    exact ⟨hX, ahead_of E G (d + 1) hX (turned_more E G d (by omega) (hide2 hA))⟩

/-- WHAT reader.expr ANSWERS. -/
theorem expr_f (E : Env) (G : Good E) (d : Nat) (hd : d ≤ 200) : CExpr E d := (both_f E G d hd).1

end Go.Proofs.YtlnikpcoejpknaaGreatDoor

